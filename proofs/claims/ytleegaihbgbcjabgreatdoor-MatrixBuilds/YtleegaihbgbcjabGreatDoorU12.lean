import Derived.Test.YtleegaihbgbcjabGreatDoorU08
set_option linter.unusedVariables false
set_option linter.unusedSimpArgs false
set_option maxRecDepth 100000
set_option maxHeartbeats 16000000
open Go.Proofs.Tryz
namespace Go.Proofs.YtleegaihbgbcjabGreatDoor
open Go.RowKit Num Bit
def lR(ao:Option Addr)(cap lo:Nat):Option Addr:=
 match ao with
 | none=>none
 | some a=>if cap=lo then some a else some (a.add lo)
theorem BW{w:World}{ao:Option Addr}{l:List Int}{cap:Nat}(h:Nd w ao l)(lo c:Nat)(h1:lo+c<=l.length)(hc:l.length<=cap):Nd w (lR ao cap lo) ((l.drop lo).take c):=by
 intro h0;have hlen:((l.drop lo).take c).length=c:=by simp;omega
 rw[hlen]at h0;obtain⟨b,off,rfl,hb,hcc⟩:=h (by omega)
 have e:lR (some ⟨b,off,none⟩) cap lo=some ⟨b,off+lo,none⟩:=by
  unfold lR;simp only;rw[if_neg (by omega)];congr 1;unfold Addr.add;split
  .subst_vars;rfl
  .rfl
 refine⟨b,off+lo,e,hb,fun i hi=>?_⟩;rw[hlen]at hi;rw[k_ _ _ _ hi,qh,Nat.add_assoc];exact hcc _ (by omega)
theorem B_{w:World}{g:Nat}{xs:List Nat}{G:Nat}(h:aa w g (iv (gC (aI xs G))) 130):Nd w (some ⟨g,0,none⟩) (ahT xs G):=by
 intro h0;refine⟨g,0,rfl,h.lt,fun i hi=>?_⟩;rw[jU]at hi;have l8:(aI xs G).length<=8:=by rw[eJ];omega
 rw[Nat.zero_add,vC h i (by rw[kQ];omega)];unfold ahT;rw[k_ _ _ _ hi]
theorem AU(N:Int)(xs:List Nat)(su sb:List Int)(h:am N xs=false):pchk N xs su sb=false:=by unfold pchk;rw[h];rfl
theorem AR(m:Nat)(xs:List Nat)(su sb:List Int)(h:su.length≠m/512+1):pchk (m:Int) xs su sb=false:=by
 cases e:pchk (m:Int) xs su sb with
 | false=>rfl
 | true=>
  obtain⟨_,a,_⟩:=kF _ _ _ _ e;rw[a,kL,Int.toNat_natCast]at h;exact absurd rfl h
theorem AQ(N:Int)(xs:List Nat)(su sb:List Int)(h:sb.length≠xs.length):pchk N xs su sb=false:=by
 cases e:pchk N xs su sb with
 | false=>rfl
 | true=>
  obtain⟨_,_,a⟩:=kF _ _ _ _ e;rw[a,iU]at h;exact absurd rfl h
theorem AP(m:Nat)(xs:List Nat)(su sb:List Int)(hk:am (m:Int) xs=true)(G:Nat)(hG:G<=m/512)(h:gi su G≠(cntB xs (512*G):Int)):pchk (m:Int) xs su sb=false:=by
 cases e:pchk (m:Int) xs su sb with
 | false=>rfl
 | true=>
  obtain⟨_,a,_⟩:=kF _ _ _ _ e;refine absurd ?_ h;rw[a];unfold supL;rw[my _ _ _ _ (by rw[Int.toNat_natCast];omega),mW m xs hk G hG]
theorem xx(m:Nat)(xs:List Nat)(hk:am (m:Int) xs=true)(hl:xs.length=(m+63)/64)(G:Nat):((subL (m:Int) xs).drop (8*G)).take (aI xs G).length=ahT xs G:=by
 have hg:=eJ xs G;refine ja (by rw[jU,List.length_take,List.length_drop,iU];omega) fun i hi=>?_;rw[List.length_take,List.length_drop,iU]at hi
 rw[k_ _ _ _ (by omega),qh,qi xs G i (by omega),<-oN m xs hk hl G i (by omega)];unfold subL;rw[ld _ _ _ _ (by omega)]
theorem AO(m:Nat)(xs:List Nat)(su sb:List Int)(hk:am (m:Int) xs=true)(hl:xs.length=(m+63)/64)(G:Nat)(h:(sb.drop (8*G)).take (aI xs G).length≠ahT xs G):pchk (m:Int) xs su sb=false:=by
 cases e:pchk (m:Int) xs su sb with
 | false=>rfl
 | true=>
  obtain⟨_,_,a⟩:=kF _ _ _ _ e;refine absurd ?_ h;rw[a];exact xx m xs hk hl G
def gD(m:Nat)(xs:List Nat)(su sb:List Int)(G:Nat):Prop:=(∀j,j<G->gi su j=fh (m:Int) xs j)/\∀j,j<min (8*G) xs.length->gi sb j=fi (m:Int) xs j
theorem gD.zero(m:Nat)(xs:List Nat)(su sb:List Int):gD m xs su sb 0:=⟨fun j h=>absurd h (by omega),fun j h=>absurd h (by omega)⟩
theorem gD.step(m:Nat)(xs:List Nat)(su sb:List Int)(hk:am (m:Int) xs=true)(hl:xs.length=(m+63)/64)(G:Nat)(hG:G<=m/512)(h:gD m xs su sb G)(h1:gi su G=(cntB xs (512*G):Int))(h2:(sb.drop (8*G)).take (aI xs G).length=ahT xs G):gD m xs su sb (G+1):=by
 refine⟨fun j hj=>?_,fun j hj=>?_⟩
 .by_cases c:j=G
  .subst c;rw[h1,mW m xs hk j hG]
  .exact h.1 j (by omega)
 .by_cases c:j<8*G
  .exact h.2 j (by omega)
  .have hlg:=eJ xs G;have a:=qi xs G (j-8*G) (by omega);rw[<-h2,k_ _ _ _ (by omega),qh,<-oN m xs hk hl G (j-8*G) (by omega),show 8*G+(j-8*G)=j by omega]at a;exact a
theorem gD.last(m:Nat)(xs:List Nat)(su sb:List Int)(hk:am (m:Int) xs=true)(hl:xs.length=(m+63)/64)(hs:su.length=m/512+1)(ht:sb.length=xs.length)(h:gD m xs su sb (m/512+1)):pchk (m:Int) xs su sb=true:=by
 unfold pchk;rw[hk,Bool.true_and,Bool.and_eq_true,decide_eq_true_eq,decide_eq_true_eq];refine⟨ja (by rw[hs,kL,Int.toNat_natCast]) fun j hj=>?_,ja (by rw[ht,iU]) fun j hj=>?_⟩
 .unfold supL;rw[my _ _ _ _ (by rw[Int.toNat_natCast];omega)];exact h.1 j (by omega)
 .unfold subL;rw[ld _ _ _ _ (by omega)];exact h.2 j (by omega)
theorem vu(N:Int)(ao:Option Addr)(xs:List Nat)(cap:Nat)(so:Option Addr)(su:List Int)(sc:Nat)(tO:Option Addr)(sb:List Int)(tc:Nat)(w:World)(h:jh w N ao xs cap so su sc tO sb tc):
  Qq 99 #[.agg #[.int .i64 N,.slice ao xs.length cap,.slice so su.length sc,.slice tO sb.length tc]] w (.bool (pchk N xs su sb)):=by
 obtain⟨W,hW⟩:∃W,W=w.alloc (.cells #[.int .i64 N,.slice ao xs.length cap,.slice so su.length sc,.slice tO sb.length tc] 55):=⟨_,rfl⟩;have bW:=ba hW;have B1:=bE hW;cases hk:am N xs with
 | false=>
  have R:Hid (pchk N xs su sb=false):=AU N xs su sb hk;rw[R.out]
  have C1:Hid (Qz w 83 #[.agg #[.int .i64 N,.slice ao xs.length cap]] (.bool false)):=fun w0 hb=>by
   have:=cg N ao xs cap w0 (h.x.keep hb);rw[hk]at this;exact this
  clear h;go_enter func99,ntmps99;go_wp2;rw[<-hW];clear hW;refine bn [] (fun w'=>aa w' w.heap.size [.int .i64 N,.slice ao xs.length cap,.slice so su.length sc,.slice tO sb.length tc] 55) (by kernel_rfl) ?_
  have hS:aa W.drew w.heap.size [.int .i64 N,.slice ao xs.length cap,.slice so su.length sc,.slice tO sb.length tc] 55:=B1;have bV:Below w.heap.size w W.drew:=bW.drew;generalize W.drew=V at *;clear B1 bW
  refine aK 0 hS ?_;refine aF 1 hS rfl (fun w0 h0=>by have c0:=h0.cell 0 rfl;have c1:=h0.cell 1 rfl;go_simp;try with_reducible rfl) ?_;refine aO 2 ?_;intro K hK;go_simp;refine mr (C1.out _ bV) fun w2 hb=>?_;have hS2:=hS.kept hb;have bw2:=bg bV hb;refine hK.out _ _ (fun _=>hS2) ?_;clear hK K;try simp only[Act.put,aw,ar,an,ah,aj,ai]
  refine aK 3 hS2 ?_;refine aK 4 hS2 ?_;refine aS 5 hS2 ?_;refine aS 6 hS2 ?_;refine aS 7 hS2 ?_;refine aS 8 hS2 ?_;refine aS 9 hS2 ?_;refine aS 10 hS2 ?_;refine aS 11 hS2 ?_
  refine aK 12 hS2 ?_;refine aK 13 hS2 ?_;refine aS 14 hS2 ?_;refine aS 15 hS2 ?_;refine aS 16 hS2 ?_;refine aS 17 hS2 ?_;refine aS 18 hS2 ?_;refine aS 19 hS2 ?_;refine aS 20 hS2 ?_
  refine aS 21 hS2 ?_;refine aK 22 hS2 ?_;refine az.done (by kernel_rfl) ?_ _;clear hS2 hS hb bV C1 V;go_wp2;go_ret;exact⟨rfl,bw2⟩
 | true=>
  obtain⟨m,rfl,hm,hl⟩:=qx N xs hk
  have C1:Hid (Qz w 83 #[.agg #[.int .i64 m,.slice ao xs.length cap]] (.bool true)):=fun w0 hb=>by
   have:=cg (m:Int) ao xs cap w0 (h.x.keep hb);rw[hk]at this;exact this
  have C3:Hid (∀w0,Qq 85 #[.agg #[.int .i64 m,.slice ao xs.length cap]] w0 (.int .i64 ((m/512+1:Nat):Int))):=fun w0=>uM m hm ao xs.length cap w0
  obtain⟨M,hM⟩:∃M,Hid (M=m/512+1):=⟨_,rfl⟩;rw[<-hM.out]at C3;have hMb:M<=2049:=by have:=hM.out;omega
  have HL:Hid (xs.length=(m+63)/64):=hl;have hlx:xs.length<=16384:=by omega
  clear hl;by_cases h1:su.length=M
  .have h1':((su.length:Int) != (M:Int))=false:=by simp[h1]
   by_cases h2:sb.length=xs.length
   .have h2':((sb.length:Int) != (xs.length:Int))=false:=by simp[h2]
    have H2:Hid (sb.length=xs.length):=h2;have H1:Hid (su.length=M):=h1
    have C4:Hid (∀(G:Nat) w0,G<=m/512->Below w.heap.size w w0->Calls prog 86 #[.agg #[.int .i64 m,.slice ao xs.length cap],.int .i64 (G:Int)] w0 fun e w'=>∃bo bc,e=.returned (.slice bo (aI xs G).length bc)/\Wd w' bo (aI xs G)/\Below w0.heap.size w0 w'):=fun G w0 hG hb=>rr m hm ao xs cap HL.out h.c G hG w0 (h.x.keep hb)
    clear h1 h2;go_enter func99,ntmps99;go_wp2;rw[<-hW];clear hW
    refine bn [] (fun w'=>aa w' w.heap.size [.int .i64 m,.slice ao xs.length cap,.slice so su.length sc,.slice tO sb.length tc] 55) (by kernel_rfl) ?_
    have hS:aa W.drew w.heap.size [.int .i64 m,.slice ao xs.length cap,.slice so su.length sc,.slice tO sb.length tc] 55:=B1;have bV:Below w.heap.size w W.drew:=bW.drew;generalize W.drew=V at *;clear B1 bW
    refine aK 0 hS ?_;refine aF 1 hS rfl (fun w0 h0=>by have c0:=h0.cell 0 rfl;have c1:=h0.cell 1 rfl;go_simp;try with_reducible rfl) ?_;refine aO 2 ?_;intro K hK;go_simp;refine mr (C1.out _ bV) fun w2 hb=>?_;have hS2:=hS.kept hb;have bw2:=bg bV hb;refine hK.out _ _ (fun _=>hS2) ?_;clear hK K;try simp only[Act.put,aw,ar,an,ah,aj,ai]
    refine aK 3 hS2 ?_;refine aK 4 hS2 ?_;refine aK 5 hS2 ?_;refine aF 6 hS2 rfl (fun w0 h0=>by have c0:=h0.cell 2 rfl;go_simp;try with_reducible rfl) ?_;refine aK 7 hS2 ?_;refine aK 8 hS2 ?_
    refine aF 9 hS2 rfl (fun w0 h0=>by have c0:=h0.cell 0 rfl;have c1:=h0.cell 1 rfl;go_simp;try with_reducible rfl) ?_;refine aO 10 ?_;intro K hK;go_simp;refine mr (C3.out _) fun w3 hb3=>?_
    have hS3:=hS2.kept hb3;have bw3:=bg bw2 hb3;refine hK.out _ _ (fun _=>hS3) ?_;clear hK K;try simp only[Act.put,aw,ar,an,ah,aj,ai]
    refine aK 11 hS3 ?_;refine aK 12 hS3 ?_;refine aK 13 hS3 ?_;refine aK 14 hS3 ?_;refine aF 15 hS3 rfl (fun w0 h0=>by have c0:=h0.cell 3 rfl;go_simp;try with_reducible rfl) ?_
    refine aK 16 hS3 ?_;refine aK 17 hS3 ?_;refine aK 18 hS3 ?_;refine aF 19 hS3 rfl (fun w0 h0=>by have c0:=h0.cell 1 rfl;go_simp;try with_reducible rfl) ?_;refine aK 20 hS3 ?_
    refine aK 21 hS3 ?_;refine aK 22 hS3 ?_;refine az.done (by kernel_rfl) ?_ _;clear hS2 hS hb hb3 bV bw2 C1 w2 V;have q0:=hS3.cell 0 rfl;have q1:=hS3.cell 1 rfl;go_wp2_with fail;refine mr (C3.out _) fun w4 hb=>?_;have hS4:=hS3.kept hb;have bw4:=bg bw3 hb;clear hb q0 q1 C3 hS3 bw3;go_wp2
    go_loopw [3,34] (fun t s wr=>∃G:Nat,G<=M/\s=.int .i64 G/\t=.int .i64 (cntB xs (512*G):Nat)/\Hid (gD m xs su sb G)/\aa wr w.heap.size [.int .i64 m,.slice ao xs.length cap,.slice so su.length sc,.slice tO sb.length tc] 55/\Below w.heap.size w wr) (fun _ s _=>M-(intOf s).toNat)
    case atStart=>exact⟨0,Nat.zero_le _,rfl,rfl,gD.zero m xs su sb,hS4,bw4⟩
    case round=>
     obtain⟨G,hG,rfl,rfl,HR,hc,hbr⟩:=hrel;clear hS4 bw4;have q0:=hc.cell 0 rfl;have q1:=hc.cell 1 rfl;by_cases hlt:G<M
     .have hlt2:(G:Int)<(M:Int):=by omega
      have hG2:G<=m/512:=by have:=hM.out;omega
      go_wp2_with fail;refine(C4.out G _ hG2 hbr).mono ?_;rintro e w5 ⟨wo,wc,rfl,hww,hb⟩;have hc5:=hc.kept hb;have bw5:=bg hbr hb;clear hb hc hbr q0 q1
      have C5:Hid (∀w0,w0=w5->Qq 87 #[.slice wo (aI xs G).length wc] w0 (.tuple #[.agg (iv (gC (aI xs G))).toArray,.int .i64 (cntB (aI xs G) (64*(aI xs G).length):Nat)])):=fun w0 h0=>by subst h0;exact vq wo (aI xs G) wc w0 hww (uX xs h.f G) (by rw[eJ];omega)
      have hall:=vt xs G;have hc8:(aI xs G).length<=8:=by rw[eJ];omega
      have hend:8*G+(aI xs G).length<=sb.length:=by rw[eJ];have:=H2.out;have:=HL.out;omega
      have hlS:G<su.length:=by have:=H1.out;omega
      have lD:=kQ (aI xs G);have bZ:=iu xs (512*G);have bA:=iu (aI xs G) (64*(aI xs G).length);have hGb:G<=2048:=by omega
      have B5:=AO m xs su sb hk HL.out G;have B4:=AP m xs su sb hk G hG2
      have ST:Hid (gi su G=(cntB xs (512*G):Int)->(sb.drop (8*G)).take (aI xs G).length=ahT xs G->gD m xs su sb (G+1)):=fun a b=>gD.step m xs su sb hk HL.out G hG2 HR.out a b
      have EQ:Hid (∀w0 ga,Below w.heap.size w w0->aa w0 ga (iv (gC (aI xs G))) 130->Qq 152 #[.slice (lR tO tc (8*G)) (aI xs G).length (tc-8*G),.slice (some ⟨ga,0,none⟩) (aI xs G).length 8] w0 (.bool (decide ((sb.drop (8*G)).take (aI xs G).length=ahT xs G)))):=by
       intro w0 ga hb hca;refine FQ _ ((sb.drop (8*G)).take (aI xs G).length) _ _ (by simp;omega) _ (ahT xs G) _ _ (by rw[jU]) w0 (BW (h.t.keep hb) (8*G) _ hend h.tc) (B_ hca) (by simp;omega)
      obtain⟨b1,o1,rfl,hb1,hcc1⟩:=h.s (by omega);have hcG:=hcc1 G hlS;have l4:sb.length<=tc:=h.tc;clear hcc1 C4;go_wp2_with fail;refine mr (C5.out _ rfl) fun w6 hb=>?_;have hc6:=hc5.kept hb
      have bw6:=bg bw5 hb;clear hb C5 hc5 bw5 hww;obtain⟨D,hD⟩:∃D,Hid (D=gC (aI xs G)):=⟨_,rfl⟩;rw[<-hD.out]at lD EQ⊢
      obtain⟨A,hA⟩:∃A,A=cntB (aI xs G) (64*(aI xs G).length):=⟨_,rfl⟩;rw[<-hA]at hall bA⊢;obtain⟨Z,hZ⟩:∃Z,Z=cntB xs (512*G):=⟨_,rfl⟩;rw[<-hZ]at hall bZ B4 ST⊢
      obtain⟨c,hcl⟩:∃c,c=(aI xs G).length:=⟨_,rfl⟩;rw[<-hcl]at hc8 bA hend B5 EQ ST⊢;have HALL:Hid (cntB xs (512*(G+1))=Z+A):=hall;clear hall hA hZ hcl HR;go_wp2_with (refine oD ?_)
      intro w7 hc7 hb7 hs7;go_wp2_with (refine oO w6.heap.size _ _ rfl rfl hc7 (by simp) lD ?_);intro w8 hC8 ho8;have bb8:=hb7.trans (ho8.below (Nat.le_refl _));have hc8b:=hc6.kept bb8
      have bw8:=bg bw6 bb8;clear hb7 hs7 hc7 ho8 bb8 hc6 bw6 w7;generalize w6.heap.size=ga at *;simp only[Act.put,ah,List.set];go_wp2
      refine bn [] (fun w'=>aa w' w.heap.size [.int .i64 m,.slice ao xs.length cap,.slice (some ⟨b1,o1,none⟩) su.length sc,.slice tO sb.length tc] 55/\w'.cell? ⟨b1,o1+G,none⟩=some (.int .i64 (gi su G))) (by kernel_rfl) ?_
      have hS:aa w8.drew w.heap.size [.int .i64 m,.slice ao xs.length cap,.slice (some ⟨b1,o1,none⟩) su.length sc,.slice tO sb.length tc] 55/\w8.drew.cell? ⟨b1,o1+G,none⟩=some (.int .i64 (gi su G)):=⟨hc8b,(bw8.drew.cell (p:=⟨b1,o1+G,none⟩) hb1).trans hcG⟩
      have bV:Below w.heap.size w w8.drew:=bw8.drew;have hCd:aa w8.drew ga (iv D) 130:=hC8;generalize w8.drew=V at *;have hlS2:(G:Int)<(su.length:Int):=by omega
      have m1:IntKind.i64.wrap ((G:Int)*8)=((8*G:Nat):Int):=by rw[IntKind.wrap_i64];omega
      have m2:IntKind.i64.wrap (((8*G:Nat):Int)+(c:Int))=((8*G+c:Nat):Int):=by rw[IntKind.wrap_i64];omega
      have m2b:IntKind.i64.wrap (8*(G:Int)+(c:Int))=((8*G+c:Nat):Int):=by rw[IntKind.wrap_i64];omega
      have l5:8*G+c<=tc:=by omega
      have l5b:((8*G+c:Nat):Int)<=(tc:Int):=by omega
      have c1:(c:Int)<=8:=by omega
      clear hC8 hc8b bw8 hcG;by_cases v1:gi su G=(Z:Int)
      .have v1b:(gi su G != (Z:Int))=false:=by simp[v1]
       refine aK 0 hS ?_;refine aF 1 hS rfl (fun w0 h0=>by have c2:=h0.1.cell 2 rfl;go_simp;try with_reducible rfl) ?_;refine aK 2 hS ?_;refine aK 3 hS ?_
       refine aF 4 hS rfl (fun w0 h0=>by have c2:=h0.2;go_simp;try with_reducible rfl) ?_;refine aK 5 hS ?_;refine aK 6 hS ?_;refine aK 7 hS ?_;refine aK 8 hS ?_
       refine aF 9 hS rfl (fun w0 h0=>by have c2:=h0.1.cell 3 rfl;go_simp;try with_reducible rfl) ?_;refine aK 10 hS ?_;refine aK 11 hS ?_;refine aK 12 hS ?_;refine aK 13 hS ?_
       refine aK 14 hS ?_;refine aK 15 hS ?_;refine aK 16 hS ?_
       refine az.take 17 (v:=.slice (lR tO tc (8*G)) c (tc-8*G)) rfl (by kernel_rfl) (by kernel_rfl) (by kernel_rfl) (by kernel_rfl) (fun _ _ _ h=>h) hS ?hy170 (by rfl) ?rest170
       case hy170=>
        intro w0 h0;have z1:(8*(G:Int)).toNat=8*G:=by omega
        have z2:(8*(G:Int)+(c:Int)).toNat=8*G+c:=by omega
        cases tO with
        | none=>
         go_simp;rw[if_pos ⟨by omega,by omega⟩,if_pos ⟨by omega,by omega⟩];rfl
        | some a0=>
         go_simp;rw[if_pos ⟨by omega,by omega⟩,if_pos ⟨by omega,by omega⟩];rfl
       simp only[Act.put,aw,ar,an,ah,aj,ai];refine aK 18 hS ?_;refine aK 19 hS ?_;refine aK 20 hS ?_;refine aO 21 ?_;intro K hK;go_simp;refine mr (EQ.out _ ga bV hCd) fun w2 hb=>?_;have hS2:=And.intro (hS.1.kept hb) ((hb.cell (p:=⟨b1,o1+G,none⟩) (Nat.lt_of_lt_of_le hb1 bV.size)).trans hS.2);have bw2:=bg bV hb;refine hK.out _ _ (fun _=>hS2) ?_
       clear hK K;try simp only[Act.put,aw,ar,an,ah,aj,ai]
       by_cases v2:(sb.drop (8*G)).take c=ahT xs G
       .have RR:=ST.out v1 v2;rw[decide_eq_true v2];refine aK 22 hS2 ?_;refine aK 23 hS2 ?_;refine az.done (by kernel_rfl) ?_ _;have HR2:Hid (gD m xs su sb (G+1)):=RR
        clear RR ST EQ B5 B4 hCd hS bV hb;go_wp2;refine⟨⟨G+1,by omega,by go_num,?_,HR2,hS2.1,bw2⟩,by simp only[intOf];omega⟩;rw[HALL.out];go_num
       .have RF:Hid (pchk (m:Int) xs su sb=false):=B5 v2;rw[decide_eq_false v2];refine aK 22 hS2 ?_;refine aK 23 hS2 ?_;refine az.done (by kernel_rfl) ?_ _;clear ST EQ B5 B4 hCd hS bV hb;go_wp2;go_ret
        rw[RF.out];exact⟨rfl,bw2⟩
      .have v1b:(gi su G != (Z:Int))=true:=by simp[v1]
       have RF:Hid (pchk (m:Int) xs su sb=false):=B4 v1;refine aK 0 hS ?_;refine aF 1 hS rfl (fun w0 h0=>by have c2:=h0.1.cell 2 rfl;go_simp;try with_reducible rfl) ?_;refine aK 2 hS ?_
       refine aK 3 hS ?_;refine aF 4 hS rfl (fun w0 h0=>by have c2:=h0.2;go_simp;try with_reducible rfl) ?_;refine aK 5 hS ?_;refine aK 6 hS ?_;refine aK 7 hS ?_;refine aS 8 hS ?_
       refine aS 9 hS ?_;refine aS 10 hS ?_;refine aS 11 hS ?_;refine aS 12 hS ?_;refine aS 13 hS ?_;refine aS 14 hS ?_;refine aS 15 hS ?_;refine aS 16 hS ?_;refine aS 17 hS ?_
       refine aS 18 hS ?_;refine aS 19 hS ?_;refine aS 20 hS ?_;refine aS 21 hS ?_;refine aS 22 hS ?_;refine aK 23 hS ?_;refine az.done (by kernel_rfl) ?_ _;clear ST EQ B5 B4 hCd hS;go_wp2
       go_ret;rw[RF.out];exact⟨rfl,bV⟩
     .obtain rfl:G=M:=by omega
      have hlt2:¬(G:Int)<(G:Int):=by omega
      have RT:Hid (pchk (m:Int) xs su sb=true):=by
       have a:=HR.out;have b:=H1.out;rw[hM.out]at a b;exact gD.last m xs su sb hk HL.out b H2.out a
      clear q0 q1;go_wp2;go_ret;rw[RT.out];exact⟨rfl,hbr⟩
   .have h2':((sb.length:Int) != (xs.length:Int))=true:=by simp;omega
    have R:Hid (pchk (m:Int) xs su sb=false):=AQ _ xs su sb h2;rw[R.out];clear h1 h2 h;go_enter func99,ntmps99;go_wp2;rw[<-hW];clear hW
    refine bn [] (fun w'=>aa w' w.heap.size [.int .i64 m,.slice ao xs.length cap,.slice so su.length sc,.slice tO sb.length tc] 55) (by kernel_rfl) ?_
    have hS:aa W.drew w.heap.size [.int .i64 m,.slice ao xs.length cap,.slice so su.length sc,.slice tO sb.length tc] 55:=B1;have bV:Below w.heap.size w W.drew:=bW.drew;generalize W.drew=V at *;clear B1 bW
    refine aK 0 hS ?_;refine aF 1 hS rfl (fun w0 h0=>by have c0:=h0.cell 0 rfl;have c1:=h0.cell 1 rfl;go_simp;try with_reducible rfl) ?_;refine aO 2 ?_;intro K hK;go_simp;refine mr (C1.out _ bV) fun w2 hb=>?_;have hS2:=hS.kept hb;have bw2:=bg bV hb;refine hK.out _ _ (fun _=>hS2) ?_;clear hK K;try simp only[Act.put,aw,ar,an,ah,aj,ai]
    refine aK 3 hS2 ?_;refine aK 4 hS2 ?_;refine aK 5 hS2 ?_;refine aF 6 hS2 rfl (fun w0 h0=>by have c0:=h0.cell 2 rfl;go_simp;try with_reducible rfl) ?_;refine aK 7 hS2 ?_;refine aK 8 hS2 ?_
    refine aF 9 hS2 rfl (fun w0 h0=>by have c0:=h0.cell 0 rfl;have c1:=h0.cell 1 rfl;go_simp;try with_reducible rfl) ?_;refine aO 10 ?_;intro K hK;go_simp;refine mr (C3.out _) fun w3 hb3=>?_
    have hS3:=hS2.kept hb3;have bw3:=bg bw2 hb3;refine hK.out _ _ (fun _=>hS3) ?_;clear hK K;try simp only[Act.put,aw,ar,an,ah,aj,ai]
    refine aK 11 hS3 ?_;refine aK 12 hS3 ?_;refine aK 13 hS3 ?_;refine aK 14 hS3 ?_;refine aF 15 hS3 rfl (fun w0 h0=>by have c0:=h0.cell 3 rfl;go_simp;try with_reducible rfl) ?_
    refine aK 16 hS3 ?_;refine aK 17 hS3 ?_;refine aK 18 hS3 ?_;refine aF 19 hS3 rfl (fun w0 h0=>by have c0:=h0.cell 1 rfl;go_simp;try with_reducible rfl) ?_;refine aK 20 hS3 ?_
    refine aK 21 hS3 ?_;refine aK 22 hS3 ?_;refine az.done (by kernel_rfl) ?_ _;clear hS2 hS hb hb3 bV bw2 C1 C3 hS3;go_wp2;go_ret;exact⟨rfl,bw3⟩
  .have h1':((su.length:Int) != (M:Int))=true:=by simp;omega
   have R:Hid (pchk (m:Int) xs su sb=false):=AR m xs su sb (by rw[<-hM.out];exact h1);rw[R.out];clear h1 h;go_enter func99,ntmps99;go_wp2;rw[<-hW];clear hW
   refine bn [] (fun w'=>aa w' w.heap.size [.int .i64 m,.slice ao xs.length cap,.slice so su.length sc,.slice tO sb.length tc] 55) (by kernel_rfl) ?_
   have hS:aa W.drew w.heap.size [.int .i64 m,.slice ao xs.length cap,.slice so su.length sc,.slice tO sb.length tc] 55:=B1;have bV:Below w.heap.size w W.drew:=bW.drew;generalize W.drew=V at *;clear B1 bW
   refine aK 0 hS ?_;refine aF 1 hS rfl (fun w0 h0=>by have c0:=h0.cell 0 rfl;have c1:=h0.cell 1 rfl;go_simp;try with_reducible rfl) ?_;refine aO 2 ?_;intro K hK;go_simp;refine mr (C1.out _ bV) fun w2 hb=>?_;have hS2:=hS.kept hb;have bw2:=bg bV hb;refine hK.out _ _ (fun _=>hS2) ?_;clear hK K;try simp only[Act.put,aw,ar,an,ah,aj,ai]
   refine aK 3 hS2 ?_;refine aK 4 hS2 ?_;refine aK 5 hS2 ?_;refine aF 6 hS2 rfl (fun w0 h0=>by have c0:=h0.cell 2 rfl;go_simp;try with_reducible rfl) ?_;refine aK 7 hS2 ?_;refine aK 8 hS2 ?_
   refine aF 9 hS2 rfl (fun w0 h0=>by have c0:=h0.cell 0 rfl;have c1:=h0.cell 1 rfl;go_simp;try with_reducible rfl) ?_;refine aO 10 ?_;intro K hK;go_simp;refine mr (C3.out _) fun w3 hb3=>?_
   have hS3:=hS2.kept hb3;have bw3:=bg bw2 hb3;refine hK.out _ _ (fun _=>hS3) ?_;clear hK K;try simp only[Act.put,aw,ar,an,ah,aj,ai]
   refine aK 11 hS3 ?_;refine aK 12 hS3 ?_;refine aK 13 hS3 ?_;refine aS 14 hS3 ?_;refine aS 15 hS3 ?_;refine aS 16 hS3 ?_;refine aS 17 hS3 ?_;refine aS 18 hS3 ?_;refine aS 19 hS3 ?_
   refine aS 20 hS3 ?_;refine aS 21 hS3 ?_;refine aK 22 hS3 ?_;refine az.done (by kernel_rfl) ?_ _;clear hS2 hS hb hb3 bV bw2 C1 C3 hS3;go_wp2;go_ret;exact⟨rfl,bw3⟩
theorem Gb(m:Nat)(ao:Option Addr)(xs:List Nat)(cap:Nat)(so:Option Addr)(su:List Int)(sc:Nat)(tO:Option Addr)(sb:List Int)(tc:Nat)(bit:Bool)(i:Nat)(w:World)(h:jh w (m:Int) ao xs cap so su sc tO sb tc)(hp:pchk (m:Int) xs su sb=true)(hi:i<=m):
  Qq 126 #[.agg #[.int .i64 m,.slice ao xs.length cap,.slice so su.length sc,.slice tO sb.length tc],.bool bit,.int .i64 i] w (.int .i64 ((cB xs bit i:Nat):Int)):=by
 obtain⟨m',e0,hm,hl,hk,hsu,hsb⟩:=pg _ _ _ _ hp;obtain rfl:m=m':=by omega
 clear e0;by_cases h0:i=0
 .subst h0;have R:Hid (cB xs bit 0=0):=by show cB xs bit 0=0;have:=qz xs bit 0;omega
  rw[R.out];cases bit with
  | true=>
   go_enter func126,ntmps126;go_wp2;go_ret;exact⟨rfl,below_alloc w _⟩
  | false=>
   go_enter func126,ntmps126;go_wp2;go_ret;exact⟨rfl,below_alloc w _⟩
 .obtain⟨j,hj⟩:∃j:Nat,j=(i-1)/64:=⟨_,rfl⟩;obtain⟨r,hr⟩:∃r:Nat,r=i-64*j:=⟨_,rfl⟩;have hij:i=64*j+r:=by omega
  have r0:0<r:=by omega
  have r1:r<=64:=by omega
  have lx:j<xs.length:=by omega
  have ls:j/8<su.length:=by rw[hsu,kL,Int.toNat_natCast];omega
  have lt:j<sb.length:=by rw[hsb,iU];exact lx
  have hcnt:=F_ m xs h.f hk hl j r r0 r1 (by omega);have eY:gi su (j/8)=fh (m:Int) xs (j/8):=by rw[hsu];unfold supL;rw[my _ _ _ _ (by rw[Int.toNat_natCast];omega)]
  have eS:gi sb j=fi (m:Int) xs j:=by rw[hsb];unfold subL;rw[ld _ _ _ _ lx]
  have bY:=mY (m:Int) xs (j/8);have bS:=rL (m:Int) xs j;have bR:=oY (gt xs j:Int) (r:Int);have bC:=iu xs i;obtain⟨b1,o1,rfl,hb1,hc1⟩:=h.s (by omega)
  obtain⟨b2,o2,rfl,hb2,hc2⟩:=h.t (by omega);obtain⟨b3,o3,rfl,hb3,hc3⟩:=h.x (by omega)
  obtain⟨W,hW⟩:∃W,W=w.alloc (.cells #[.int .i64 m,.slice (some ⟨b3,o3,none⟩) xs.length cap,.slice (some ⟨b1,o1,none⟩) su.length sc,.slice (some ⟨b2,o2,none⟩) sb.length tc] 55):=⟨_,rfl⟩
  have bW:=ba hW;have B1:=bE hW;have x1:=B1.cell 1 rfl;have x2:=B1.cell 2 rfl;have x3:=B1.cell 3 rfl;have y1:=(bW.cell (p:=⟨b1,o1+j/8,none⟩) hb1).trans (hc1 _ ls)
  have y2:=(bW.cell (p:=⟨b2,o2+j,none⟩) hb2).trans (hc2 _ lt);have y3:=(bW.cell (p:=⟨b3,o3+j,none⟩) hb3).trans (hc3 _ lx);rw[eY]at y1;rw[eS]at y2;have hX:=h.f j
  obtain⟨Y,hY⟩:∃Y,Hid (Y=fh (m:Int) xs (j/8)):=⟨_,rfl⟩;obtain⟨S,hS⟩:∃S,Hid (S=fi (m:Int) xs j):=⟨_,rfl⟩;obtain⟨K,hK⟩:∃K,Hid (K=dy (gt xs j:Int) (r:Int)):=⟨_,rfl⟩
  have C:Hid (∀w0,Qx 145 #[.int .u64 (gt xs j:Int),.int .i64 r] w0 (.int .i64 K)):=by
   intro w0;have:=nh (gt xs j:Int) (r:Int) (Int.natCast_nonneg _) (Int.ofNat_lt.2 hX) w0;rw[hK.out];exact this
  rw[<-hY.out]at y1 bY hcnt;rw[<-hS.out]at y2 bS hcnt;rw[<-hK.out]at bR hcnt;rw[<-hij]at hcnt;obtain⟨c,hc⟩:∃c,c=cntB xs i:=⟨_,rfl⟩;rw[<-hc]at hcnt bC
  have R:Hid (cB xs bit i=if bit then c else i-c):=by show cB xs bit i=_;unfold cB;rw[hc]
  have HB:Hid (Below w.heap.size w W):=bW;have q1:((i:Int)-1)/64=(j:Int):=by omega
  have q8:(j:Int)/8<(su.length:Int):=by omega
  have e8:((j:Int)/8).toNat=j/8:=by omega
  have w8:IntKind.i64.wrap ((j:Int)/8)=(j:Int)/8:=by rw[IntKind.wrap_i64];omega
  have p8:(0:Int)<=(j:Int)/8:=by omega
  have lt2:(j:Int)<(sb.length:Int):=by omega
  have lx2:(j:Int)<(xs.length:Int):=by omega
  have m1:IntKind.i64.wrap ((j:Int)*64)=(j:Int)*64:=by rw[IntKind.wrap_i64];omega
  have m2:IntKind.i64.wrap ((i:Int)-(j:Int)*64)=(r:Int):=by rw[IntKind.wrap_i64];omega
  have m3:IntKind.i64.wrap (Y+S)=Y+S:=by rw[IntKind.wrap_i64];omega
  have m4:IntKind.i64.wrap (Y+S+K)=(c:Int):=by rw[IntKind.wrap_i64];omega
  have i0:(0:Int)<(i:Int):=by omega
  have i1:i<=1048576:=by omega
  clear hc1 hc2 hc3 h hp hl hk hsu hsb hcnt bY bS bR eY eS hj hr hij B1 bW hc;rw[R.out];clear R hY hS hK;cases bit with
  | true=>
   go_enter func126,ntmps126;go_wp2;rw[<-hW];clear hW;go_quiet ((go_at_call 145;exact Calls.quiet_of_same (C.out _)));go_wp2;go_ret;exact⟨rfl,below_drewN HB.out _⟩
  | false=>
   go_enter func126,ntmps126;go_wp2;rw[<-hW];clear hW;go_quiet ((go_at_call 145;exact Calls.quiet_of_same (C.out _)));go_wp2;go_ret;refine⟨dn ?_,below_drewN HB.out _⟩
   try simp only[Bool.false_eq_true,if_false]
   omega
theorem AW(N:Int)(ao:Option Addr)(xs:List Nat)(cap:Nat)(w:World)(hx:Wd w ao xs)(hk:am N xs=false):
  Qq 51 #[.agg #[.int .i64 N,.slice ao xs.length cap]] w (.tuple #[.agg #[.int .i64 0,.slice none 0 0,.slice none 0 0,.slice none 0 0],.int .i64 2]):=by
 obtain⟨W,hW⟩:∃W,W=(w.alloc (.cells #[.int .i64 N,.slice ao xs.length cap] 53)).alloc (.cells #[.int .i64 0,.slice none 0 0,.slice none 0 0,.slice none 0 0] 55):=⟨_,rfl⟩;have bW:=dt hW;have B2:=de hW
 have C1:Hid (∀w0,w0=W->Qq 83 #[.agg #[.int .i64 N,.slice ao xs.length cap]] w0 (.bool false)):=fun w0 h=>by
  subst h;have:=cg N ao xs cap w0 (hx.keep bW);rw[hk]at this;exact this
 go_enter func51,ntmps51;go_wp2_with fail;rw[<-hW];refine mr (C1.out _ rfl) fun w1 hb=>?_;have bw1:=bg bW hb;replace B2:=B2.kept hb;clear hb C1 hW bW W;have y0:=B2.cell 0 rfl
 have y1:=B2.cell 1 rfl;have y2:=B2.cell 2 rfl;have y3:=B2.cell 3 rfl;have f0:=B2.frozen 0;have f1:=B2.frozen 1;have f2:=B2.frozen 2;have f3:=B2.frozen 3
 have hC:=(((B2.set 0 (.int .i64 0)).set 1 (.slice none 0 0)).set 2 (.slice none 0 0)).set 3 (.slice none 0 0)
 have HB:=dD (dD (dD (dD bw1 (w.heap.size+1) 0 (.int .i64 0) (Nat.le_succ _)) (w.heap.size+1) 1 (.slice none 0 0) (Nat.le_succ _)) (w.heap.size+1) 2 (.slice none 0 0) (Nat.le_succ _)) (w.heap.size+1) 3 (.slice none 0 0) (Nat.le_succ _)
 have k0:=hC.cell 0 rfl;have k1:=hC.cell 1 rfl;have k2:=hC.cell 2 rfl;have k3:=hC.cell 3 rfl;go_wp2
 exact bodyPost_ret (v:=.tuple #[.agg #[.int .i64 0,.slice none 0 0,.slice none 0 0,.slice none 0 0],.int .i64 2]) (by simp[results,Tryz.results51,go_sem,k0,k1,k2,k3]) rfl ⟨rfl,HB⟩
theorem GK(N:Int)(ao:Option Addr)(xs:List Nat)(cap:Nat)(w:World)(hN: -9223372036854775808<=N/\N<=9223372036854775807)(hx:Wd w ao xs)(hf:aA xs)(hcap:xs.length<=cap)(hl:xs.length<=1048576):
  Calls prog 51 #[.agg #[.int .i64 N,.slice ao xs.length cap]] w fun e w'=>∃bo bc so sc tO tc,e=.returned (.tuple #[.agg #[.int .i64 (gK N xs),.slice bo (ei N xs).length bc,.slice so (eH N xs).length sc,.slice tO (es N xs).length tc],.int .i64 (jM N xs)])/\ke w.heap.size w' bo (ei N xs) bc so (eH N xs) sc tO (es N xs) tc/\Below w.heap.size w w':=by
 unfold gK ei eH es jM;cases hk:am N xs with
 | false=>
  refine mr (AW N ao xs cap w hx hk) fun w' hb=>?_;exact⟨none,0,none,0,none,0,rfl,⟨cK _ _,Nat.le_refl _,gQ _ _,Nat.le_refl _,gQ _ _,Nat.le_refl _,aX _,aX _⟩,hb⟩
 | true=>
  obtain⟨m,rfl,hm,hlen⟩:=qx N xs hk;refine(AV m ao xs cap w hx hf hcap hk hm hlen).mono ?_;rintro e w' ⟨bo,bc,so,sc,tO,tc,rfl,h1,hb⟩;exact⟨bo,bc,so,sc,tO,tc,rfl,h1,hb⟩
theorem xP(N:Int)(ao:Option Addr)(xs:List Nat)(cap:Nat)(so:Option Addr)(su:List Int)(sc:Nat)(tO:Option Addr)(sb:List Int)(tc:Nat)(w:World)(h:jh w N ao xs cap so su sc tO sb tc):
  Qq 67 #[.agg #[.int .i64 N,.slice ao xs.length cap,.slice so su.length sc,.slice tO sb.length tc]] w (.int .i64 (kC N xs su sb)):=by
 unfold kC;obtain⟨W,hW⟩:∃W,W=w.alloc (.cells #[.int .i64 N,.slice ao xs.length cap,.slice so su.length sc,.slice tO sb.length tc] 55):=⟨_,rfl⟩;have bW:=ba hW;have B1:=bE hW
 have C1:Hid (∀w0,w0=W->Qq 99 #[.agg #[.int .i64 N,.slice ao xs.length cap,.slice so su.length sc,.slice tO sb.length tc]] w0 (.bool (pchk N xs su sb))):=fun w0 e0=>by subst e0;exact vu N ao xs cap so su sc tO sb tc w0 (h.keep bW)
 cases hk:pchk N xs su sb with
 | false=>
  simp only[Bool.false_eq_true,if_false];rw[hk]at C1;go_enter func67,ntmps67;go_wp2_with fail;rw[<-hW];refine mr (C1.out _ rfl) fun w1 hb=>?_;have bw1:=bg bW hb
  replace B1:=B1.kept hb;clear hb C1 hW bW W;go_wp2;go_ret;exact⟨rfl,bw1⟩
 | true=>
  simp only[if_true];rw[hk]at C1;obtain⟨m,rfl,hm,hl,z1,z2,z3⟩:=pg _ _ _ _ hk;clear z1 z2 z3;have l1:=h.sl;have l2:=h.tl;obtain⟨A,hA⟩:∃A,A=su.length:=⟨_,rfl⟩
  obtain⟨B,hB⟩:∃B,B=sb.length:=⟨_,rfl⟩;rw[<-hA]at l1 B1⊢;rw[<-hB]at l2 B1⊢;rw[<-hA,<-hB]at C1 hW;clear h hl hk hA hB;go_enter func67,ntmps67;go_wp2_with fail;rw[<-hW];refine mr (C1.out _ rfl) fun w1 hb=>?_;have bw1:=bg bW hb;replace B1:=B1.kept hb;clear hb C1 hW bW W;have x0:=B1.cell 0 rfl;have x2:=B1.cell 2 rfl;have x3:=B1.cell 3 rfl;go_wp2;go_ret;refine⟨dn ?_,bw1⟩
  first | rfl | omega
theorem zx(N:Int)(ao:Option Addr)(xs:List Nat)(cap:Nat)(so:Option Addr)(su:List Int)(sc:Nat)(tO:Option Addr)(sb:List Int)(tc:Nat)(bit:Bool)(i:Int)(w:World)(h:jh w N ao xs cap so su sc tO sb tc)(hi: -9223372036854775808<=i/\i<=9223372036854775807):
  Qq 76 #[.agg #[.int .i64 N,.slice ao xs.length cap,.slice so su.length sc,.slice tO sb.length tc],.bool bit,.int .i64 i] w (.tuple #[.int .i64 (gI N xs su sb bit i),.int .i64 (f_ N xs su sb i)]):=by
 obtain⟨W,hW⟩:∃W,W=w.alloc (.cells #[.int .i64 N,.slice ao xs.length cap,.slice so su.length sc,.slice tO sb.length tc] 55):=⟨_,rfl⟩;have bW:=ba hW;have B1:=bE hW
 have C1:Hid (∀w0,w0=W->Qq 99 #[.agg #[.int .i64 N,.slice ao xs.length cap,.slice so su.length sc,.slice tO sb.length tc]] w0 (.bool (pchk N xs su sb))):=fun w0 e0=>by subst e0;exact vu N ao xs cap so su sc tO sb tc w0 (h.keep bW)
 cases hk:pchk N xs su sb with
 | false=>
  have R1:Hid (f_ N xs su sb i=2):=by show f_ N xs su sb i=2;unfold f_;rw[hk];rfl
  have R2:Hid (gI N xs su sb bit i=0):=by show gI N xs su sb bit i=0;unfold gI;rw[R1.out];rfl
  rw[R1.out,R2.out];rw[hk]at C1;go_enter func76,ntmps76;go_wp2_with fail;rw[<-hW];refine mr (C1.out _ rfl) fun w1 hb=>?_;have bw1:=bg bW hb;replace B1:=B1.kept hb
  clear hb C1 hW bW W;go_wp2;go_ret2;exact⟨rfl,bw1⟩
 | true=>
  rw[hk]at C1;obtain⟨m,rfl,hm,hl,z1,z2,z3⟩:=pg _ _ _ _ hk;clear z1 z2 z3;by_cases h0:i<0\/(m:Int)<i
  .have R1:Hid (f_ (m:Int) xs su sb i=3):=by show f_ (m:Int) xs su sb i=3;unfold f_;rw[hk,if_pos rfl,if_pos h0]
   have R2:Hid (gI (m:Int) xs su sb bit i=0):=by show gI (m:Int) xs su sb bit i=0;unfold gI;rw[R1.out];rfl
   rw[R1.out,R2.out];clear h hl hk;by_cases h1:i<0
   .go_enter func76,ntmps76;go_wp2_with fail;rw[<-hW];refine mr (C1.out _ rfl) fun w1 hb=>?_;have bw1:=bg bW hb;replace B1:=B1.kept hb;clear hb C1 hW bW W;go_wp2;go_ret2
    exact⟨rfl,bw1⟩
   .have h2:(m:Int)<i:=by omega
    go_enter func76,ntmps76;go_wp2_with fail;rw[<-hW];refine mr (C1.out _ rfl) fun w1 hb=>?_;have bw1:=bg bW hb;replace B1:=B1.kept hb;clear hb C1 hW bW W;have x0:=B1.cell 0 rfl
    go_wp2;go_ret2;exact⟨rfl,bw1⟩
  .obtain⟨k,rfl⟩:=Int.eq_ofNat_of_zero_le (show 0<=i by omega);have R1:Hid (f_ (m:Int) xs su sb (k:Int)=0):=by show f_ (m:Int) xs su sb (k:Int)=0;unfold f_;rw[hk,if_pos rfl,if_neg h0]
   have R2:Hid (gI (m:Int) xs su sb bit (k:Int)=((cB xs bit k:Nat):Int)):=by show gI (m:Int) xs su sb bit (k:Int)=_;unfold gI;rw[R1.out,if_pos rfl,Int.toNat_natCast]
   rw[R1.out,R2.out]
   have C2:Hid (Qz w 126 #[.agg #[.int .i64 m,.slice ao xs.length cap,.slice so su.length sc,.slice tO sb.length tc],.bool bit,.int .i64 k] (.int .i64 ((cB xs bit k:Nat):Int))):=fun w0 hb=>Gb m ao xs cap so su sc tO sb tc bit k w0 (h.keep hb) hk (by omega)
   have h3:¬(m:Int)<(k:Int):=by omega
   clear h hl hk h0 hi;go_enter func76,ntmps76;go_wp2_with fail;rw[<-hW];refine mr (C1.out _ rfl) fun w1 hb=>?_;have bw1:=bg bW hb;replace B1:=B1.kept hb;clear hb C1 hW bW W
   have x0:=B1.cell 0 rfl;have x1:=B1.cell 1 rfl;have x2:=B1.cell 2 rfl;have x3:=B1.cell 3 rfl;go_wp2_with fail;refine mr (C2.out _ bw1) fun w2 hb=>?_;have bw2:=bg bw1 hb;clear hb;go_wp2
   go_ret2;exact⟨rfl,bw2⟩
theorem ta(N:Int)(xs:List Nat)(S T:List Int)(i:Int):f_ N xs S T i=grE (pchk N xs S T) (gJ N xs S T) i:=by
 unfold f_ grE gJ;cases pchk N xs S T<;>rfl
theorem AY(N:Int)(xs:List Nat)(S T:List Int)(b:Bool)(i:Int):gI N xs S T b i=grN (pchk N xs S T) (gJ N xs S T) (fw N xs S T) b i:=by
 unfold gI grN;rw[ta];unfold grE gJ fw;cases pchk N xs S T<;>rfl
theorem ke.ki{base:Nat}{w:World}{bo:Option Addr}{bc:Nat}{so:Option Addr}{sc:Nat}{tO:Option Addr}{tc:Nat}(N:Int)(xs:List Nat)(hn:aD N)(hf:aA xs)(hl:xs.length<=1048576)(h:ke base w bo (ei N xs) bc so (eH N xs) sc tO (es N xs) tc):
  cH w [.int .i64 (gK N xs),.slice bo (ei N xs).length bc,.slice so (eH N xs).length sc,.slice tO (es N xs).length tc] (kB7 N xs):=by
 have hp:=h.plin N xs hn hf hl;exact⟨⟨bo,bc,so,sc,tO,tc,rfl,⟨hp.n,hp.x,hp.f,hp.c,hp.s,hp.sf,hp.sc,hp.t,hp.tf,hp.tc⟩⟩,hp.l,hp.sl,hp.tl⟩
theorem GP(N:Int)(ao:Option Addr)(xs:List Nat)(cap:Nat)(w:World)(hN:aD N)(hx:Wd w ao xs)(hf:aA xs)(hcap:xs.length<=cap)(hl:xs.length<=1048576):
  Calls prog 51 #[.agg #[.int .i64 N,.slice ao xs.length cap]] w fun e w'=>∃cs:List Value,e=.returned (.tuple #[.agg cs.toArray,.int .i64 (kE7 N xs)])/\cH w' cs (kB7 N xs)/\NF w.heap.size 2 cs/\Below w.heap.size w w':=by
 refine(GK N ao xs cap w hN hx hf hcap hl).mono ?_;rintro e w' ⟨bo,bc,so,sc,tO,tc,rfl,ho,hb⟩;exact⟨_,rfl,ho.ki N xs hN hf hl,cW ho.sn ho.tn,hb⟩
theorem xS(cs:List Value)(a:cQ)(w:World)(h:cH w cs a):
  Qq 67 #[.agg cs.toArray] w (.int .i64 (kZ7 a)):=by
 obtain⟨⟨ao,cap,so,sc,tO,tc,rfl,h⟩,xl,sl,tl⟩:=h;exact xP a.N ao a.xs cap so a.S sc tO a.T tc w (h.plin xl sl tl)
theorem zD(cs:List Value)(a:cQ)(bit:Bool)(i:Int)(w:World)(h:cH w cs a)(hi:aD i):
  Qq 76 #[.agg cs.toArray,.bool bit,.int .i64 i] w (.tuple #[.int .i64 (grN (kOk7 a) (kBN7 a) (kBX7 a) bit i),.int .i64 (grE (kOk7 a) (kBN7 a) i)]):=by
 obtain⟨⟨ao,cap,so,sc,tO,tc,rfl,h⟩,xl,sl,tl⟩:=h;have:=zx a.N ao a.xs cap so a.S sc tO a.T tc bit i w (h.plin xl sl tl) hi;rw[AY,ta]at this;exact this
end Go.Proofs.YtleegaihbgbcjabGreatDoor
namespace Go.Proofs.YtleegaihbgbcjabGreatDoor
open Num Bit Bn
theorem Gc(n:Nat):cnt 0 n=0:=by
 induction n with
 | zero=>rfl
 | succ n ih=>rw[cnt,ih,Nat.zero_div]
theorem Bv(n:Nat):off 0 n=0:=by
 induction n with
 | zero=>rfl
 | succ n ih=>rw[off,ih,Nat.zero_div];rfl
theorem vM:∀n k o,o<ch n k->cnt (blk n k o) n=k/\off (blk n k o) n=o:=by
 intro n;induction n with
 | zero=>
  intro k o h;cases k with
  | zero=>
   have h:o<1:=h;exact⟨rfl,by show 0=o;omega⟩
  | succ k=>exact absurd h (by show ¬o<0;omega)
 | succ n ih=>
  intro k o h;by_cases hk:k=0
  .subst hk;rw[jf]at h;rw[j6,Gc,Bv];exact⟨rfl,by omega⟩
  .obtain⟨j,rfl⟩:∃j,k=j+1:=⟨k-1,by omega⟩;rw[iH]at h;have P:=Nat.two_pow_pos n;by_cases c:ch n (j+1)<=o
   .rw[mJ n (j+1) o hk c,Nat.add_sub_cancel];obtain⟨h1,h2⟩:=ih j (o-ch n (j+1)) (by omega);have hb:=jC n j (o-ch n (j+1));generalize blk n j (o-ch n (j+1))=b at *
    have e1:(2^n+b)/2^n=1:=by rw[Nat.add_div_left _ P,Nat.div_eq_of_lt hb]
    have e2:(2^n+b)%2^n=b:=by rw[Nat.add_mod_left,Nat.mod_eq_of_lt hb]
    have e3:cnt (2^n+b) n=j:=by rw[<-om (2^n+b) n n (Nat.le_refl _),e2,h1]
    have e4:off (2^n+b) n=o-ch n (j+1):=by rw[<-Bz (2^n+b) n n (Nat.le_refl _),e2,h2]
    have e5:cnt (2^n+b) (n+1)=j+1:=by rw[cnt,e3,e1]
    refine⟨e5,?_⟩;rw[off,e1,if_pos rfl,e5,e4];omega
   .rw[mH n (j+1) o hk c];obtain⟨h1,h2⟩:=ih (j+1) o (by omega);have hb:=jC n (j+1) o;generalize blk n (j+1) o=b at *;have e1:b/2^n=0:=Nat.div_eq_of_lt hb;refine⟨by rw[cnt,h1,e1],?_⟩
    rw[off,e1,h2];simp
def cls(xs:List Nat)(i:Nat):Nat:=numAt 4 xs i
def cOn(xs:List Nat):Nat->Nat
 | 0=>0
 | i+1=>cOn xs i+cls xs i
def cAt(xs:List Nat):Nat->Nat
 | 0=>0
 | i+1=>cAt xs i+kwd (cls xs i)
def ix(L:Int)(ys xs:List Nat)(i:Nat):Int:=slcE L ys (cAt xs i) (kwd (cls xs i))
def cOff(L:Int)(ys xs:List Nat)(i:Nat):Nat:=slcX L ys (cAt xs i) (kwd (cls xs i))
def jA(L:Int)(ys xs:List Nat)(i:Nat):Nat:=blk 15 (cls xs i) (cOff L ys xs i)
theorem j1(xs:List Nat)(i:Nat):cls xs i<=15:=by
 have:cls xs i<2^4:=fb _ _;omega
theorem Gv(xs:List Nat)(i:Nat):cOn xs i<=15*i:=by
 induction i with
 | zero=>exact Nat.le_refl _
 | succ i ih=>have:=j1 xs i;rw[cOn];omega
theorem Gx(xs:List Nat)(i:Nat):cAt xs i<=13*i:=by
 induction i with
 | zero=>exact Nat.le_refl _
 | succ i ih=>have:=jX (cls xs i) (j1 xs i);rw[cAt];omega
theorem Gw(L:Int)(ys xs:List Nat)(i:Nat):cOff L ys xs i<8192:=by
 have k:=jX (cls xs i) (j1 xs i);unfold cOff slcX;split
 .rw[Int.toNat_natCast];refine Nat.lt_of_lt_of_le (fb _ _) ?_;exact Nat.pow_le_pow_right (n:=2) (j:=13) (by decide) k
 .decide
theorem Gy(xs:List Nat):∀n j,j<cAt xs n->∃i t,i<n/\t<kwd (cls xs i)/\j=cAt xs i+t:=by
 intro n;induction n with
 | zero=>intro j h;exact absurd h (by show ¬j<0;omega)
 | succ n ih=>
  intro j h;rw[cAt]at h;by_cases c:j<cAt xs n
  .obtain⟨i,t,h1,h2,h3⟩:=ih j c;exact⟨i,t,by omega,h2,h3⟩
  .exact⟨n,j-cAt xs n,by omega,by omega,by omega⟩
structure CK (a:aT) (m:Nat):Prop where
 nN:a.N=m
 le:m<=1048576
 nk:a.k=nb m
 nV:a.V=4
 ic:aP a.k a.V a.M a.xs=true
 oc:am a.L a.ys=true
 sl:a.S.length=gN m
 tl:a.T.length=gN m
 s0:gi a.S 0=0
 t0:gi a.T 0=0
 each:∀i,i<nb m->ix a.L a.ys a.xs i=0/\cOff a.L a.ys a.xs i<ch 15 (cls a.xs i)/\(i%8=0->gi a.S (i/8)=cOn a.xs i/\gi a.T (i/8)=cAt a.xs i)
 done:(cAt a.xs (nb m):Int)=a.L
 last:0<nb m->jA a.L a.ys a.xs (nb m-1)<2^(m-15*(nb m-1))
theorem nQ(m:Nat)(X:List Nat)(hk:am (m:Int) X=true):kB8 (m:Int) X=⟨m,nb m,4,(nb m:Int)*4,rC m (bitAt X),bat m (bitAt X) (nb m),rO m (bitAt X),rS m (bitAt X),rT m (bitAt X)⟩:=by
 unfold kB8 fm fu fk fp dL fq dK dJ dI;rw[hk,Int.toNat_natCast];rfl
theorem lh(m j:Nat)(h:j<gN m)(h0:j≠0):8*j<nb m:=by unfold gN at h;omega
theorem Gj(a:aT)(m:Nat)(hfx:aA a.xs)(hfy:aA a.ys)(h:CK a m):∃X,aA X/\am (m:Int) X=true/\a=kB8 m X:=by
 obtain⟨N,k,V,M,xs,L,ys,S,T⟩:=a;obtain⟨hN,hm,hk,hV,ic,oc,sl,tl,s0,t0,ea,en,la⟩:=h;dsimp only at *;subst hN hk hV;obtain⟨_,_,_,hM,ck,_,_,_⟩:=dP _ _ _ _ ic
 obtain⟨f,hf⟩:∃f:Nat->Bool,f=fun j=>(jA L ys xs (j/15)).testBit (j%15):=⟨_,rfl⟩;obtain⟨X,hX⟩:∃X,X=rowOf m f:=⟨_,rfl⟩;have fX:aA X:=by rw[hX];exact cY _ _
 have cX:am (m:Int) X=true:=by rw[hX];exact fB _ _ hm
 have bX:∀j,bitAt X j=(decide (j<m)&&f j):=fun j=>by rw[hX];exact eQ _ _ _
 have B:∀i,i<nb m->blv m (bitAt X) i=jA L ys xs i:=by
  intro i hi;unfold blv;refine(je 15 _ _ fun t=>?_).symm;have hw:jA L ys xs i<2^15:=jC _ _ _;by_cases c:t<15
  .have e1:(15*i+t)/15=i:=by omega
   have e2:(15*i+t)%15=t:=by omega
   rw[bX,hf];dsimp only;rw[e1,e2];by_cases d:15*i+t<m
   .simp[c,d]
   .have hi2:i=nb m-1:=by unfold nb at hi⊢;omega
    have l:=la (by omega);rw[<-hi2]at l;have:jA L ys xs i<2^t:=Nat.lt_of_lt_of_le l (Nat.pow_le_pow_right (by decide) (by omega));rw[Nat.testBit_lt_two_pow this];simp[d]
  .rw[Nat.testBit_lt_two_pow (Nat.lt_of_lt_of_le hw (Nat.pow_le_pow_right (by decide) (by omega)))];simp[c]
 have C:∀i,i<nb m->bcl m (bitAt X) i=cls xs i/\bof m (bitAt X) i=cOff L ys xs i:=by
  intro i hi;unfold bcl bof;rw[B i hi];exact vM 15 _ _ (ea i hi).2.1
 have A:∀i,i<=nb m->bat m (bitAt X) i=cAt xs i/\bon m (bitAt X) i=cOn xs i:=by
  intro i;induction i with
  | zero=>intro _;exact⟨rfl,rfl⟩
  | succ i ih=>
   intro hi;obtain⟨h1,h2⟩:=ih (by omega);obtain⟨c1,c2⟩:=C i (by omega);rw[bat,bon,cAt,cOn,h1,h2,dQ,c1];exact⟨rfl,rfl⟩
 have x1:xs=rC m (bitAt X):=by
  unfold rC mkS;rw[dW];refine(j2 _ xs hfx ck).trans ?_;rw[<-hM,show((nb m:Int)*4).toNat=nb m*4 by omega];refine di _ _ _ fun j hj=>?_;have hj4:j/4<nb m:=by omega
  rw[oa _ _ _ _ hj4,(C _ hj4).1];unfold cls numAt;rw[iM,show j/4*4+j%4=j by omega];simp[hj,show j%4<4 by omega]
 have x2:ys=rO m (bitAt X):=by
  unfold rO;rw[lj];refine(j2 _ ys hfy oc).trans ?_;rw[<-en,Int.toNat_natCast,(A (nb m) (Nat.le_refl _)).1];refine di _ _ _ fun j hj=>?_;obtain⟨i,t,hi,ht,rfl⟩:=Gy xs (nb m) j hj
  have hb:t<dQ m (bitAt X) i:=by rw[dQ,(C i hi).1];exact ht
  have g:=qG m (bitAt X) (nb m) i t hi hb;rw[(A i (by omega)).1]at g;rw[List.getD_eq_getElem?_getD,g,(C i hi).2];unfold cOff slcX
  rw[if_pos (show slcE L ys (cAt xs i) (kwd (cls xs i))=0 from(ea i hi).1),iM,Int.toNat_natCast,Int.toNat_natCast];simp[ht]
 have x3:S=rS m (bitAt X):=by
  unfold rS;refine ja (by rw[sl,jT]) fun j hj=>?_;unfold da;rw[i_ _ _ _ (by omega)];by_cases c:j=0
  .subst c;exact s0
  .have h8:=lh m j (by omega) c;have:=((ea (8*j) h8).2.2 (by omega)).1;rw[show 8*j/8=j by omega]at this;rw[this,(A (8*j) (by omega)).2]
 have x4:T=rT m (bitAt X):=by
  unfold rT;refine ja (by rw[tl,jS]) fun j hj=>?_;unfold c_;rw[i_ _ _ _ (by omega)];by_cases c:j=0
  .subst c;exact t0
  .have h8:=lh m j (by omega) c;have:=((ea (8*j) h8).2.2 (by omega)).2;rw[show 8*j/8=j by omega]at this;rw[this,(A (8*j) (by omega)).1]
 refine⟨X,fX,cX,?_⟩;rw[nQ m X cX,<-x1,<-x2,<-x3,<-x4,(A (nb m) (Nat.le_refl _)).1,en,<-hM]
theorem Gi(a:aT)(m:Nat)(hfx:aA a.xs)(hfy:aA a.ys)(h:CK a m):kOk8 a=true:=by
 obtain⟨X,f,c,e⟩:=Gj a m hfx hfy h;rw[e];exact(ul m X f c).1
theorem th(a:aT)(h:kOk8 a=true):∃m:Nat,kBN8 a=(m:Int)/\m<=1048576/\aA (kBX8 a)/\am (m:Int) (kBX8 a)=true/\a=kB8 m (kBX8 a):=by
 have c:=nT a h;have f:=pX a;have hr:cM a.N a.k a.V a.M a.xs a.L a.ys a.S a.T=true:=h;obtain⟨h0,_,_,h4⟩:=kA _ _ _ _ _ _ _ _ _ hr
 obtain⟨e1,e2,e3,e4,e5,e6,e7,e8,e9⟩:=oZ _ _ _ _ _ _ _ _ _ _ _ h4;have n:kBN8 a=((rwN (rDec a.N a.k a.V a.xs a.L a.ys):Nat):Int):=by unfold kBN8 fJ;rw[if_pos hr]
 have x:rwX (rDec a.N a.k a.V a.xs a.L a.ys)=kBX8 a:=by unfold kBX8 dO;rw[if_pos hr]
 rw[x]at e5 e6 e7 e8 e9;refine⟨rwN (rDec a.N a.k a.V a.xs a.L a.ys),n,by omega,f,by rw[<-n];exact c,?_⟩;generalize rwN (rDec a.N a.k a.V a.xs a.L a.ys)=m at *;rw[n]at c;rw[nQ m _ c];generalize kBX8 a=X at *
 obtain⟨N,k,V,M,xs,L,ys,S,T⟩:=a;dsimp only at *;subst e1 e2 e3 e4 e5 e6 e7 e8 e9;rfl
theorem ug(m:Nat)(X:List Nat)(hm:m<=1048576)(hk:am (m:Int) X=true):
  (∀i,i<nb m->cls (rC m (bitAt X)) i=bcl m (bitAt X) i)/\(∀i,i<=nb m->cAt (rC m (bitAt X)) i=bat m (bitAt X) i/\cOn (rC m (bitAt X)) i=bon m (bitAt X) i)/\
  (∀i,i<nb m->ix (bat m (bitAt X) (nb m)) (rO m (bitAt X)) (rC m (bitAt X)) i=0/\cOff (bat m (bitAt X) (nb m)) (rO m (bitAt X)) (rC m (bitAt X)) i=bof m (bitAt X) i/\jA (bat m (bitAt X) (nb m)) (rO m (bitAt X)) (rC m (bitAt X)) i=blv m (bitAt X) i):=by
 have C:∀i,i<nb m->cls (rC m (bitAt X)) i=bcl m (bitAt X) i:=by
  intro i hi;have:=tq (cC m (bitAt X) (nb m)) 4 (by decide) (oB m (bitAt X) (nb m)) i (by rw[dW];exact hi);rw[dW,oa m (bitAt X) _ i hi]at this;exact this
 have A:∀i,i<=nb m->cAt (rC m (bitAt X)) i=bat m (bitAt X) i/\cOn (rC m (bitAt X)) i=bon m (bitAt X) i:=by
  intro i;induction i with
  | zero=>intro _;exact⟨rfl,rfl⟩
  | succ i ih=>
   intro hi;obtain⟨h1,h2⟩:=ih (by omega);rw[bat,bon,cAt,cOn,h1,h2,dQ,C i (by omega)];exact⟨rfl,rfl⟩
 refine⟨C,A,fun i hi=>?_⟩;have R:=sr m (bitAt X) hm i hi;rw[<-lj,mP _ (iK _ _ _)]at R;unfold jA ix cOff;rw[C i hi,(A i (by omega)).1];refine⟨R.1,R.2,?_⟩
 have e:slcX (bat m (bitAt X) (nb m):Int) (rO m (bitAt X)) (bat m (bitAt X) i:Int) (kwd (bcl m (bitAt X) i):Int)=bof m (bitAt X) i:=R.2;rw[e];have:=qH (blv m (bitAt X) i) 15;unfold bcl bof
 rw[this,Nat.mod_eq_of_lt (ow m (bitAt X) i)]
theorem uh(m:Nat)(X:List Nat)(hm:m<=1048576)(hk:am (m:Int) X=true):CK (kB8 m X) m:=by
 obtain⟨C,A,R⟩:=ug m X hm hk;have hn:=iD m hm;have hb:=jE m (bitAt X) (nb m);rw[nQ m X hk]
 have i1:aP (nb m:Int) 4 ((nb m:Int)*4) (rC m (bitAt X))=true:=by
  have:=uA (cC m (bitAt X) (nb m)) 4 (by decide) (by decide) (by rw[dW];omega);rw[dW]at this;unfold rC;rw[show((nb m:Int)*4)=((nb m*4:Nat):Int)by omega];exact this
 have i2:am (bat m (bitAt X) (nb m):Int) (rO m (bitAt X))=true:=by
  unfold rO;rw[lj];exact fB _ _ (by omega)
 have hg:0<gN m:=by unfold gN;omega
 have gs:∀j,j<gN m->gi (rS m (bitAt X)) j=(bon m (bitAt X) (8*j):Int):=fun j hj=>by unfold rS da;rw[i_ _ _ _ hj]
 have gt':∀j,j<gN m->gi (rT m (bitAt X)) j=(bat m (bitAt X) (8*j):Int):=fun j hj=>by unfold rT c_;rw[i_ _ _ _ hj]
 refine⟨rfl,hm,rfl,rfl,i1,i2,by unfold rS;rw[jT],by unfold rT;rw[jS],gs 0 hg,gt' 0 hg,?_,?_,?_⟩
 .intro i hi;dsimp only;obtain⟨r1,r2,_⟩:=R i hi;refine⟨r1,by rw[r2,C i hi];exact qF _ _ _,fun h8=>?_⟩;have hj:i/8<gN m:=by unfold gN;omega
  rw[gs _ hj,gt' _ hj,show 8*(i/8)=i by omega,(A i (by omega)).1,(A i (by omega)).2];exact⟨rfl,rfl⟩
 .dsimp only;rw[(A (nb m) (Nat.le_refl _)).1]
 .intro h0;dsimp only;rw[(R (nb m-1) (by omega)).2.2];unfold blv;have hr:m-15*(nb m-1)<=15:=by unfold nb at h0⊢;omega
  have e:numOf 15 (fun k=>decide (15*(nb m-1)+k<m)&&bitAt X (15*(nb m-1)+k))=numOf (m-15*(nb m-1)) (fun k=>decide (15*(nb m-1)+k<m)&&bitAt X (15*(nb m-1)+k)):=by
   refine je _ _ _ fun t=>?_;rw[iM];by_cases c:t<m-15*(nb m-1)
   .simp[c,show t<15 by omega]
   .simp[c,show ¬15*(nb m-1)+t<m by omega]
  rw[e];exact fb _ _
theorem vJ(m:Nat)(X:List Nat)(j:Nat):∀r,r<=15->15*j+r<=m->cntB X (15*j+r)=cntB X (15*j)+cnt (blv m (bitAt X) j) r:=by
 intro r;induction r with
 | zero=>intro _ _;rfl
 | succ r ih=>
  intro h1 h2;have e:=ih (by omega) (by omega);rw[show 15*j+(r+1)=15*j+r+1 by omega,cntB,e,cnt]
  have t:(blv m (bitAt X) j).testBit r=bitAt X (15*j+r):=by
   unfold blv;rw[iM];simp[show r<15 by omega,show 15*j+r<m by omega]
  rw[lH]at t;rw[<-t];have:(blv m (bitAt X) j/2^r%2)<2:=Nat.mod_lt _ (by decide);by_cases c:blv m (bitAt X) j/2^r%2=1
  .simp[c];omega
  .simp[c];omega
theorem GU(m:Nat)(X:List Nat):∀j,15*j<=m->bon m (bitAt X) j=cntB X (15*j):=by
 intro j;induction j with
 | zero=>intro _;rfl
 | succ j ih=>
  intro h;have e:=vJ m X j 15 (Nat.le_refl _) (by omega);rw[bon,ih (by omega),show 15*(j+1)=15*j+15 by omega,e];rfl
def obI(bit:Bool)(i n:Nat):Nat:=if bit then n else i-n
end Go.Proofs.YtleegaihbgbcjabGreatDoor
namespace Go.Proofs.YtleegaihbgbcjabGreatDoor
open Go.RowKit Num Bn
namespace Ow
theorem j5{w:World}{g:Nat}{ys:List Nat}{T:TypeId}(h:aa w g (wv ys) T)(j:Nat)(hj:j<ys.length):w.cell? ⟨g,j,none⟩=some (.int .u64 (gt ys j)):=
 h.cell j (by simp[wv,gt_get ys j hj])
theorem vy{w:World}{g:Nat}{ys:List Nat}{T:TypeId}(h:aa w g (wv ys) T)(j v:Nat):aa (w.setCell ⟨g,j,none⟩ (.int .u64 v)) g (wv (ys.set j v)) T:=by
 have:=h.set j (.int .u64 v);rwa [show(wv ys).set j (.int .u64 v)=wv (ys.set j v)by simp[wv,List.map_set]]at this
theorem AX(n i q:Nat)(hi:1<=i)(hq:q+1<=n):(eI n i q).set (q+1) (ch i (q+1)-ch (i-1) q)=eI n i (q+1):=by
 refine list_ext (by rw[List.length_set,fM,fM]) fun t ht=>?_;rw[List.length_set,fM]at ht;rw[gt_set _ _ _ _ (by rw[fM];omega),jt _ _ _ _ (by omega),jt _ _ _ _ (by omega)]
 by_cases c:q+1=t
 .subst c;obtain⟨a,rfl⟩:∃a,i=a+1:=⟨i-1,by omega⟩;rw[if_pos rfl,if_neg (by omega),iH,Nat.add_sub_cancel];omega
 .rw[if_neg c];by_cases d:q<t
  .rw[if_pos d,if_pos (by omega)]
  .rw[if_neg d,if_neg (by omega)]
theorem uL(g i:Nat)(hi:i<62)(w:World)(h:aa w g (wv (rowP 62 i)) 225):
  Calls prog 200 #[.pointer (some ⟨g,0,none⟩),.int .i64 i] w fun e w'=>e=.returned (.tuple #[])/\aa w' g (wv (rowP 62 (i+1))) 225/\Below g w w':=by
 go_enter func200,ntmps200;go_wp2;go_loopw [4] (fun j wz=>∃q:Nat,q<=i+1/\j=.int .i64 q/\aa wz g (wv (eI 62 (i+1) q)) 225/\Below g w wz) (fun j _=>(intOf j).toNat)
 case atStart=>exact⟨i+1,Nat.le_refl _,by go_num,by rw[pi];exact h,Below.refl _ _⟩
 case round=>
  obtain⟨q,hq,rfl,hOz,hwz⟩:=hrel;clear h;by_cases h0:q=0
  .subst h0;rw[ph]at hOz;have HO:Hid (aa wr g (wv (rowP 62 (i+1))) 225):=hOz;clear hOz;go_wp2;refine bodyPost_end (results_none rfl _ _ _) rfl ?_;exact⟨rfl,HO.out,hwz⟩
  .have q0:(0:Int)<(q:Int):=by omega
   have e1:=j5 hOz q (by rw[fM];omega);have e2:=j5 hOz (q-1) (by rw[fM];omega);have fz:=hOz.frozen q;have l1:(q:Int)<63:=by omega
   have l2:(q:Int)-1<63:=by omega
   rw[jt _ _ _ _ (by omega),if_neg (by omega),Nat.add_sub_cancel]at e1 e2;have b1:=gB i q (by omega);have b2:=gB i (q-1) (by omega);have st:=vy hOz q (ch i q+ch i (q-1))
   have ps:=s_ 62 (i+1) q (by omega) (by omega) (by omega);rw[Nat.add_sub_cancel]at ps;rw[ps]at st
   have HO:Hid (aa (wr.setCell ⟨g,q,none⟩ (.int .u64 ((ch i q+ch i (q-1):Nat):Int))).drew g (wv (eI 62 (i+1) (q-1))) 225):=st
   have HB:Hid (Below g w (wr.setCell ⟨g,q,none⟩ (.int .u64 ((ch i q+ch i (q-1):Nat):Int))).drew):=(hwz.setCell (Nat.le_refl _) _).drew;have ez:((q:Int)-1).toNat=q-1:=by omega
   have ad:IntKind.u64.wrap ((ch i q:Int)+(ch i (q-1):Int))=((ch i q+ch i (q-1):Nat):Int):=by rw[IntKind.wrap_u64];omega
   clear st ps hOz;generalize ch i q=A at *;generalize ch i (q-1)=B at *;go_wp2;go_region;go_wp2;exact⟨⟨q-1,by omega,by go_num,HO.out,HB.out⟩,by simp only[intOf];omega⟩
theorem xU(g i:Nat)(h1:1<=i)(hi:i<=62)(w:World)(h:aa w g (wv (rowP 62 i)) 225):
  Calls prog 206 #[.pointer (some ⟨g,0,none⟩),.int .i64 i] w fun e w'=>e=.returned (.tuple #[])/\aa w' g (wv (rowP 62 (i-1))) 225/\Below g w w':=by
 go_enter func206,ntmps206;go_wp2;go_loopw [4] (fun j wz=>∃q:Nat,q<=i/\j=.int .i64 ((q:Int)+1)/\aa wz g (wv (eI 62 i q)) 225/\Below g w wz) (fun j _=>(i+1-intOf j).toNat)
 case atStart=>exact⟨0,Nat.zero_le _,by go_num,by rw[ph];exact h,Below.refl _ _⟩
 case round=>
  obtain⟨q,hq,rfl,hOz,hwz⟩:=hrel;clear h;by_cases h0:q=i
  .subst h0;rw[pi]at hOz;have HO:Hid (aa wr g (wv (rowP 62 (q-1))) 225):=hOz;clear hOz;go_wp2;refine bodyPost_end (results_none rfl _ _ _) rfl ?_;exact⟨rfl,HO.out,hwz⟩
  .have q0:(q:Int)+1<=(i:Int):=by omega
   have e1:=j5 hOz (q+1) (by rw[fM];omega);have e2:=j5 hOz q (by rw[fM];omega);have fz:=hOz.frozen (q+1);have l1:(q:Int)+1<63:=by omega
   have l2:(q:Int)<63:=by omega
   rw[jt _ _ _ _ (by omega),if_pos (by omega)]at e1;rw[jt _ _ _ _ (by omega),if_neg (by omega)]at e2;have b1:=gB i (q+1) (by omega)
   have le:ch (i-1) q<=ch i (q+1):=by
    obtain⟨a,rfl⟩:∃a,i=a+1:=⟨i-1,by omega⟩;rw[iH,Nat.add_sub_cancel];omega
   have st:=vy hOz (q+1) (ch i (q+1)-ch (i-1) q);rw[AX 62 i q h1 (by omega)]at st
   have HO:Hid (aa (wr.setCell ⟨g,q+1,none⟩ (.int .u64 ((ch i (q+1)-ch (i-1) q:Nat):Int))).drew g (wv (eI 62 i (q+1))) 225):=st
   have HB:Hid (Below g w (wr.setCell ⟨g,q+1,none⟩ (.int .u64 ((ch i (q+1)-ch (i-1) q:Nat):Int))).drew):=(hwz.setCell (Nat.le_refl _) _).drew;have ez:((q:Int)+1).toNat=q+1:=by omega
   have ad:IntKind.u64.wrap ((ch i (q+1):Int)-(ch (i-1) q:Int))=((ch i (q+1)-ch (i-1) q:Nat):Int):=by rw[IntKind.wrap_u64];omega
   have ad2:((ch i (q+1):Int)-(ch (i-1) q:Int))=((ch i (q+1)-ch (i-1) q:Nat):Int):=by omega
   clear st hOz;generalize ch i (q+1)=A at *;generalize ch (i-1) q=B at *;go_wp2;go_region;go_wp2;exact⟨⟨q+1,by omega,by go_num,HO.out,HB.out⟩,by simp only[intOf];omega⟩
theorem us:(prog.info? 225).map (fun i=>(i.zero,i.size))=some (some (.agg (wv (List.replicate 63 0)).toArray),63):=by kernel_rfl
theorem GH:prog.built 225 [(0,.int .u64 1)]=some (wv ((List.replicate 63 0).set 0 1)).toArray:=by kernel_rfl
theorem Bm(ys:List Nat):(wv ys).toArray.all (·.oneCell')=true:=by
 rw[Array.all_eq_true_iff_forall_mem];intro v hv;simp only[wv,List.mem_toArray,List.mem_map]at hv;obtain⟨y,_,rfl⟩:=hv;rfl
end Ow
namespace Ow
theorem oR(ys:List Nat)(h:ys.length=63):(prog.info? 225).map (·.size)=some (wv ys).toArray.size:=by
 rw[(zero_of_info us).2,List.size_toArray,length_wv,h]
theorem Ho(w:World)(g:Nat)(cs:Array Value):Below g w (w.setRow g cs):=by
 refine⟨rfl,rfl,rfl,?_,fun k hk=>?_⟩
 .simp[World.setRow]
 .simp only[World.setRow,Array.getElem?_modify];rw[if_neg (by omega)]
theorem mN{ops:Array Oper}{rest:List Oper}{d:Option Tmp}{ty:TypeId}{ps:String}{af:Array Edge}{a:Act}{w:World}{Q:Exit->Act->World->Prop}
  (h:∀w1,aa w1 w.heap.size (wv (List.replicate 63 0)) 225->Below w.heap.size w w1->w.heap.size<w1.heap.size->wpList prog ops Q rest (a.put d (.pointer (some ⟨w.heap.size,0,none⟩))) w1):
  wpList prog ops Q (⟨d,.alloc 225,ty,ps,af,none⟩::rest) a w:=by
 refine wpList_plain rfl fun K hK=>?_;unfold Oper.wp execOp;have z:=(zero_of_info us).1;have nw:=h _ (aa.new w _ _) (below_alloc w _) (by simp);refine cast ?_ (hK _ _ nw)
 simp[Instr.alloc,Sem.run_bind,z,newVar,Value.cells,go_sem]
theorem GI{ops:Array Oper}{rest:List Oper}{d:Option Tmp}{ty:TypeId}{ps:String}{af:Array Edge}{a:Act}{w:World}{Q:Exit->Act->World->Prop}
  (h:wpList prog ops Q rest (a.put d (.agg (wv (rowP 62 0)).toArray)) w):
  wpList prog ops Q (⟨d,.build 225 #[(0,.const (.int .u64 1))],ty,ps,af,none⟩::rest) a w:=by
 have e:prog.built 225 ((#[((0:Nat),Operand.const (.int .u64 1))].map fun(i,x)=>(i,a.eval x)).toList)=some (wv (rowP 62 0)).toArray:=by
  rw[<-r9 62,<-GH];congr 1;simp;rfl
 refine wpList_build rfl _ _ rfl (by rw[e];rfl) ?_;rw[e];exact h
theorem lU{ops:Array Oper}{rest:List Oper}{d:Option Tmp}{ty:TypeId}{ps:String}{af:Array Edge}{a:Act}{w:World}{Q:Exit->Act->World->Prop}{x y:Operand}
  (g:Nat) (old ys:List Nat) (hx:a.eval x=.pointer (some ⟨g,0,none⟩)) (hy:a.eval y=.agg (wv ys).toArray) (hc:aa w g (wv old) 225) (lo:old.length=63) (ly:ys.length=63)
  (h:∀w1,aa w1 g (wv ys) 225->Below g w w1->wpList prog ops Q rest (a.put d undef) w1):
  wpList prog ops Q (⟨d,.store 225 x y,ty,ps,af,none⟩::rest) a w:=
 wpList_store_row rfl _ x y rfl g _ hx hy _ _ hc (oR ys ly) (by simp[length_wv,lo,ly]) (Bm ys) (h _ (setRow_heap w g _ _ _ _ hc) (Ho w g _))
theorem Ds{ops:Array Oper}{rest:List Oper}{d:Option Tmp}{ty:TypeId}{ps:String}{af:Array Edge}{a:Act}{w:World}{Q:Exit->Act->World->Prop}{x:Operand}
  (g:Nat) (ys:List Nat) (hx:a.eval x=.pointer (some ⟨g,0,none⟩)) (hc:aa w g (wv ys) 225) (ly:ys.length=63)
  (h:wpList prog ops Q rest (a.put d (.agg (wv ys).toArray)) w):
  wpList prog ops Q (⟨d,.load 225 x,ty,ps,af,none⟩::rest) a w:=
 wpList_load_row rfl _ x rfl g hx _ _ _ _ hc underlying225 rfl (oR ys ly) h
theorem oS(n:Nat)(hn:n<=62)(w:World):
  Qq 199 #[.int .i64 n] w (.agg (wv (rowP 62 n)).toArray):=by
 have G:Hid (∀(g i:Nat),i<62->∀w,aa w g (wv (rowP 62 i)) 225->Calls prog 200 #[.pointer (some ⟨g,0,none⟩),.int .i64 i] w fun e w'=>e=.returned (.tuple #[])/\aa w' g (wv (rowP 62 (i+1))) 225/\Below g w w'):=uL
 go_enter func199,ntmps199;go_wp2_with (refine mN ?_);intro w1 hc1 hb1 hs1;go_wp2_with (first | refine GI ?_ | refine mN ?_);intro w2 hc2 hb2 hs2
 go_wp2_with (refine lU w1.heap.size _ _ rfl rfl hc2 (by simp) (length_rowP 62 0) ?_);intro w3 hc3 hb3;have hA:Below w.heap.size w w3:=(hb1.trans (hb2.mono (by omega))).trans (hb3.mono (by omega))
 have hR:=(hc1.kept hb2).keep hb3 hs1;have hlt:w.heap.size<w1.heap.size:=hs1;clear hc1 hb1 hs1 hc2 hb2 hs2 hb3 w2;go_wp2;generalize w1.heap.size=g at *
 go_loopw [4,7] (fun _ s wr=>∃i:Nat,i<=n/\s=.int .i64 i/\aa wr g (wv (rowP 62 i)) 225/\aa wr w.heap.size (wv (List.replicate 63 0)) 225/\Below w.heap.size w wr) (fun _ s _=>n-(intOf s).toNat)
 case atStart=>exact⟨0,Nat.zero_le _,rfl,hc3,hR,hA⟩
 case round=>
  obtain⟨i,hin,rfl,hc,hr,hb⟩:=hrel;clear hc3 hR hA;by_cases hi:i<n
  .have hi2:(i:Int)<(n:Int):=by omega
   go_wp2_with fail;refine(G.out g i (by omega) _ hc).mono ?_;rintro e w4 ⟨rfl,hc4,hb4⟩;have hr4:=hr.keep hb4 hlt;have hb5:=hb.trans (hb4.mono (by omega));clear hc hr hb hb4;go_wp2
   exact⟨⟨i+1,by omega,by go_num,hc4,hr4,hb5⟩,by simp only[intOf];omega⟩
  .obtain rfl:i=n:=by omega
   have HB:Hid (Below w.heap.size w wr):=hb;clear hb G;go_wp2_with (first | refine Ds g _ rfl hc (length_rowP 62 i) ?_ | refine lU w.heap.size _ _ rfl rfl hr (by simp) (length_rowP 62 i) ?_);intro w5 hc5 hb5
   have HC:Hid (aa w5 w.heap.size (wv (rowP 62 i)) 225):=hc5;have HB5:Hid (Below w.heap.size w w5):=HB.out.trans hb5;clear hc5 hb5 hc hr;go_wp2
   (try simp only[Exit.inBlock,Exit.then]);exact bodyPost_ret (results_cell_row rfl _ _ _ _ _ _ _ rfl HC.out underlying225 rfl (oR _ (length_rowP 62 i))) rfl ⟨rfl,HB5.out⟩
end Ow
open Go.RowKit Num Bn Ow
theorem ru(n:Int)(h0:0<=n)(h1:n<=62)(w:World):
  Qx 198 #[.int .i64 n] w (.bool true):=by
 go_enter func198,ntmps198;go_wp2;go_ret;exact⟨rfl,rfl⟩
theorem rt(n:Int)(h:n<0\/62<n)(w:World):
  Qx 198 #[.int .i64 n] w (.bool false):=by
 by_cases h0:n<0
 .go_enter func198,ntmps198;go_wp2;go_ret;exact⟨rfl,rfl⟩
 .have h1:62<n:=by omega
  have h2:0<=n:=by omega
  have h3:¬n<=62:=by omega
  clear h h0;go_enter func198,ntmps198;go_wp2;go_ret;exact⟨rfl,rfl⟩
theorem Gm(n k:Int)(hn: -9223372036854775808<=n/\n<=9223372036854775807)(hk: -9223372036854775808<=k/\k<=9223372036854775807)(w:World):
  Qq 185 #[.int .i64 n,.int .i64 k] w (.int .u64 (chN n k)):=by
 by_cases hw:n<0\/62<n
 .rw[show chN n k=0 by unfold chN;rw[if_pos (by omega)]];have W:Hid (∀w,Qx 198 #[.int .i64 n] w (.bool false)):=rt n hw;clear hw
  go_enter func185,ntmps185;go_wp2_with fail;refine mr (W.out _) fun w1 hw1=>?_;rw[hw1];clear hw1 w1;go_wp2;go_ret;exact⟨rfl,Below.refl _ _⟩
 have W:Hid (∀w,Qx 198 #[.int .i64 n] w (.bool true)):=ru n (by omega) (by omega);by_cases h3:k<0
 .rw[show chN n k=0 by unfold chN;rw[if_pos (by omega)]];go_enter func185,ntmps185;go_wp2_with fail;refine mr (W.out _) fun w1 hw1=>?_;rw[hw1];clear hw1 w1;go_wp2;go_ret;exact⟨rfl,Below.refl _ _⟩
 by_cases h4:n<k
 .rw[show chN n k=0 by unfold chN;rw[if_pos (by omega)]];go_enter func185,ntmps185;go_wp2_with fail;refine mr (W.out _) fun w1 hw1=>?_;rw[hw1];clear hw1 w1;go_wp2;go_ret;exact⟨rfl,Below.refl _ _⟩
 rw[show chN n k=ch n.toNat k.toNat by unfold chN;rw[if_neg (by omega)]];obtain⟨a,rfl⟩:=Int.eq_ofNat_of_zero_le (show 0<=n by omega);obtain⟨b,rfl⟩:=Int.eq_ofNat_of_zero_le (show 0<=k by omega)
 rw[Int.toNat_natCast,Int.toNat_natCast];have ha:a<=62:=by omega
 have hba:b<=a:=by omega
 have b63:(b:Int)<63:=by omega
 have R:Hid (∀w,Qq 199 #[.int .i64 a] w (.agg (wv (rowP 62 a)).toArray)):=oS a ha;clear hw;go_enter func185,ntmps185;go_wp2_with fail
 refine mr (W.out _) fun w1 hw1=>?_;rw[hw1];clear hw1 w1 W;go_wp2_with fail;refine mr (R.out _) fun w1 hb1=>?_;go_wp2_with (refine mN ?_);intro w2 hc2 hb2 hs2
 go_wp2_with (refine lU w1.heap.size _ _ rfl rfl hc2 (by simp) (length_rowP 62 a) ?_);intro w3 hc3 hb3;have HB:Hid (Below w.heap.size w w3):=(bg hb1 hb2).trans (hb3.mono hb1.size)
 clear hb1 hc2 hb2 hs2 hb3 w2 R;have e1:=j5 hc3 b (by rw[length_rowP];omega);rw[ms _ _ _ (by omega)]at e1;obtain⟨Z,hZ⟩:∃Z,Hid (Z=ch a b):=⟨_,rfl⟩;rw[<-hZ.out]at e1;clear hc3;go_wp2;go_ret;rw[<-hZ.out]
 exact⟨rfl,HB.out⟩
open Go.RowKit Num Bn Ow
theorem Bu(x:Nat)(n:Int)(hx:x<18446744073709551616)(hn: -9223372036854775808<=n/\n<=9223372036854775807)(w:World):
  Qq 178 #[.int .u64 x,.int .i64 n] w (.tuple #[.int .i64 (gh x n),.int .u64 (ge x n)]):=by
 by_cases hw:n<0\/62<n
 .rw[show gh x n=0 by unfold gh;rw[if_pos hw],show ge x n=0 by unfold ge;rw[if_pos hw]];have W:Hid (∀w,Qx 198 #[.int .i64 n] w (.bool false)):=rt n hw
  clear hw;go_enter func178,ntmps178;go_wp2_with fail;refine mr (W.out _) fun w1 hw1=>?_;rw[hw1];clear hw1 w1;go_wp2;go_ret2;exact⟨rfl,Below.refl _ _⟩
 have W:Hid (∀w,Qx 198 #[.int .i64 n] w (.bool true)):=ru n (by omega) (by omega)
 rw[show gh x n=cnt x n.toNat by unfold gh;rw[if_neg hw],show ge x n=off x n.toNat by unfold ge;rw[if_neg hw]];obtain⟨m,rfl⟩:=Int.eq_ofNat_of_zero_le (show 0<=n by omega);rw[Int.toNat_natCast]
 have hm:m<=62:=by omega
 clear hw;have R:Hid (∀w,Qq 199 #[.int .i64 0] w (.agg (wv (rowP 62 0)).toArray)):=oS 0 (by omega)
 have G:Hid (∀(g i:Nat),i<62->∀w,aa w g (wv (rowP 62 i)) 225->Calls prog 200 #[.pointer (some ⟨g,0,none⟩),.int .i64 i] w fun e w'=>e=.returned (.tuple #[])/\aa w' g (wv (rowP 62 (i+1))) 225/\Below g w w'):=uL
 have x0:(0:Int)<=(x:Int):=by omega
 go_enter func178,ntmps178;go_wp2_with fail;refine mr (W.out _) fun w1 hw1=>?_;rw[hw1];clear hw1 w1 W;go_wp2_with fail;refine mr (R.out _) fun w1 hb1=>?_;go_wp2_with (refine mN ?_)
 intro w2 hc2 hb2 hs2;go_wp2_with (refine lU w1.heap.size _ _ rfl rfl hc2 (by simp) (length_rowP 62 0) ?_);intro w3 hc3 hb3;have hB:=(bg hb1 hb2).trans (hb3.mono hb1.size)
 have hg:w.heap.size<=w1.heap.size:=hb1.size;clear hb1 hc2 hb2 hs2 hb3 w2 R;go_wp2;generalize w1.heap.size=g at *;clear w1
 go_loopw [6,7,9,15] (fun c l _ i wr=>∃p:Nat,p<=m/\i=.int .i64 p/\c=.int .i64 (cnt x p)/\l=.int .u64 (off x p)/\aa wr g (wv (rowP 62 p)) 225/\Below w.heap.size w wr) (fun _ _ _ i _=>m-(intOf i).toNat)
 case atStart=>exact⟨0,Nat.zero_le _,rfl,rfl,rfl,hc3,hB⟩
 case round=>
  obtain⟨q,hq,rfl,rfl,rfl,hc,hb⟩:=hrel;clear hc3 hB;obtain⟨c,hcq⟩:∃c,Hid (c=cnt x q):=⟨_,rfl⟩;obtain⟨O,hOq⟩:∃O,Hid (O=off x q):=⟨_,rfl⟩;have c62:c<=q:=by rw[hcq.out];exact eM x q
  have lt:=nB x q;have l62:=gB q (cnt x q) (by omega);have bO:O<4611686018427387904:=by rw[hOq.out];omega
  rw[<-hcq.out,<-hOq.out];clear lt l62;by_cases hp:q<m
  .have hp2:(q:Int)<(m:Int):=by omega
   have q64:(q:Int)<64:=by omega
   have D:Hid (∀w,aa w g (wv (rowP 62 q)) 225->Calls prog 200 #[.pointer (some ⟨g,0,none⟩),.int .i64 q] w fun e w'=>e=.returned (.tuple #[])/\aa w' g (wv (rowP 62 (q+1))) 225/\Below g w w'):=G.out g q (by omega)
   by_cases hbit:x/2^q%2=1
   .have T:bits .and .u64 ((x:Int)/2^q) 1=1:=by rw[qQ _ _ x0 (by omega),Int.toNat_natCast,hbit];rfl
    have ec:cnt x (q+1)=c+1:=by rw[cnt,hbit,hcq.out]
    have eo:off x (q+1)=O+ch q (c+1):=by rw[off,if_pos hbit,ec,hOq.out]
    have e1:=j5 hc (c+1) (by rw[length_rowP];omega);rw[ms _ _ _ (by omega)]at e1;have b1:=gB q (c+1) (by omega);have HC:Hid (cnt x (q+1)=c+1):=ec;have l1:(c:Int)+1<63:=by omega
    have ez:((c:Int)+1).toNat=c+1:=by omega
    generalize ch q (c+1)=Z at *;have HO:Hid (off x (q+1)=O+Z):=eo;clear ec eo;have HCel:Hid (aa wr g (wv (rowP 62 q)) 225):=hc;clear hc G;go_wp2_with fail;refine(D.out _ HCel.out).mono ?_
    rintro e w4 ⟨rfl,hc4,hb4⟩;have hb5:=hb.trans (hb4.mono hg);clear hb hb4 e1;go_wp2;exact⟨⟨q+1,by omega,by go_num,by rw[HC.out];go_num,by rw[HO.out];go_num,hc4,hb5⟩,by simp only[intOf];omega⟩
   .have T:bits .and .u64 ((x:Int)/2^q) 1=0:=by rw[qQ _ _ x0 (by omega),Int.toNat_natCast,show x/2^q%2=0 by omega];rfl
    have HC:Hid (cnt x (q+1)=c):=by show _=_;rw[cnt,hcq.out];omega
    have HO:Hid (off x (q+1)=O):=by show _=_;rw[off,if_neg hbit,hOq.out,Nat.add_zero]
    have HCel:Hid (aa wr g (wv (rowP 62 q)) 225):=hc;clear hc G;go_wp2_with fail;refine(D.out _ HCel.out).mono ?_;rintro e w4 ⟨rfl,hc4,hb4⟩;have hb5:=hb.trans (hb4.mono hg);clear hb hb4;go_wp2
    exact⟨⟨q+1,by omega,by go_num,by rw[HC.out],by rw[HO.out],hc4,hb5⟩,by simp only[intOf];omega⟩
  .obtain rfl:q=m:=by omega
   clear G;go_wp2;go_ret2;rw[<-hcq.out,<-hOq.out];exact⟨rfl,hb⟩
theorem xG(a b o:Nat)(ha:a<=62)(hba:b<=a)(ho:o<ch a b)(w:World):
  Qq 186 #[.int .i64 a,.int .i64 b,.int .u64 o] w (.int .u64 (blk a b o)):=by
 have R:Hid (∀w,Qq 199 #[.int .i64 a] w (.agg (wv (rowP 62 a)).toArray)):=oS a ha;have HSo:Hid (o<ch a b):=ho;clear ho
 go_enter func186,ntmps186;go_wp2_with fail;go_step3;go_wp2_with fail;refine mr (R.out _) fun w1 hb1=>?_;go_wp2_with (refine mN ?_);intro w2 hc2 hb2 hs2
 go_wp2_with (refine lU w1.heap.size _ _ rfl rfl hc2 (by simp) (length_rowP 62 a) ?_);intro w3 hc3 hb3;have hB:=(bg hb1 hb2).trans (hb3.mono hb1.size);have hg:w.heap.size<=w1.heap.size:=hb1.size
 clear hb1 hc2 hb2 hs2 hb3 w2 R;simp only[Act.put,ah,List.set];go_wp2;go_step3;go_wp2;generalize w1.heap.size=g at *;clear w1
 go_loopw [1,2,7,8] (fun kv ov xv pv wr=>∃P K O X:Nat,P<=a/\K<=62/\kv=.int .i64 K/\ov=.int .u64 O/\xv=.int .u64 X/\pv=.int .i64 P/\Hid (O<ch P K/\X+blk P K O=blk a b o/\X%2^P=0)/\aa wr g (wv (rowP 62 P)) 225/\Below w.heap.size w wr) (fun kv _ _ _ _=>(intOf kv).toNat)
 case atStart=>exact⟨a,b,o,0,Nat.le_refl _,by omega,rfl,rfl,rfl,rfl,⟨HSo.out,by omega,by simp⟩,hc3,hB⟩
 case round=>
  obtain⟨P,K,O,X,hP,hK,rfl,rfl,rfl,rfl,hinv,hc,hb⟩:=hrel;clear hc3 hB HSo;by_cases hK0:K=0
  .subst hK0
   have HX:Hid (X=blk a b o):=by
    have:=hinv.out.2.1;rw[j6]at this;exact this
   clear hinv;go_wp2
   (try rw[Exit.noGoto_ret]);go_ret;rw[<-HX.out];exact⟨rfl,hb⟩
  have hK1:(0:Int)<(K:Int):=by omega
  have hK2:0<K:=by omega
  have k63:(K:Int)<63:=by omega
  go_wp2
  go_loopw [2,7,8] (fun ov xv pv wz=>∃P:Nat,P<=a/\ov=.int .u64 O/\xv=.int .u64 X/\pv=.int .i64 P/\Hid (O<ch P K/\X+blk P K O=blk a b o/\X%2^P=0)/\aa wz g (wv (rowP 62 P)) 225/\Below w.heap.size w wz) (fun _ _ pv _=>(intOf pv).toNat)
  case atStart=>exact⟨P,hP,rfl,rfl,rfl,hinv,hc,hb⟩
  case round=>
   obtain⟨Q,hQ,rfl,rfl,rfl,hin2,hcz,hbz⟩:=hrel;clear hinv hc hb
   have Q0:Q≠0:=by
    intro e;subst e;have:=hin2.out.1;rw[mB 0 K (by omega)]at this;omega
   obtain⟨q,rfl⟩:∃q,Q=q+1:=⟨Q-1,by omega⟩;have q0:(0:Int)<((q+1:Nat):Int):=by omega
   have S:Hid (∀w,aa w g (wv (rowP 62 (q+1))) 225->Calls prog 206 #[.pointer (some ⟨g,0,none⟩),.int .i64 ((q+1:Nat):Int)] w fun e w'=>e=.returned (.tuple #[])/\aa w' g (wv (rowP 62 q)) 225/\Below g w w'):=fun w h=>xU g (q+1) (by omega) (by omega) w h
   have HCz:Hid (aa wr g (wv (rowP 62 (q+1))) 225):=hcz;clear hcz;go_wp2_with fail;refine(S.out _ HCz.out).mono ?_;rintro e w4 ⟨rfl,hc4,hb4⟩;have hb5:=hbz.trans (hb4.mono hg);clear hbz hb4 HCz S
   have ez:((q+1:Nat):Int)=(q:Int)+1:=by omega
   rw[ez];have q64:(q:Int)<64:=by omega
   have e1:=j5 hc4 K (by rw[length_rowP];omega);rw[ms _ _ _ (by omega)]at e1;have HC4:Hid (aa w4 g (wv (rowP 62 q)) 225):=hc4;clear hc4;obtain⟨hlt,hX,hM⟩:=hin2.out;clear hin2
   have bO:O<4611686018427387904:=by have:=gB (q+1) K (by omega);omega
   have bX:X<4611686018427387904:=by
    have:=jC a b o;have:2^a<=2^62:=Nat.pow_le_pow_right (by decide) ha;omega
   by_cases hge:ch q K<=O
   .have H:Hid (O-ch q K<ch q (K-1)/\X+2^q+blk q (K-1) (O-ch q K)=blk a b o/\(X+2^q)%2^q=0):=by
     refine⟨?_,?_,tH X q hM⟩
     .obtain⟨j,rfl⟩:∃j,K=j+1:=⟨K-1,by omega⟩;rw[iH]at hlt;rw[Nat.add_sub_cancel];omega
     .rw[mJ q K O hK0 hge]at hX;omega
    have HR:Hid (bits .or .u64 (X:Int) (IntKind.u64.wrap (2^q))=((X+2^q:Nat):Int)):=by
     show bits .or .u64 (X:Int) (IntKind.u64.wrap (2^q))=((X+2^q:Nat):Int);rw[shl_one q (by omega),u64_or_nat _ _ (by omega) (eV q (by omega)),te X q hM]
    have hge2:((ch q K:Nat):Int)<=(O:Int):=by omega
    clear hX hM hlt;generalize ch q K=Z at *;go_wp2;exact⟨⟨q,K-1,O-Z,X+2^q,by omega,by omega,by go_num,by go_num,congrArg (Value.int .u64) HR.out,by go_num,H,HC4.out,hb5⟩,by simp only[intOf];omega⟩
   .have H:Hid (O<ch q K/\X+blk q K O=blk a b o/\X%2^q=0):=by
     refine⟨by omega,?_,pE X q hM⟩;rw[mH q K O hK0 hge]at hX;exact hX
    have hge2:¬((ch q K:Nat):Int)<=(O:Int):=by omega
    clear hX hM hlt;generalize hZ:ch q K=Z at *;go_wp2;exact⟨⟨q,by omega,rfl,rfl,by go_num,hZ ▸ H,HC4.out,hb5⟩,by simp only[intOf];omega⟩
theorem GX(n k:Int)(o:Nat)(hn: -9223372036854775808<=n/\n<=9223372036854775807)(hk: -9223372036854775808<=k/\k<=9223372036854775807)(ho:o<18446744073709551616)(w:World):
  Qq 158 #[.int .i64 n,.int .i64 k,.int .u64 o] w (.tuple #[.int .u64 (bkX n k o),.bool (bkB n k o)]):=by
 have C:Hid (∀w0,Qq 185 #[.int .i64 n,.int .i64 k] w0 (.int .u64 (chN n k))):=fun w0=>Gm n k hn hk w0;by_cases hc:chN n k<=o
 .rw[show bkX n k o=0 by unfold bkX;rw[if_pos hc],show bkB n k o=false by unfold bkB;simp;omega];have hc2:(chN n k:Int)<=(o:Int):=by omega
  generalize chN n k=Z at *;go_enter func158,ntmps158;go_wp2_with fail;refine mr (C.out _) fun w1 hb=>?_;go_wp2;go_ret2;exact⟨rfl,hb⟩
 .have hin:¬(n<0\/62<n\/k<0\/n<k):=by
   intro h;apply hc;unfold chN;rw[if_pos h];omega
  have eC:chN n k=ch n.toNat k.toNat:=by unfold chN;rw[if_neg hin]
  rw[show bkX n k o=blk n.toNat k.toNat o by unfold bkX;rw[if_neg hc],show bkB n k o=true by unfold bkB;simp;omega];obtain⟨a,rfl⟩:=Int.eq_ofNat_of_zero_le (show 0<=n by omega)
  obtain⟨b,rfl⟩:=Int.eq_ofNat_of_zero_le (show 0<=k by omega);rw[Int.toNat_natCast,Int.toNat_natCast]at *
  have S:Hid (∀w,Qq 186 #[.int .i64 a,.int .i64 b,.int .u64 o] w (.int .u64 (blk a b o))):=xG a b o (by omega) (by omega) (by omega)
  have hc2:¬((chN a b:Nat):Int)<=(o:Int):=by omega
  clear hin eC;generalize chN a b=Z at *;obtain⟨B,hB⟩:∃B,Hid (B=blk a b o):=⟨_,rfl⟩;rw[<-hB.out]at S;go_enter func158,ntmps158;go_wp2_with fail;refine mr (C.out _) fun w1 hb=>?_;clear C
  go_wp2_with fail;refine mr (S.out _) fun w2 hb2=>?_;have hb3:=bg hb hb2;clear S hb hb2;go_wp2;go_ret2;rw[<-hB.out];exact⟨rfl,hb3⟩
end Go.Proofs.YtleegaihbgbcjabGreatDoor
namespace Go.Proofs.YtleegaihbgbcjabGreatDoor
open Go.RowKit Num Bit Bn
theorem sL(m:Nat)(hm:m<=1048576)(w:World):
  Qx 139 #[.int .i64 m] w (.int .i64 (nb m)):=by
 go_enter func139,ntmps139;go_wp2;go_ret;exact⟨dn (by unfold nb;omega),rfl⟩
theorem sJ(n:Nat)(hn:n<=1048576)(w:World):
  Qx 142 #[.int .i64 n] w (.int .i64 ((max 1 n+7)/8:Nat)):=by
 go_enter func142,ntmps142;go_wp2
 .go_ret;exact⟨dn (by omega),rfl⟩
 .go_ret;exact⟨dn (by omega),rfl⟩
theorem Aa(bit:Bool)(i n:Nat)(h:n<=i)(hi:i<=2097152)(w:World):
  Qx 174 #[.bool bit,.int .i64 i,.int .i64 n] w (.int .i64 (obI bit i n:Nat)):=by
 unfold obI;cases bit with
 | true=>
  go_enter func174,ntmps174;go_wp2;go_ret;exact⟨rfl,rfl⟩
 | false=>
  go_enter func174,ntmps174;go_wp2;go_ret;exact⟨dn (by omega),rfl⟩
theorem sN(s p c wd o:Nat)(hs:s<=16777216)(hp:p<=16777216)(hc:c<=15)(hw:wd<=15)(w:World):
  Qq 143 #[.agg #[.int .i64 s,.int .i64 p],.agg #[.int .i64 c,.int .u64 o],.int .i64 wd] w (.agg #[.int .i64 (s+c:Nat),.int .i64 (p+wd:Nat)]):=by
 have e1:IntKind.i64.wrap ((s:Int)+(c:Int))=((s+c:Nat):Int):=by rw[IntKind.wrap_i64];omega
 have e2:IntKind.i64.wrap ((p:Int)+(wd:Int))=((p+wd:Nat):Int):=by rw[IntKind.wrap_i64];omega
 go_enter func143,ntmps143;go_wp2;refine bodyPost_ret (v:=.agg #[.int .i64 (s+c:Nat),.int .i64 (p+wd:Nat)]) (by simp[results,Tryz.results143,go_sem]) rfl ⟨rfl,?_⟩
 exact((below_alloc w _).alloc (by simp) _).alloc (by simp;omega) _
theorem sI(c o:Nat)(hc:c<=15)(ho:o<ch 15 c)(w:World):
  Qq 102 #[.agg #[.int .i64 c,.int .u64 o]] w (.int .u64 (blk 15 c o:Nat)):=by
 have o62:=gB 15 c (by decide);have e:chN (15:Int) (c:Int)=ch 15 c:=mC 15 c (by decide)
 have ex:bkX 15 (c:Int) o=blk 15 c o:=by
  unfold bkX;rw[e,if_neg (by omega)];rfl
 have C:Hid (∀w0,Qq 158 #[.int .i64 15,.int .i64 c,.int .u64 o] w0 (.tuple #[.int .u64 (blk 15 c o:Nat),.bool (bkB 15 c o)])):=fun w0=>by
  have:=GX 15 (c:Int) o (by decide) (by omega) (by omega) w0;rw[ex]at this;exact this
 generalize blk 15 c o=X at *;generalize bkB 15 (c:Int) o=Y at *;go_enter func102,ntmps102;go_wp2_with fail;refine mr (C.out _) fun w1 hb=>?_
 have hw1:Below w.heap.size w w1:=(below_alloc w _).trans (hb.mono (by simp));clear hb;go_wp2;go_ret;exact⟨rfl,hw1⟩
theorem sM(x:Nat)(hx:x<18446744073709551616)(w:World):
  Qq 141 #[.int .u64 x] w (.agg #[.int .i64 (cnt x 15:Nat),.int .u64 (off x 15:Nat)]):=by
 have C:Hid (∀w0,Qq 178 #[.int .u64 x,.int .i64 15] w0 (.tuple #[.int .i64 (cnt x 15:Nat),.int .u64 (off x 15:Nat)])):=fun w0=>Bu x 15 hx (by decide) w0
 generalize cnt x 15=X at *;generalize off x 15=Y at *;obtain⟨W,hW⟩:∃W,W=w.alloc (.cells #[.int .i64 0,.int .u64 0] 150):=⟨_,rfl⟩;have bW:=ba hW;have B1:=bE hW;go_enter func141,ntmps141
 go_wp2_with fail;rw[<-hW];refine mr (C.out _) fun w1 hb=>?_;have hw1:=bg bW hb;replace B1:=B1.kept hb;have f0:=B1.frozen 0;have f1:=B1.frozen 1;have c0:=B1.cell 0 rfl
 have c1:=B1.cell 1 rfl;clear hb hW C;go_wp2;refine bodyPost_ret (v:=.agg #[.int .i64 X,.int .u64 Y]) (by simp[results,Tryz.results141,go_sem,c0,c1]) rfl ⟨rfl,?_⟩
 exact(hw1.setCell (by simp) _).setCell (by simp) _
theorem Ae(ys:List Nat)(g cap p x:Nat)(w:World)(hO:Own w g ys)(hp:p<=2097152)(hf:aA ys)(hx:x<18446744073709551616)
  (hR:j_ ys p x):
  Calls prog 133 #[.slice (some ⟨g,0,none⟩) ys.length cap,.int .i64 p,.int .u64 x] w fun e w'=>e=.returned (.tuple #[])/\Own w' g (eh ys p x)/\bh g w w':=by
 obtain⟨h1,h2⟩:=hR;by_cases c1:x*2^(p%64)%18446744073709551616=0
 .by_cases c2:x/2^(64-p%64)=0
  .have A:(IntKind.u64.wrap ((x:Int)*2^(p%64)) != 0)=false:=by rw[gG,jB];simpa using c1
   have B:((x:Int)/2^(64-p%64) != 0)=false:=by rw[ie,jB];simpa using c2
   have R:Hid (eh ys p x=ys):=by
    unfold eh Hid;simp only[if_pos c1,if_pos c2]
   have S1:=trivial;have S2:=trivial;have S3:Hid (True):=S1;have S4:Hid (True):=S2;clear h1 h2 c1 c2 S1 S2;go_enter func133,ntmps133;go_wp2;go_end0;rw[R.out];exact⟨rfl,hO,bh.refl _ _⟩
  .have l2:=h2 c2;have l2':(p:Int)/64+1<(ys.length:Int):=by omega
   have e2:=hO.cell (p/64+1) l2;have f2:=hO.frozen (p/64+1);have A:(IntKind.u64.wrap ((x:Int)*2^(p%64)) != 0)=false:=by rw[gG,jB];simpa using c1
   have B:((x:Int)/2^(64-p%64) != 0)=true:=by rw[ie,jB];simpa using c2
   have R:Hid (eh ys p x=(ys.set (p/64+1) (gt ys (p/64+1)|||x/2^(64-p%64)))):=by
    unfold eh Hid;simp only[if_pos c1,if_neg c2]
   have S1:=trivial;have S2:=u64_or_nat (gt ys (p/64+1)) _ (hf _) (Nat.lt_of_le_of_lt (Nat.div_le_self x (2^(64-p%64))) hx);have S3:Hid (True):=S1
   have S4:Hid (bits .or .u64 (gt ys (p/64+1):Int) ((x/2^(64-p%64):Nat):Int)=((gt ys (p/64+1)|||x/2^(64-p%64):Nat):Int)):=S2;clear h1 h2 c1 c2 S1 S2;go_enter func133,ntmps133
   go_wp2;go_end0;rw[R.out,ie,S4.out];exact⟨rfl,hO.set _ _,(bh.refl _ _).set _ _⟩
 .by_cases c2:x/2^(64-p%64)=0
  .have l1:=h1 c1;have l1':(p:Int)/64<(ys.length:Int):=by omega
   have e1:=hO.cell (p/64) l1;have f1:=hO.frozen (p/64);have A:(IntKind.u64.wrap ((x:Int)*2^(p%64)) != 0)=true:=by rw[gG,jB];simpa using c1
   have B:((x:Int)/2^(64-p%64) != 0)=false:=by rw[ie,jB];simpa using c2
   have R:Hid (eh ys p x=(ys.set (p/64) (gt ys (p/64)|||x*2^(p%64)%18446744073709551616))):=by
    unfold eh Hid;simp only[if_neg c1,if_pos c2]
   have S1:=u64_or_nat (gt ys (p/64)) _ (hf _) (Nat.mod_lt (x*2^(p%64)) (show 0<18446744073709551616 by decide));have S2:=trivial
   have S3:Hid (bits .or .u64 (gt ys (p/64):Int) ((x*2^(p%64)%18446744073709551616:Nat):Int)=((gt ys (p/64)|||x*2^(p%64)%18446744073709551616:Nat):Int)):=S1;have S4:Hid (True):=S2
   clear h1 h2 c1 c2 S1 S2;go_enter func133,ntmps133;go_wp2;go_end0;rw[R.out,gG,S3.out];exact⟨rfl,hO.set _ _,(bh.refl _ _).set _ _⟩
  .have l1:=h1 c1;have l1':(p:Int)/64<(ys.length:Int):=by omega
   have e1:=hO.cell (p/64) l1;have f1:=hO.frozen (p/64);have l2:=h2 c2;have l2':(p:Int)/64+1<(ys.length:Int):=by omega
   have e2:=hO.cell (p/64+1) l2;have f2:=hO.frozen (p/64+1);have A:(IntKind.u64.wrap ((x:Int)*2^(p%64)) != 0)=true:=by rw[gG,jB];simpa using c1
   have B:((x:Int)/2^(64-p%64) != 0)=true:=by rw[ie,jB];simpa using c2
   have R:Hid (eh ys p x=((ys.set (p/64) (gt ys (p/64)|||x*2^(p%64)%18446744073709551616)).set (p/64+1) (gt ys (p/64+1)|||x/2^(64-p%64)))):=by
    unfold eh Hid;simp only[if_neg c1,if_neg c2];rw[gt_set ys _ _ _ l1,if_neg (by omega)]
   have S1:=u64_or_nat (gt ys (p/64)) _ (hf _) (Nat.mod_lt (x*2^(p%64)) (show 0<18446744073709551616 by decide))
   have S2:=u64_or_nat (gt ys (p/64+1)) _ (hf _) (Nat.lt_of_le_of_lt (Nat.div_le_self x (2^(64-p%64))) hx)
   have S3:Hid (bits .or .u64 (gt ys (p/64):Int) ((x*2^(p%64)%18446744073709551616:Nat):Int)=((gt ys (p/64)|||x*2^(p%64)%18446744073709551616:Nat):Int)):=S1
   have S4:Hid (bits .or .u64 (gt ys (p/64+1):Int) ((x/2^(64-p%64):Nat):Int)=((gt ys (p/64+1)|||x/2^(64-p%64):Nat):Int)):=S2;clear h1 h2 c1 c2 S1 S2;go_enter func133,ntmps133
   go_wp2;go_end0;rw[R.out,gG,S3.out,ie,S4.out];exact⟨rfl,(hO.set _ _).set _ _,((bh.refl _ _).set _ _).set _ _⟩
theorem Ad(ys:List Nat)(l g cap p x:Nat)(w:World)(hl:ys.length=l)(hO:Own w g ys)(hp:p<=2097152)(hf:aA ys)(hx:x<18446744073709551616)(hR:j_ ys p x):
  Calls prog 133 #[.slice (some ⟨g,0,none⟩) l cap,.int .i64 p,.int .u64 x] w fun e w'=>e=.returned (.tuple #[])/\Own w' g (eh ys p x)/\bh g w w':=by
 subst hl;exact Ae ys g cap p x w hO hp hf hx hR
theorem zT(c o n:Nat)(hc:c<=15)(ho:o<ch 15 c)(hn:n<=64)(w:World):
  Qq 156 #[.agg #[.int .i64 c,.int .u64 o],.int .i64 n] w (.agg #[.int .i64 (cnt (blk 15 c o%2^n) 15:Nat),.int .u64 (off (blk 15 c o%2^n) 15:Nat)]):=by
 have C1:Hid (∀w0,Qq 102 #[.agg #[.int .i64 c,.int .u64 o]] w0 (.int .u64 (blk 15 c o:Nat))):=fun w0=>sI c o hc ho w0;have hb0:=jC 15 c o
 have C2:Hid (∀w0,Qx 148 #[.int .i64 n] w0 (.int .u64 ((2^n-1:Nat):Int))):=fun w0=>pH n _ (tT n hn) w0
 have p64:=Nat.pow_le_pow_right (n:=2) (by decide) hn
 have A:Hid (bits .and .u64 ((blk 15 c o:Nat):Int) ((2^n-1:Nat):Int)=((blk 15 c o%2^n:Nat):Int)):=by
  show bits .and .u64 ((blk 15 c o:Nat):Int) ((2^n-1:Nat):Int)=_;rw[u64_and_nat _ _ (by omega) (by omega),Nat.and_two_pow_sub_one_eq_mod]
 have hmod:=Nat.mod_le (blk 15 c o) (2^n)
 have C3:Hid (∀w0,Qq 141 #[.int .u64 ((blk 15 c o%2^n:Nat):Int)] w0 (.agg #[.int .i64 (cnt (blk 15 c o%2^n) 15:Nat),.int .u64 (off (blk 15 c o%2^n) 15:Nat)])):=fun w0=>sM _ (by omega) w0
 generalize blk 15 c o=X at *;generalize X%2^n=Y at *;generalize 2^n-1=M at *;generalize cnt Y 15=K at *;generalize off Y 15=O at *
 obtain⟨W,hW⟩:∃W,W=(w.alloc (.cells #[.int .i64 c,.int .u64 o] 150)).alloc (.cells #[.int .i64 0,.int .u64 0] 150):=⟨_,rfl⟩;have bW:=dt hW;have B1:=de hW;clear hmod p64 hb0;go_enter func156,ntmps156
 go_wp2_with fail;rw[<-hW];refine mr (C1.out _) fun w1 hb=>?_;have hw1:=bg bW hb;replace B1:=B1.kept hb;clear hb hW;go_wp2_with fail;refine(C2.out _).mono ?_;rintro e w2 ⟨rfl,rfl⟩
 go_wp2_with fail;rw[A.out];refine mr (C3.out _) fun w3 hb=>?_;have hw3:=bg hw1 hb;replace B1:=B1.kept hb;have f0:=B1.frozen 0;have f1:=B1.frozen 1;have c0:=B1.cell 0 rfl
 have c1:=B1.cell 1 rfl;clear hb C1 C2 C3 A;go_wp2;refine bodyPost_ret (v:=.agg #[.int .i64 K,.int .u64 O]) (by simp[results,Tryz.results156,go_sem,c0,c1]) rfl ⟨rfl,?_⟩
 exact(hw3.setCell (by simp) _).setCell (by simp) _
theorem Ab(n k:Nat)(hn:n<=1048576)(hk:k=(n+63)/64)(w:World):
  Calls prog 130 #[.int .i64 n] w fun e w'=>∃g,e=.returned (.agg #[.int .i64 n,.slice (some ⟨g,0,none⟩) k k])/\w.heap.size<=g/\Own w' g (rowOf n fun _=>false)/\Below w.heap.size w w':=by
 rw[<-kr n k hk]
 have C:Hid (∀w0,Calls prog 95 #[.int .i64 n] w0 fun e w'=>∃g,e=.returned (.tuple #[.agg #[.int .i64 n,.slice (some ⟨g,0,none⟩) k k],.int .i64 0])/\w0.heap.size<=g/\g<w'.heap.size/\Own w' g (List.replicate k 0)/\Below w0.heap.size w0 w'):=fun w0=>lY n k w0 (by omega) (by omega) (by omega)
 obtain⟨W,hW⟩:∃W,W=w.alloc (.cells #[.int .i64 0,.slice none 0 0] 53):=⟨_,rfl⟩;have bW:=ba hW;have B1:=bE hW;have zW:W.heap.size=w.heap.size+1:=by rw[hW];simp
 clear hk;go_enter func130,ntmps130;go_wp2_with fail;rw[<-hW];refine(C.out _).mono ?_;rintro e w1 ⟨g,rfl,hg1,hg2,hO,hb⟩;have hw1:=bg bW hb;replace B1:=B1.kept hb;have f0:=B1.frozen 0
 have f1:=B1.frozen 1;have c0:=B1.cell 0 rfl;have c1:=B1.cell 1 rfl;have hlt:=B1.lt;clear hb C hW;have HO:Hid (Own w1 g (List.replicate k 0)):=hO;clear hO;go_wp2
 refine bodyPost_ret (iQ rfl w.heap.size [.int .i64 n,.slice (some ⟨g,0,none⟩) k k] rfl (((B1.set 0 _).set 1 _).alloc _) underlying53 e_) rfl ⟨g,rfl,by omega,?_,?_⟩
 .refine Own.keep (Own.set_other (Own.set_other HO.out ?_ _) ?_ _) (below_alloc _ _)
  .simp;omega
  .simp;omega
 .refine Below.alloc (Below.setCell (Below.setCell hw1 ?_ _) ?_ _) ?_ _
  .simp
  .simp
  .simp;omega
theorem o_(cs:List Value)(a:aT)(g:Nat)(w:World)(h:br w cs a)(h1:g<a.S.length)(h2:g<a.T.length):
  Qq 154 #[.agg cs.toArray,.int .i64 g] w (.agg #[.int .i64 (gi a.S g),.int .i64 (gi a.T g)]):=by
 obtain⟨⟨ao,cap,qo,dap,so,sc,tO,tc,rfl,_,a1,a2,a3,a4,a5,a6,a7,a8,a9,a10⟩,_,_,sl,tl⟩:=h;obtain⟨N,k,V,M,xs,L,ys,S,T⟩:=a;dsimp only at *;obtain⟨b1,o1,rfl,hb1,hc1⟩:=a7 (by omega)
 obtain⟨b2,o2,rfl,hb2,hc2⟩:=a9 (by omega);have i1:(g:Int)<(S.length:Int):=by omega
 have i2:(g:Int)<(T.length:Int):=by omega
 have e1:=hc1 g h1;have e2:=hc2 g h2;generalize gi S g=s at *;generalize gi T g=t at *;clear a1 a2 a4 a5 hc1 hc2
 obtain⟨W,hW⟩:∃W,W=(w.alloc (.cells #[.int .i64 N,.int .i64 k,.int .i64 V,.int .i64 M,.slice ao xs.length cap,.int .i64 L,.slice qo ys.length dap,.slice (some ⟨b1,o1,none⟩) S.length sc,.slice (some ⟨b2,o2,none⟩) T.length tc] 59)).alloc (.cells #[.int .i64 0,.int .i64 0] 137):=⟨_,rfl⟩
 have bW:=dt hW;have B1:=dH hW;have B2:=de hW;have E1:W.cell? ⟨b1,o1+g,none⟩=some (.int .i64 s):=(bW.cell (p:=⟨b1,o1+g,none⟩) hb1).trans e1
 have E2:W.cell? ⟨b2,o2+g,none⟩=some (.int .i64 t):=(bW.cell (p:=⟨b2,o2+g,none⟩) hb2).trans e2;go_enter func154,ntmps154;go_wp2;rw[<-hW];clear hW
 refine bn [11] (fun w'=>aa w' w.heap.size [.int .i64 N,.int .i64 k,.int .i64 V,.int .i64 M,.slice ao xs.length cap,.int .i64 L,.slice qo ys.length dap,.slice (some ⟨b1,o1,none⟩) S.length sc,.slice (some ⟨b2,o2,none⟩) T.length tc] 59/\w'.cell? ⟨b1,o1+g,none⟩=some (.int .i64 s)/\w'.cell? ⟨b2,o2+g,none⟩=some (.int .i64 t)) (by kernel_rfl) ?_
 have hS:aa W.drew w.heap.size [.int .i64 N,.int .i64 k,.int .i64 V,.int .i64 M,.slice ao xs.length cap,.int .i64 L,.slice qo ys.length dap,.slice (some ⟨b1,o1,none⟩) S.length sc,.slice (some ⟨b2,o2,none⟩) T.length tc] 59/\W.drew.cell? ⟨b1,o1+g,none⟩=some (.int .i64 s)/\W.drew.cell? ⟨b2,o2+g,none⟩=some (.int .i64 t):=⟨B1,E1,E2⟩
 have bV:Below w.heap.size w W.drew:=bW.drew;have B3:aa W.drew (w.heap.size+1) [.int .i64 0,.int .i64 0] 137:=B2;generalize W.drew=Y at *;clear B1 B2 E1 E2 e1 e2 bW;refine aK 0 hS ?_
 refine aF 1 hS rfl (fun w0 h0=>by have c7:=h0.1.cell 7 rfl;go_simp;try with_reducible rfl) ?_;refine aK 2 hS ?_;refine aK 3 hS ?_
 refine aF 4 hS rfl (fun w0 h0=>by have e1:=h0.2.1;go_simp;try with_reducible rfl) ?_;refine aK 5 hS ?_;refine aF 6 hS rfl (fun w0 h0=>by have c8:=h0.1.cell 8 rfl;go_simp;try with_reducible rfl) ?_
 refine aK 7 hS ?_;refine aK 8 hS ?_;refine aF 9 hS rfl (fun w0 h0=>by have e2:=h0.2.2;go_simp;try with_reducible rfl) ?_;refine aK 10 hS ?_;refine aO 11 ?_;intro K hK;have f0:=B3.frozen 0
 have f1:=B3.frozen 1;have c0:=B3.cell 0 rfl;have c1:=B3.cell 1 rfl;have HB:Hid (aa Y (w.heap.size+1) [.int .i64 0,.int .i64 0] 137):=B3;clear hS B3;go_simp;refine hK.out _ _ (fun h=>absurd (by decide) h) ?_
 clear hK K;try simp only[Act.put,aw,ar,an,ah,aj,ai]
 refine az.done (by kernel_rfl) ?_ _;go_wp2;refine bodyPost_ret (iQ rfl (w.heap.size+1) [.int .i64 s,.int .i64 t] rfl ((HB.out.set 0 _).set 1 _) underlying137 (by kernel_rfl)) rfl ⟨rfl,?_⟩
 exact(bV.setCell (by simp) _).setCell (by simp) _
theorem oF{T:TypeId}{zs:List Value}{n:Nat}(hi:(prog.info? T).map (fun i=>(i.zero,i.size))=some (some (.agg zs.toArray),n)){ops:Array Oper}{rest:List Oper}{d:Option Tmp}{ty:TypeId}{ps:String}{af:Array Edge}{a:Act}{w:World}{Q:Exit->Act->World->Prop}
  (h:∀w1,aa w1 w.heap.size zs T->Below w.heap.size w w1->w1.heap.size=w.heap.size+1->wpList prog ops Q rest (a.put d (.pointer (some ⟨w.heap.size,0,none⟩))) w1):
  wpList prog ops Q (⟨d,.alloc T,ty,ps,af,none⟩::rest) a w:=by
 refine wpList_plain rfl fun K hK=>?_;unfold Oper.wp execOp;have z:=(zero_of_info hi).1;have nw:=h _ (aa.new w _ _) (below_alloc w _) (by simp);refine cast ?_ (hK _ _ nw)
 simp[Instr.alloc,Sem.run_bind,z,newVar,Value.cells,go_sem]
theorem aC.tb{g b:Nat}{w w':World}{cs:List Value}(h:aC g w w')(hc:Tb w b cs)(hb:b≠g):Tb w' b cs:=by
 obtain⟨T,hc⟩:=hc;exact⟨T,h.cel hc hb⟩
structure bm (lo hi:Nat) (w w':World):Prop where
 below:Below lo w w'
 high:∀b,hi<=b->b<w.heap.size->w'.heap[b]?=w.heap[b]?
theorem bm.of{lo hi:Nat}{w w':World}(hb:Below w.heap.size w w')(hl:lo<=w.heap.size):bm lo hi w w':=⟨hb.mono hl,fun b _ h=>hb.block b h⟩
theorem bm.trans{lo hi:Nat}{a b c:World}(h:bm lo hi a b)(k:bm lo hi b c):bm lo hi a c:=⟨h.below.trans k.below,fun x h1 h2=>(k.high x h1 (Nat.lt_of_lt_of_le h2 h.below.size)).trans (h.high x h1 h2)⟩
theorem bm.cel{lo hi b:Nat}{w w':World}{cs:List Value}{T:TypeId}(h:bm lo hi w w')(hc:aa w b cs T)(hb:hi<=b):aa w' b cs T:=(h.high b hb hc.lt).trans hc
theorem bm.size{lo hi:Nat}{w w':World}(h:bm lo hi w w'):w.heap.size<=w'.heap.size:=h.below.size
theorem bm.setCell{lo hi:Nat}{w w':World}{a:Addr}(h:bm lo hi w w')(h1:w.heap.size<=a.block)(h2:lo<=a.block)(v:Value):bm lo hi w (w'.setCell a v):=
 ⟨h.below.setCell h2 v,fun b hb hl=>(Below.heap_setCell w' a v b (by omega)).trans (h.high b hb hl)⟩
theorem br.parts{w:World}{N k V M L:Int}{xs ys:List Nat}{S T:List Int}{ao:Option Addr}{cap:Nat}{qo:Option Addr}{dap:Nat}{so:Option Addr}{sc:Nat}{tO:Option Addr}{tc:Nat}(h:br w [.int .i64 N,.int .i64 k,.int .i64 V,.int .i64 M,.slice ao xs.length cap,.int .i64 L,.slice qo ys.length dap,.slice so S.length sc,.slice tO T.length tc] ⟨N,k,V,M,xs,L,ys,S,T⟩):
  Wd w ao xs/\aA xs/\Wd w qo ys/\aA ys/\Nd w so S/\Nd w tO T:=by
 obtain⟨⟨ao',cap',qo',dap',so',sc',tO',tc',e,_,a1,a2,a3,a4,a5,a6,a7,a8,a9,a10⟩,_⟩:=h;simp only[List.cons.injEq,Value.slice.injEq,true_and,and_true]at e
 obtain⟨⟨rfl,rfl⟩,⟨rfl,rfl⟩,⟨rfl,rfl⟩,rfl,rfl⟩:=e;exact⟨a1,a2,a4,a5,a7,a9⟩
def Iu(cs:List Value)(a:aT)(g n lo hi F:Nat)(caps:Array Value)(Inv Fin:Nat->World->Prop):Prop:=
 ∀i w1,8*g<=i->i<n->ix a.L a.ys a.xs i=0->Inv i w1->hi<=w1.heap.size->
  Calls prog F (#[.int .i64 i,.agg #[.int .i64 (cls a.xs i:Nat),.int .u64 (cOff a.L a.ys a.xs i:Nat)],.agg #[.int .i64 (cOn a.xs i:Nat),.int .i64 (cAt a.xs i:Nat)]]++caps) w1 fun e w2=>∃b:Bool,e=.returned (.bool b)/\(b=true->Inv (i+1) w2)/\(b=false->Fin i w2)/\bm lo hi w1 w2
theorem sO(cs:List Value)(a:aT)(g n lo hi F:Nat)(caps:Array Value)(Inv Fin:Nat->World->Prop)(w:World)
  (hk:a.k=(n:Int)) (hV:a.V=4) (ic:aP a.k a.V a.M a.xs=true) (hg:8*g<=n) (hgs:g<a.S.length) (hgt:g<a.T.length) (hs:gi a.S g=cOn a.xs (8*g)) (ht:gi a.T g=cAt a.xs (8*g))
  (hlo:lo<=hi) (hhi:hi<=w.heap.size) (h0:Inv (8*g) w) (hK:Hid (∀i w1,Inv i w1->br w1 cs a)) (hkeep:Hid (∀i w1 w2,Inv i w1->Below hi w1 w2->Inv i w2)) (hfin:Hid (∀i w1 w2,Fin i w1->Below hi w1 w2->Fin i w2))
  (hcf:Hid (∀args w,(callFunc F args).run prog w=.ok (.enter F args) w)) (hf:Hid (Iu cs a g n lo hi F caps Inv Fin)):
  Calls prog 131 #[.agg cs.toArray,.int .i64 g,.func (.func F) #[] caps] w fun e w'=>∃(q:Nat) (b:Bool),e=.returned (.tuple #[.agg #[.int .i64 (cOn a.xs q:Nat),.int .i64 (cAt a.xs q:Nat)],.bool b])/\8*g<=q/\q<=n/\(b=true->q=n/\Inv n w')/\(b=false->q<n/\((ix a.L a.ys a.xs q≠0/\Inv q w')\/(ix a.L a.ys a.xs q=0/\Fin q w')))/\bm lo hi w w':=by
 obtain⟨⟨ao,cap,qo,dap,so,sc,tO,tc,rfl,⟨_,_,_,_,hLL,_,_⟩,_⟩,xl,yl,sl,tl⟩:=hK.out _ _ h0;obtain⟨N,k,V,M,xs,L,ys,S,T⟩:=a;dsimp only at *;subst hk hV
 obtain⟨_,_,_,hM,_,hM0,hM1,hnM⟩:=dP _ _ _ _ ic;have hn:n<=262144:=by omega
 obtain⟨W,hW⟩:∃W,W=(w.alloc (.cells #[.int .i64 N,.int .i64 n,.int .i64 4,.int .i64 M,.slice ao xs.length cap,.int .i64 L,.slice qo ys.length dap,.slice so S.length sc,.slice tO T.length tc] 59)).alloc (.cells #[.int .i64 0,.int .i64 0] 137):=⟨_,rfl⟩
 have bW:=dt hW;have zW:W.heap.size=w.heap.size+2:=by rw[hW];simp
 have B1:=dH hW;have B2:=de hW;have HG:GV w:=(hK.out _ _ h0).gv
 have HM:Hid (Qz w 154 #[.agg #[.int .i64 N,.int .i64 n,.int .i64 4,.int .i64 M,.slice ao xs.length cap,.int .i64 L,.slice qo ys.length dap,.slice so S.length sc,.slice tO T.length tc],.int .i64 g] (.agg #[.int .i64 (cOn xs (8*g):Nat),.int .i64 (cAt xs (8*g):Nat)])):=by
  intro w0 hb
  have:=o_ [.int .i64 N,.int .i64 n,.int .i64 4,.int .i64 M,.slice ao xs.length cap,.int .i64 L,.slice qo ys.length dap,.slice so S.length sc,.slice tO T.length tc] ⟨N,n,4,M,xs,L,ys,S,T⟩ g w0 ((hK.out _ _ h0).keep hb) hgs hgt
  dsimp only at this;rw[hs,ht]at this;exact this
 have m1:IntKind.i64.wrap ((g:Int)*8)=((8*g:Nat):Int):=by rw[IntKind.wrap_i64];omega
 have HI:Hid (Inv (8*g) w):=h0;clear hs ht h0 hgs hgt;go_enter func131,ntmps131;go_wp2_with fail;rw[<-hW];have q0:=B1.cell 0 rfl;have q1:=B1.cell 1 rfl;have q2:=B1.cell 2 rfl;have q3:=B1.cell 3 rfl
 have q4:=B1.cell 4 rfl;have q5:=B1.cell 5 rfl;have q6:=B1.cell 6 rfl;have q7:=B1.cell 7 rfl;have q8:=B1.cell 8 rfl;go_wp2_with fail;clear q0 q1 q2 q3 q4 q5 q6 q7 q8;refine mr (HM.out _ bW) fun w4 hb=>?_
 have bw4:=bg bW hb;have z4:=hb.size;replace B1:=B1.kept hb;replace B2:=B2.kept hb;have B4:Tb w4 0 (vI cm):=HG.wd.kept bw4;have L0:=HG.two;clear hb HM hW bW HG;go_wp2
 generalize hG2:w4.heap.size=G2 at *;have LG:w.heap.size+2<=G2:=by omega
 go_loopw [9] (fun s wr=>∃q:Nat,8*g<=q/\q<=n/\s=.int .i64 q/\aa wr w.heap.size [.int .i64 N,.int .i64 n,.int .i64 4,.int .i64 M,.slice ao xs.length cap,.int .i64 L,.slice qo ys.length dap,.slice so S.length sc,.slice tO T.length tc] 59/\aa wr (w.heap.size+1) [.int .i64 0,.int .i64 0] 137/\Tb wr 0 (vI cm)/\aa wr G2 [.int .i64 (cOn xs q:Nat),.int .i64 (cAt xs q:Nat)] 137/\Inv q wr/\bm lo hi w wr) (fun s _=>n-(intOf s).toNat)
 case atStart=>
  have hb:=below_alloc w4 (.cells #[.int .i64 (cOn xs (8*g):Nat),.int .i64 (cAt xs (8*g):Nat)] 137)
  have hB:Below w.heap.size w (w4.alloc (.cells #[.int .i64 (cOn xs (8*g):Nat),.int .i64 (cAt xs (8*g):Nat)] 137)):=bg bw4 hb
  refine⟨8*g,Nat.le_refl _,hg,?_,B1.kept hb,B2.kept hb,B4.kept hb,?_,hkeep.out _ _ _ HI.out (hB.mono hhi),bm.of hB (by omega)⟩
  .exact congrArg (Value.int IntKind.i64) (by omega)
  .rw[<-hG2];exact aa.new w4 _ _
 case round=>
  obtain⟨q,hq0,hq,rfl,B1,B2,B3,B4,hI,hF⟩:=hrel;have zr:=hF.size;have KP:=(hK.out q _ hI).parts;obtain⟨p1,p2,p3,p4,_,_⟩:=KP;have q1:=B1.cell 1 rfl;by_cases hqn:q<n
  .have hqn2:(q:Int)<(n:Int):=by omega
   have cl:=j1 xs q;have on:=Gv xs q;have at_:=Gx xs q;have kw:=jX (cls xs q) cl
   have HGt:Hid (Qq 175 #[.agg #[.int .i64 n,.int .i64 4,.int .i64 M,.slice ao xs.length cap],.int .i64 q] wr (.tuple #[.int .u64 (cls xs q:Nat),.int .i64 0])):=by
    have e0:dz (n:Int) 4 M xs (q:Int)=0:=by unfold dz;rw[if_neg (by rw[ic];simp),if_neg (by omega)]
    have:=Eu (n:Int) 4 M ao xs cap (q:Int) wr p1 p2 e0;unfold igX at this;rw[if_pos e0,e0,Int.toNat_natCast]at this;exact this
   have HSl:Hid (Qz wr 140 #[.agg #[.int .i64 L,.slice qo ys.length dap],.int .i64 (cAt xs q:Nat),.int .i64 (kwd (cls xs q):Nat)] (.tuple #[.int .u64 (cOff L ys xs q:Nat),.int .i64 (ix L ys xs q)])):=fun w0 hb=>m6 L qo ys dap (cAt xs q:Nat) (kwd (cls xs q):Nat) w0 (p3.keep hb) p4 (by omega) (by omega) (by omega) (by omega)
   have HBh:Hid (∀w0,Qq 143 #[.agg #[.int .i64 (cOn xs q:Nat),.int .i64 (cAt xs q:Nat)],.agg #[.int .i64 (cls xs q:Nat),.int .u64 (cOff L ys xs q:Nat)],.int .i64 (kwd (cls xs q):Nat)] w0 (.agg #[.int .i64 (cOn xs (q+1):Nat),.int .i64 (cAt xs (q+1):Nat)])):=fun w0=>sN (cOn xs q) (cAt xs q) (cls xs q) (kwd (cls xs q)) (cOff L ys xs q) (by omega) (by omega) cl (by omega) w0
   have HWd:Hid ((vI cm)[cls xs q]?=some (.int .i64 (kwd (cls xs q):Nat))):=by
    show(vI cm)[cls xs q]?=_;rw[oK cm (cls xs q) (by rw[pO];omega),qa _ cl]
   have HC:Hid (∀w1,ix L ys xs q=0->Inv q w1->hi<=w1.heap.size->Calls prog F (#[.int .i64 q,.agg #[.int .i64 (cls xs q:Nat),.int .u64 (cOff L ys xs q:Nat)],.agg #[.int .i64 (cOn xs q:Nat),.int .i64 (cAt xs q:Nat)]]++caps) w1 fun e w2=>∃b:Bool,e=.returned (.bool b)/\(b=true->Inv (q+1) w2)/\(b=false->Fin q w2)/\bm lo hi w1 w2):=fun w1 h1 h2 h3=>hf.out q w1 hq0 hqn h1 h2 h3
   have q2:=B1.cell 2 rfl;have q3:=B1.cell 3 rfl;have q4:=B1.cell 4 rfl;clear p1 p2 p3 p4 hf;have cli:((cls xs q:Nat):Int)<16:=by omega
   generalize hc0:cls xs q=c at *;generalize hs0:cOn xs q=s0 at *;generalize ha0:cAt xs q=a0 at *;generalize hw0:kwd c=wd at *;generalize ho0:cOff L ys xs q=o at *;generalize hE0:ix L ys xs q=E at *
   go_wp2_with fail;refine HGt.out.mono ?_;rintro e w5 ⟨rfl,hb⟩;have hb5:=hb;have hI5:=hkeep.out _ _ _ hI (hb.mono (by omega));have hF5:=hF.trans (bm.of hb (by omega));have z5:=hb.size;replace B1:=B1.kept hb
   replace B2:=B2.kept hb;replace B3:=B3.kept hb;replace B4:=B4.kept hb;clear hb q1 q2 q3 q4 HGt hI hF;go_wp2
   refine bn [] (fun w'=>aa w' w.heap.size [.int .i64 N,.int .i64 n,.int .i64 4,.int .i64 M,.slice ao xs.length cap,.int .i64 L,.slice qo ys.length dap,.slice so S.length sc,.slice tO T.length tc] 59/\Tb w' 0 (vI cm)/\aa w' G2 [.int .i64 s0,.int .i64 a0] 137) (by kernel_rfl) ?_
   have hS:aa w5.drew w.heap.size [.int .i64 N,.int .i64 n,.int .i64 4,.int .i64 M,.slice ao xs.length cap,.int .i64 L,.slice qo ys.length dap,.slice so S.length sc,.slice tO T.length tc] 59/\Tb w5.drew 0 (vI cm)/\aa w5.drew G2 [.int .i64 s0,.int .i64 a0] 137:=⟨B1,B3,B4⟩
   have bV:Below w5.heap.size w5 w5.drew:=(Below.refl _ _).drew;have hbV:Below wr.heap.size wr w5.drew:=hb5.drew;replace B2:aa w5.drew (w.heap.size+1) [.int .i64 0,.int .i64 0] 137:=B2
   have hI6:=hkeep.out _ _ _ hI5 (bV.mono (by omega));have hF6:=hF5.trans (bm.of bV (by omega));have z6:=bV.size;generalize w5.drew=Y at *;clear B1 B3 B4 hI5 hF5 hb5 bV;refine aK 0 hS ?_
   refine aF 1 hS rfl (fun w0 h0=>by have c5:=h0.1.cell 5 rfl;have c6:=h0.1.cell 6 rfl;go_simp;try with_reducible rfl) ?_;refine aK 2 hS ?_
   refine aF 3 hS rfl (fun w0 h0=>by have c1:=h0.2.2.cell 1 rfl;go_simp;try with_reducible rfl) ?_;refine aK 4 hS ?_;refine aK 5 hS ?_
   refine aF 6 hS rfl (fun w0 h0=>by have cw:=h0.2.1.cell c HWd.out;go_simp;try with_reducible rfl) ?_;refine aO 7 ?_;intro K hK;go_simp;refine mr (HSl.out _ hbV) fun w7 hb=>?_
   have hS7:aa w7 w.heap.size [.int .i64 N,.int .i64 n,.int .i64 4,.int .i64 M,.slice ao xs.length cap,.int .i64 L,.slice qo ys.length dap,.slice so S.length sc,.slice tO T.length tc] 59/\Tb w7 0 (vI cm)/\aa w7 G2 [.int .i64 s0,.int .i64 a0] 137:=⟨hS.1.kept hb,hS.2.1.kept hb,hS.2.2.kept hb⟩
   replace B2:=B2.kept hb;have hI7:=hkeep.out _ _ _ hI6 (hb.mono (by omega));have hF7:=hF6.trans (bm.of hb (by omega));have z7:=hb.size;clear hb hI6 hF6 hS;refine hK.out _ _ (fun _=>hS7) ?_;clear hK K
   try simp only[Act.put,aw,ar,an,ah,aj,ai]
   refine aK 8 hS7 ?_;refine aK 9 hS7 ?_;refine aK 10 hS7 ?_;refine aK 11 hS7 ?_;refine aK 12 hS7 ?_;refine az.done (by kernel_rfl) ?_ _;obtain⟨B1,B3,B4⟩:=hS7;have m0:=B4.cell 0 rfl
   have m1:=B4.cell 1 rfl;have l4:=B4.lt;have hb:=below_alloc w7 (.cells #[.int .i64 c,.int .u64 o] 150)
   obtain⟨W8,hW8⟩:∃W8,W8=w7.alloc (.cells #[.int .i64 c,.int .u64 o] 150):=⟨_,rfl⟩;rw[<-hW8]at hb
   have B5:aa W8 w7.heap.size [.int .i64 c,.int .u64 o] 150:=by rw[hW8];exact aa.new w7 _ _
   have hI8:=hkeep.out _ _ _ hI7 (hb.mono (by omega));have hF8:=hF7.trans (bm.of hb (by omega));have z8:=hb.size;replace B1:=B1.kept hb;replace B2:=B2.kept hb;replace B3:=B3.kept hb;replace B4:=B4.kept hb
   have h56:hi<=w7.heap.size:=by omega
   clear hb hI7 hF7;rcases Decidable.em (E=0)with rfl | hE
   .go_wp2_with fail;rw[<-hW8];rw[hcf.out,Oper.upon_enter];refine(HC.out _ (by simp) hI8 (by omega)).mono ?_;rintro e w9 ⟨b,rfl,hb1,hb0,hfr⟩;have hF9:=hF8.trans hfr;have z9:=hfr.size
    replace B1:=hfr.cel B1 (by omega);replace B2:=hfr.cel B2 (by omega);clear B3;replace B4:=hfr.cel B4 (by omega);replace B5:=hfr.cel B5 (by omega);have HF9:Hid (bm lo hi w w9):=hF9
    clear hfr hF8 hF9 hI8 hW8 m0 m1 HC;cases b with
    | false=>
     have hfin9:Hid (Fin q w9):=hb0 rfl;clear hb0 hb1;have m0:=B4.cell 0 rfl;have m1:=B4.cell 1 rfl;have n0:=B2.cell 0 rfl;have n1:=B2.cell 1 rfl;have f0:=B2.frozen 0;have f1:=B2.frozen 1;go_wp2
     refine bodyPost_ret (a_ rfl (w.heap.size+1) [.int .i64 s0,.int .i64 a0] rfl ((B2.set 0 _).set 1 _) underlying137 (by kernel_rfl)) rfl ⟨q,false,by rw[hs0,ha0];rfl,hq0,hq,nofun,fun _=>⟨hqn,.inr ⟨hE0,hfin.out _ _ _ hfin9.out (((Below.refl hi w9).setCell (by show hi<=w.heap.size+1;omega) _).setCell (by show hi<=w.heap.size+1;omega) _)⟩⟩,(HF9.out.setCell (by show w.heap.size<=w.heap.size+1;omega) (by show lo<=w.heap.size+1;omega) _).setCell (by show w.heap.size<=w.heap.size+1;omega) (by show lo<=w.heap.size+1;omega) _⟩
    | true=>
     have hI9:=hb1 rfl;have B3:Tb w9 0 (vI cm):=(hK.out _ _ hI9).gv.wd;clear hb0 hb1;go_wp2
     refine bn [6] (fun w'=>Tb w' 0 (vI cm)/\aa w' G2 [.int .i64 s0,.int .i64 a0] 137/\aa w' w7.heap.size [.int .i64 c,.int .u64 o] 150) (by kernel_rfl) ?_
     have hS:Tb w9.drew 0 (vI cm)/\aa w9.drew G2 [.int .i64 s0,.int .i64 a0] 137/\aa w9.drew w7.heap.size [.int .i64 c,.int .u64 o] 150:=⟨B3,B4,B5⟩
     have bV:Below w9.heap.size w9 w9.drew:=(Below.refl _ _).drew
     replace B1:aa w9.drew w.heap.size [.int .i64 N,.int .i64 n,.int .i64 4,.int .i64 M,.slice ao xs.length cap,.int .i64 L,.slice qo ys.length dap,.slice so S.length sc,.slice tO T.length tc] 59:=B1
     replace B2:aa w9.drew (w.heap.size+1) [.int .i64 0,.int .i64 0] 137:=B2;replace hI9:=hkeep.out _ _ _ hI9 (bV.mono (by omega));have hF9:=HF9.out.trans (bm.of bV (by omega));have z10:=bV.size
     generalize w9.drew=Y2 at *;clear B3 B4 B5 bV HF9;refine aF 0 hS rfl (fun w0 h0=>by have c0:=h0.2.1.cell 0 rfl;have c1:=h0.2.1.cell 1 rfl;go_simp;try with_reducible rfl) ?_
     refine aF 1 hS rfl (fun w0 h0=>by have c0:=h0.2.2.cell 0 rfl;have c1:=h0.2.2.cell 1 rfl;go_simp;try with_reducible rfl) ?_;refine aK 2 hS ?_;refine aK 3 hS ?_
     refine aF 4 hS rfl (fun w0 h0=>by have cw:=h0.1.cell c HWd.out;go_simp;try with_reducible rfl) ?_;refine aO 5 ?_;intro K hK;go_simp;refine mr (HBh.out _) fun w11 hb=>?_
     have hS11:Tb w11 0 (vI cm)/\aa w11 G2 [.int .i64 s0,.int .i64 a0] 137/\aa w11 w7.heap.size [.int .i64 c,.int .u64 o] 150:=⟨hS.1.kept hb,hS.2.1.kept hb,hS.2.2.kept hb⟩
     replace B1:=B1.kept hb;replace B2:=B2.kept hb;have hI11:=hkeep.out _ _ _ hI9 (hb.mono (by omega));have hF11:=hF9.trans (bm.of hb (by omega));clear hb hS hI9 hF9;refine hK.out _ _ (fun _=>hS11) ?_;clear hK K
     try simp only[Act.put,aw,ar,an,ah,aj,ai]
     refine aO 6 ?_;intro K hK;obtain⟨B3,B4,B5⟩:=hS11;have f0:=B4.frozen 0;have f1:=B4.frozen 1;have c0:=B4.cell 0 rfl;have c1:=B4.cell 1 rfl
     have HQ:Hid (aa w11 w.heap.size [.int .i64 N,.int .i64 n,.int .i64 4,.int .i64 M,.slice ao xs.length cap,.int .i64 L,.slice qo ys.length dap,.slice so S.length sc,.slice tO T.length tc] 59/\aa w11 (w.heap.size+1) [.int .i64 0,.int .i64 0] 137/\Tb w11 0 (vI cm)/\aa w11 G2 [.int .i64 s0,.int .i64 a0] 137/\Inv (q+1) w11/\bm lo hi w w11):=⟨B1,B2,B3,B4,hI11,hF11⟩
     clear B1 B2 B3 B4 B5 hI11 hF11;go_simp;refine hK.out _ _ (fun h=>absurd (by decide) h) ?_;clear hK K;try simp only[Act.put,aw,ar,an,ah,aj,ai]
     refine az.done (by kernel_rfl) ?_ _;go_wp2;obtain⟨B1,B2,B3,B4,hI11,hF11⟩:=HQ.out
     refine⟨⟨q+1,by omega,by omega,by go_num,(B1.other (by show w.heap.size≠G2;omega) _).other (by show w.heap.size≠G2;omega) _,(B2.other (by show w.heap.size+1≠G2;omega) _).other (by show w.heap.size+1≠G2;omega) _,(B3.other (by show(0:Nat)≠G2;omega) _).other (by show(0:Nat)≠G2;omega) _,(B4.set 0 _).set 1 _,hkeep.out _ _ _ hI11 (((Below.refl hi w11).setCell (by show hi<=G2;omega) _).setCell (by show hi<=G2;omega) _),(hF11.setCell (by show w.heap.size<=G2;omega) (by show lo<=G2;omega) _).setCell (by show w.heap.size<=G2;omega) (by show lo<=G2;omega) _⟩,by simp only[intOf];omega⟩
   .have hE2:(E != 0)=true:=by simpa using hE
    have n0:=B2.cell 0 rfl;have n1:=B2.cell 1 rfl;have f0:=B2.frozen 0;have f1:=B2.frozen 1;replace m0:=B4.cell 0 rfl;replace m1:=B4.cell 1 rfl;clear HC HBh HWd;rw[hW8]at B2 hI8 hF8 n0 n1 f0 f1 m0 m1;go_wp2
    refine bodyPost_ret (a_ rfl (w.heap.size+1) [.int .i64 s0,.int .i64 a0] rfl ((B2.set 0 _).set 1 _) underlying137 (by kernel_rfl)) rfl ⟨q,false,by rw[hs0,ha0];rfl,hq0,hq,nofun,fun _=>⟨hqn,.inl ⟨by rw[hE0];exact hE,hkeep.out _ _ _ hI8 (((Below.refl hi _).setCell (by show hi<=w.heap.size+1;omega) _).setCell (by show hi<=w.heap.size+1;omega) _)⟩⟩,(hF8.setCell (by show w.heap.size<=w.heap.size+1;omega) (by show lo<=w.heap.size+1;omega) _).setCell (by show w.heap.size<=w.heap.size+1;omega) (by show lo<=w.heap.size+1;omega) _⟩
  .obtain rfl:q=n:=by omega
   have n0:=B2.cell 0 rfl;have n1:=B2.cell 1 rfl;have f0:=B2.frozen 0;have f1:=B2.frozen 1;have m0:=B4.cell 0 rfl;have m1:=B4.cell 1 rfl;have HI2:Hid (Inv q wr):=hI;have HF2:Hid (bm lo hi w wr):=hF
   clear hf hI hF;go_wp2
   refine bodyPost_ret (a_ rfl (w.heap.size+1) [.int .i64 (cOn xs q:Nat),.int .i64 (cAt xs q:Nat)] rfl ((B2.set 0 _).set 1 _) underlying137 (by kernel_rfl)) rfl ⟨q,true,rfl,hq0,hq,fun _=>⟨rfl,hkeep.out _ _ _ HI2.out (((Below.refl hi _).setCell (by show hi<=w.heap.size+1;omega) _).setCell (by show hi<=w.heap.size+1;omega) _)⟩,nofun,(HF2.out.setCell (by show w.heap.size<=w.heap.size+1;omega) (by show lo<=w.heap.size+1;omega) _).setCell (by show w.heap.size<=w.heap.size+1;omega) (by show lo<=w.heap.size+1;omega) _⟩
def gA(a:aT):Bool:=decide ((0<=a.N/\a.N<=1048576)/\aP a.k a.V a.M a.xs=true/\am a.L a.ys=true/\a.V=4/\a.k=(nb a.N.toNat:Int)/\a.S.length=gN a.N.toNat/\a.T.length=gN a.N.toNat)
theorem Af(cs:List Value)(a:aT)(w:World)(h:br w cs a):
  Qq 153 #[.agg cs.toArray] w (.bool (gA a)):=by
 obtain⟨⟨ao,cap,qo,dap,so,sc,tO,tc,rfl,_,a1,a2,a3,a4,a5,a6,a7,a8,a9,a10⟩,xl,yl,sl,tl⟩:=h;obtain⟨N,k,V,M,xs,L,ys,S,T⟩:=a;dsimp only at *
 have HIc:Hid (Qz w 184 #[.agg #[.int .i64 k,.int .i64 V,.int .i64 M,.slice ao xs.length cap]] (.bool (aP k V M xs))):=fun w0 hb=>p9 k V M ao xs cap w0 (a1.keep hb)
 have HBc:Hid (Qz w 83 #[.agg #[.int .i64 L,.slice qo ys.length dap]] (.bool (am L ys))):=fun w0 hb=>cg L qo ys dap w0 (a4.keep hb)
 obtain⟨W,hW⟩:∃W,W=w.alloc (.cells #[.int .i64 N,.int .i64 k,.int .i64 V,.int .i64 M,.slice ao xs.length cap,.int .i64 L,.slice qo ys.length dap,.slice so S.length sc,.slice tO T.length tc] 59):=⟨_,rfl⟩
 have bW:=ba hW;have B1:=bE hW;clear a1 a2 a3 a4 a5 a6 a7 a8 a9 a10;obtain⟨B,hB⟩:∃B,Hid (B=gA ⟨N,k,V,M,xs,L,ys,S,T⟩):=⟨_,rfl⟩;rw[<-hB.out];by_cases n0:N<0
 .obtain rfl:B=false:=by
   rw[hB.out];unfold gA;dsimp only;exact decide_eq_false fun h=>by omega
  clear hB HIc HBc B1;go_enter func153,ntmps153;go_wp2;go_ret;rw[<-hW];exact⟨rfl,bW⟩
 by_cases n1:1048576<N
 .obtain rfl:B=false:=by
   rw[hB.out];unfold gA;dsimp only;exact decide_eq_false fun h=>by omega
  clear hB HIc HBc B1;go_enter func153,ntmps153;go_wp2;go_ret;rw[<-hW];exact⟨rfl,bW⟩
 obtain⟨m,rfl⟩:=Int.eq_ofNat_of_zero_le (show 0<=N by omega);have hm:m<=1048576:=by omega
 have hm2:(m:Int)<=1048576:=by omega
 cases hk:aP k V M xs with
 | false=>
  obtain rfl:B=false:=by
   rw[hB.out];unfold gA;dsimp only;exact decide_eq_false fun h=>by rw[hk]at h;simp at h
  rw[hk]at HIc;clear hB HBc hk;go_enter func153,ntmps153;go_wp2_with fail;rw[<-hW];refine mr (HIc.out _ bW) fun w1 hb=>?_;have bw1:=bg bW hb;clear hW hb;go_wp2;go_ret
  exact⟨rfl,bw1⟩
 | true=>
 rw[hk]at HIc;cases hc:am L ys with
 | false=>
  obtain rfl:B=false:=by
   rw[hB.out];unfold gA;dsimp only;exact decide_eq_false fun h=>by rw[hc]at h;simp at h
  rw[hc]at HBc;clear hB hk hc;go_enter func153,ntmps153;go_wp2_with fail;rw[<-hW];refine mr (HIc.out _ bW) fun w1 hb=>?_;have bw1:=bg bW hb;replace B1:=B1.kept hb
  have c5:=B1.cell 5 rfl;have c6:=B1.cell 6 rfl;clear hW hb;go_wp2_with fail;refine mr (HBc.out _ bw1) fun w2 hb=>?_;have bw2:=bg bw1 hb;clear hb;go_wp2;go_ret;exact⟨rfl,bw2⟩
 | true=>
 rw[hc]at HBc;have HN:Hid (∀w0,Qx 139 #[.int .i64 m] w0 (.int .i64 (nb m:Nat))):=fun w0=>sL m hm w0;have nbl:=iD m hm
 have HGr:Hid (∀w0,Qx 142 #[.int .i64 (nb m:Nat)] w0 (.int .i64 (gN m:Nat))):=fun w0=>sJ (nb m) (by omega) w0
 have HB2:Hid (B=decide (V=4/\k=(nb m:Int)/\S.length=gN m/\T.length=gN m)):=by
  show B=_;rw[hB.out];unfold gA;dsimp only;rw[Int.toNat_natCast];exact decide_eq_decide.2 ⟨fun h=>h.2.2.2,fun h=>⟨by omega,hk,hc,h⟩⟩
 have gl:gN m<=1048576:=by unfold gN;omega
 clear hB hk hc;generalize nb m=nbm at *;generalize gN m=G at *;go_enter func153,ntmps153;go_wp2_with fail;rw[<-hW];refine mr (HIc.out _ bW) fun w1 hb=>?_;have bw1:=bg bW hb
 replace B1:=B1.kept hb;have c5:=B1.cell 5 rfl;have c6:=B1.cell 6 rfl;clear hW hb HIc bW;go_wp2_with fail;refine mr (HBc.out _ bw1) fun w2 hb=>?_;have bw2:=bg bw1 hb;replace B1:=B1.kept hb
 have c0:=B1.cell 0 rfl;clear hb HBc bw1 c5 c6;go_wp2_with fail;refine(HN.out _).mono ?_;rintro e w3 ⟨rfl,rfl⟩;go_wp2_with fail;refine(HGr.out _).mono ?_;rintro e w3 ⟨rfl,rfl⟩;clear c0;go_wp2
 refine bn [] (fun w'=>aa w' w.heap.size [.int .i64 m,.int .i64 k,.int .i64 V,.int .i64 M,.slice ao xs.length cap,.int .i64 L,.slice qo ys.length dap,.slice so S.length sc,.slice tO T.length tc] 59) (by kernel_rfl) ?_
 have hS:aa w3.drew w.heap.size [.int .i64 m,.int .i64 k,.int .i64 V,.int .i64 M,.slice ao xs.length cap,.int .i64 L,.slice qo ys.length dap,.slice so S.length sc,.slice tO T.length tc] 59:=B1
 have bV:Below w.heap.size w w3.drew:=bw2.drew;generalize w3.drew=Y at *;clear B1 bw2;by_cases v:V=4
 .have v2:(V==4)=true:=by simpa using v
  by_cases kk:k=(nbm:Int)
  .have kk2:(k==(nbm:Int))=true:=by simpa using kk
   by_cases s:S.length=G
   .have s2:((S.length:Int)==(G:Int))=true:=by simp[s]
    by_cases t:T.length=G
    .have t2:((T.length:Int)==(G:Int))=true:=by simp[t]
     obtain rfl:B=true:=by
      rw[HB2.out];exact decide_eq_true ⟨v,kk,s,t⟩
     clear HB2 v kk s t;refine aK 0 hS ?_;refine aK 1 hS ?_;refine aF 2 hS rfl (fun w0 h0=>by have c0:=h0.cell 2 rfl;go_simp;try with_reducible rfl) ?_;refine aK 3 hS ?_;refine aK 4 hS ?_
     refine aK 5 hS ?_;refine aK 6 hS ?_;refine aF 7 hS rfl (fun w0 h0=>by have c0:=h0.cell 1 rfl;go_simp;try with_reducible rfl) ?_;refine aK 8 hS ?_
     refine aF 9 hS rfl (fun w0 h0=>by have c0:=h0.cell 0 rfl;go_simp;try with_reducible rfl) ?_;refine aO 10 ?_;intro K hK;go_simp;refine(HN.out _).mono ?_;rintro e w4 ⟨rfl,rfl⟩
     refine hK.out _ _ (fun _=>hS) ?_;clear hK K;try simp only[Act.put,aw,ar,an,ah,aj,ai]
     refine aK 11 hS ?_;refine aK 12 hS ?_;refine aK 13 hS ?_;refine aK 14 hS ?_;refine aF 15 hS rfl (fun w0 h0=>by have c0:=h0.cell 7 rfl;go_simp;try with_reducible rfl) ?_
     refine aK 16 hS ?_;refine aK 17 hS ?_;refine aK 18 hS ?_;refine aK 19 hS ?_;refine aK 20 hS ?_;refine aK 21 hS ?_
     refine aF 22 hS rfl (fun w0 h0=>by have c0:=h0.cell 8 rfl;go_simp;try with_reducible rfl) ?_;refine aK 23 hS ?_;refine aK 24 hS ?_;refine aK 25 hS ?_;refine aK 26 hS ?_
     refine aK 27 hS ?_;refine az.done (by kernel_rfl) ?_ _;clear hS HN HGr;go_wp2;go_ret;exact⟨rfl,bV⟩
    .have t2:((T.length:Int)==(G:Int))=false:=by simp;omega
     obtain rfl:B=false:=by
      rw[HB2.out];exact decide_eq_false fun h=>by omega
     clear HB2 v kk s t;refine aK 0 hS ?_;refine aK 1 hS ?_;refine aF 2 hS rfl (fun w0 h0=>by have c0:=h0.cell 2 rfl;go_simp;try with_reducible rfl) ?_;refine aK 3 hS ?_;refine aK 4 hS ?_
     refine aK 5 hS ?_;refine aK 6 hS ?_;refine aF 7 hS rfl (fun w0 h0=>by have c0:=h0.cell 1 rfl;go_simp;try with_reducible rfl) ?_;refine aK 8 hS ?_
     refine aF 9 hS rfl (fun w0 h0=>by have c0:=h0.cell 0 rfl;go_simp;try with_reducible rfl) ?_;refine aO 10 ?_;intro K hK;go_simp;refine(HN.out _).mono ?_;rintro e w4 ⟨rfl,rfl⟩
     refine hK.out _ _ (fun _=>hS) ?_;clear hK K;try simp only[Act.put,aw,ar,an,ah,aj,ai]
     refine aK 11 hS ?_;refine aK 12 hS ?_;refine aK 13 hS ?_;refine aK 14 hS ?_;refine aF 15 hS rfl (fun w0 h0=>by have c0:=h0.cell 7 rfl;go_simp;try with_reducible rfl) ?_
     refine aK 16 hS ?_;refine aK 17 hS ?_;refine aK 18 hS ?_;refine aK 19 hS ?_;refine aK 20 hS ?_;refine aK 21 hS ?_
     refine aF 22 hS rfl (fun w0 h0=>by have c0:=h0.cell 8 rfl;go_simp;try with_reducible rfl) ?_;refine aK 23 hS ?_;refine aK 24 hS ?_;refine aK 25 hS ?_;refine aK 26 hS ?_
     refine aK 27 hS ?_;refine az.done (by kernel_rfl) ?_ _;clear hS HN HGr;go_wp2;go_ret;exact⟨rfl,bV⟩
   .have s2:((S.length:Int)==(G:Int))=false:=by simp;omega
    obtain rfl:B=false:=by
     rw[HB2.out];exact decide_eq_false fun h=>by omega
    clear HB2 v kk s;refine aK 0 hS ?_;refine aK 1 hS ?_;refine aF 2 hS rfl (fun w0 h0=>by have c0:=h0.cell 2 rfl;go_simp;try with_reducible rfl) ?_;refine aK 3 hS ?_;refine aK 4 hS ?_
    refine aK 5 hS ?_;refine aK 6 hS ?_;refine aF 7 hS rfl (fun w0 h0=>by have c0:=h0.cell 1 rfl;go_simp;try with_reducible rfl) ?_;refine aK 8 hS ?_
    refine aF 9 hS rfl (fun w0 h0=>by have c0:=h0.cell 0 rfl;go_simp;try with_reducible rfl) ?_;refine aO 10 ?_;intro K hK;go_simp;refine(HN.out _).mono ?_;rintro e w4 ⟨rfl,rfl⟩
    refine hK.out _ _ (fun _=>hS) ?_;clear hK K;try simp only[Act.put,aw,ar,an,ah,aj,ai]
    refine aK 11 hS ?_;refine aK 12 hS ?_;refine aK 13 hS ?_;refine aK 14 hS ?_;refine aF 15 hS rfl (fun w0 h0=>by have c0:=h0.cell 7 rfl;go_simp;try with_reducible rfl) ?_;refine aK 16 hS ?_
    refine aK 17 hS ?_;refine aK 18 hS ?_;refine aK 19 hS ?_;refine aK 20 hS ?_;refine aS 21 hS ?_;refine aS 22 hS ?_;refine aS 23 hS ?_;refine aS 24 hS ?_;refine aS 25 hS ?_
    refine aK 26 hS ?_;refine aK 27 hS ?_;refine az.done (by kernel_rfl) ?_ _;clear hS HN HGr;go_wp2;go_ret;exact⟨rfl,bV⟩
  .have kk2:(k==(nbm:Int))=false:=by simpa using kk
   obtain rfl:B=false:=by
    rw[HB2.out];exact decide_eq_false fun h=>by omega
   clear HB2 v kk;refine aK 0 hS ?_;refine aK 1 hS ?_;refine aF 2 hS rfl (fun w0 h0=>by have c0:=h0.cell 2 rfl;go_simp;try with_reducible rfl) ?_;refine aK 3 hS ?_;refine aK 4 hS ?_
   refine aK 5 hS ?_;refine aK 6 hS ?_;refine aF 7 hS rfl (fun w0 h0=>by have c0:=h0.cell 1 rfl;go_simp;try with_reducible rfl) ?_;refine aK 8 hS ?_
   refine aF 9 hS rfl (fun w0 h0=>by have c0:=h0.cell 0 rfl;go_simp;try with_reducible rfl) ?_;refine aO 10 ?_;intro K hK;go_simp;refine(HN.out _).mono ?_;rintro e w4 ⟨rfl,rfl⟩
   refine hK.out _ _ (fun _=>hS) ?_;clear hK K;try simp only[Act.put,aw,ar,an,ah,aj,ai]
   refine aK 11 hS ?_;refine aK 12 hS ?_;refine aK 13 hS ?_;refine aS 14 hS ?_;refine aS 15 hS ?_;refine aS 16 hS ?_;refine aS 17 hS ?_;refine aS 18 hS ?_;refine aK 19 hS ?_
   refine aK 20 hS ?_;refine aS 21 hS ?_;refine aS 22 hS ?_;refine aS 23 hS ?_;refine aS 24 hS ?_;refine aS 25 hS ?_;refine aK 26 hS ?_;refine aK 27 hS ?_
   refine az.done (by kernel_rfl) ?_ _;clear hS HN HGr;go_wp2;go_ret;exact⟨rfl,bV⟩
 .have v2:(V==4)=false:=by simpa using v
  obtain rfl:B=false:=by
   rw[HB2.out];exact decide_eq_false fun h=>by omega
  clear HB2 v;refine aK 0 hS ?_;refine aK 1 hS ?_;refine aF 2 hS rfl (fun w0 h0=>by have c0:=h0.cell 2 rfl;go_simp;try with_reducible rfl) ?_;refine aK 3 hS ?_;refine aK 4 hS ?_
  refine aS 5 hS ?_;refine aS 6 hS ?_;refine aS 7 hS ?_;refine aS 8 hS ?_;refine aS 9 hS ?_;refine aS 10 hS ?_;refine aS 11 hS ?_;refine aK 12 hS ?_;refine aK 13 hS ?_
  refine aS 14 hS ?_;refine aS 15 hS ?_;refine aS 16 hS ?_;refine aS 17 hS ?_;refine aS 18 hS ?_;refine aK 19 hS ?_;refine aK 20 hS ?_;refine aS 21 hS ?_;refine aS 22 hS ?_
  refine aS 23 hS ?_;refine aS 24 hS ?_;refine aS 25 hS ?_;refine aK 26 hS ?_;refine aK 27 hS ?_;refine az.done (by kernel_rfl) ?_ _;clear hS HN HGr;go_wp2;go_ret;exact⟨rfl,bV⟩
end Go.Proofs.YtleegaihbgbcjabGreatDoor
