import Derived.Test.YtleegaihbgbcjabGreatDoorT24
set_option linter.unusedVariables false
set_option linter.unusedSimpArgs false
set_option maxRecDepth 100000
set_option maxHeartbeats 16000000
open Go.Proofs.Tryz
namespace Go.Proofs.YtleegaihbgbcjabGreatDoor
open Go.RowKit Num Bit
theorem D8{w:World}{ao:Option Addr}{l:List Int}{g:Nat}{b:List Nat}(h:Nd w ao l)(hc:aa w g (vK .u8 b) 5)(h0:0<l.length):∀a,ao=some a->a.block≠g:=fun a ha e=>by
 obtain⟨k,off,e1,_,hcc⟩:=h h0;rw[e1]at ha;cases ha;have h1:=hcc 0 h0;dsimp only at e;subst e;rw[Nat.add_zero]at h1;unfold World.cell? at h1
 rw[show w.heap[({ block:=k,off:=off,spot:=none }:Addr).block]?=_ from hc]at h1;simp only[List.getElem?_toArray]at h1;unfold vK at h1;rw[List.getElem?_map]at h1;cases h2:b[off]? with
 | none=>rw[h2]at h1;simp at h1
 | some y=>rw[h2]at h1;simp at h1
theorem D3{w w':World}{ao:Option Addr}{l:List Int}{g:Nat}{b:List Nat}(h:Nd w ao l)(hc:aa w g (vK .u8 b) 5)(hO:aB g w w'):Nd w' ao l:=hO.nd2 h fun h0=>D8 h hc h0
theorem bd_vK{w:World}{g:Nat}{t:List Nat}(h:aa w g (vK .u8 t) 5):Bd w (some ⟨g,0,none⟩) t:=fun _=>⟨g,0,rfl,h.lt,fun i hi=>by
 rw[Nat.zero_add]
 exact h.cell i (gE _ t i hi)⟩
theorem mM{w:World}{base n c:Nat}{ao:Option Addr}{l:List Nat}(h:w.ownsRow base 3 1 (.slice ao n c) n (vK .i64 l))(hn:n=l.length):Nd w ao (mI l):=fun h0=>by
 have h':=h;obtain⟨_,⟨e,h1⟩ | ⟨g,cap,cur,e,e2,hh,_⟩⟩:=h
 .injection e with e1 e2 e3
  rw[dt]at h0;omega
 .simp only[Value.slice.injEq]at e;obtain⟨rfl,_,rfl⟩:=e;refine⟨g,0,rfl,(Array.getElem?_eq_some_iff.1 hh).1,fun i hi=>?_⟩;rw[dt]at hi;rw[Nat.zero_add,iN l i hi]
  exact(Ag.owns_cells h').2 i _ (gE _ l i hi)
def QT(w1:World)(n:Nat)(v3 v4:Value)(wx:World):Prop:=∃g3 gx gp,v3=.pointer (some ⟨g3,0,none⟩)/\v4=.slice (some ⟨gp,0,none⟩) n n/\(w1.heap.size<=g3/\w1.heap.size<=gx/\w1.heap.size<=gp/\g3≠gx/\g3≠gp/\gx≠gp)/\aa wx g3 [.slice (some ⟨gx,0,none⟩) n n] 22/\aa wx gx (vK .u8 (List.replicate n 0)) 5/\aa wx gp (vK .i64 (List.range n)) 3/\Below w1.heap.size w1 wx
theorem uN(cs:List Value)(k:Int)(t:List Nat)(w:World)(h:MX w cs k t):
  Calls prog 22 #[.agg cs.toArray] w fun e w'=>∃ao cap,e=.returned (.slice ao t.length cap)/\Bd w' ao t/\Below w.heap.size w w':=by
 have hB:=h.by_;obtain⟨i0,hi,hz0,hz1,hz2⟩:=info_parts vQ;have HMX:=ag h;have hkn:=h.kn;have hle:=h.le;obtain⟨⟨lo,lc,zo,zc,rfl,_,_⟩,_,_,_,_⟩:=h
 obtain⟨W,hW⟩:∃W,W=w.alloc (.cells #[.int .i64 k,.int .i64 (t.length:Int),.slice lo 8 lc,.slice zo 8 zc] 27):=⟨_,rfl⟩;have bW:=aU hW
 have B1:=ag (show aa W w.heap.size [.int .i64 k,.int .i64 (t.length:Int),.slice lo 8 lc,.slice zo 8 zc] 27 by rw[hW];exact aa.new w _ _);have HB:=ag bW;have HM1:=ag (HMX.out.keep bW);clear bW HMX
 have C0:=ag (HM1.out.check);obtain⟨n,hnn⟩:∃n,Hid (n=t.length):=⟨_,rfl⟩;have hn2:n<=3000:=by rw[hnn.out];exact hle
 rw[<-hnn.out]at C0 B1 HM1 hW⊢;go_enter func22,ntmps22;go_wp2_with fail;rw[<-hW];refine C0.out.mono ?_;rintro e w1 ⟨rfl,hb⟩;have K1:=ag (B1.out.kept hb);have HM:=ag (HM1.out.keep hb)
 have HBa:=ag (bg HB.out hb);have l1:=K1.out.lt;clear hb C0 B1 HM1 HB hW;go_upto_region 3 with fail
 go_cut [3,4] (fun v3 v4 wx=>QT w1 n v3 v4 wx)
 case first=>
  refine ba [] (fun w'=>aa w' w.heap.size [.int .i64 k,.int .i64 (n:Int),.slice lo 8 lc,.slice zo 8 zc] 27) (by kernel_rfl) ?_
  have hSY:=K1.out.drew;have HBc:=ag ((Below.refl w1.heap.size w1).drew);have sY:w1.heap.size<=w1.drew.heap.size:=Nat.le_refl _;clear HM HBa;generalize w1.drew=Y at *;refine aK 0 hSY ?_
  refine aF 1 hSY rfl (fun w0 h0=>by have y1:=h0.cell 1 rfl;go_simp;try with_reducible rfl) ?_;refine aK 3 hSY ?_
  refine aF 4 hSY rfl (fun w0 h0=>by have y1:=h0.cell 1 rfl;go_simp;try with_reducible rfl) ?_;refine aw.threeM 2 5 6 (by kernel_rfl) rfl rfl rfl ?_ ?_ ?_
  .intro K hK;refine c_ Y.heap.size 5 i0 (.int .u8 0) 1 underlying22 hi hz0 hz1 n rfl rfl (by rw[hz2];omega) (by unfold maxLen;omega) (Nat.le_refl _) ?_;intro YM hown hgr
   have CM:=ag (fi (k:=.u8) (n:=n) (by rw[Nat.mul_one]at hown;exact hown));have bYM:Below Y.heap.size Y YM:=(Below.refl _ _).grown hgr (Nat.le_refl _) (fun k h=>by cases h);clear hown hgr
   have hSYM:aa YM w.heap.size [.int .i64 k,.int .i64 (n:Int),.slice lo 8 lc,.slice zo 8 zc] 27:=hSY.kept bYM;refine hK.out _ _ (fun _=>hSYM) ?_;clear hK K;try simp only[Act.put,ar,an,am,ah,aj,ai]
   replace HBc:=ag (bg HBc.out bYM);have sYM:=CM.out.lt;clear bYM hSY;obtain⟨gM,hgM⟩:∃g,Hid (g=Y.heap.size):=⟨_,rfl⟩;rw[<-hgM.out]at CM sYM⊢
   have loM:Y.heap.size<=gM:=by rw[hgM.out];exact Nat.le_refl _
   clear hgM;refine aw.two 5 6 (by kernel_rfl) rfl rfl ?_ ?_
   .intro K hK;go_simp;refine(mN n YM (by omega)).mono ?_;rintro e YMP ⟨gP,rfl,hcp,loP,bYMP⟩;have CP:=ag hcp;clear hcp
    have hSYMP:aa YMP w.heap.size [.int .i64 k,.int .i64 (n:Int),.slice lo 8 lc,.slice zo 8 zc] 27:=hSYM.kept bYMP;refine hK.out _ _ (fun _=>hSYMP) ?_;clear hK K;try simp only[Act.put,ar,an,am,ah,aj,ai]
    replace CM:=ag (CM.out.kept bYMP);replace HBc:=ag (bg HBc.out bYMP);have sYMP:=CP.out.lt;clear bYMP hSYM;refine aO 6 ?_;intro K hK;go_simp
    obtain⟨YMPX,hYMPX⟩:∃YMPX,YMPX=YMP.alloc (.cells #[.slice none 0 0] 22):=⟨_,rfl⟩;have bYMPX:Below YMP.heap.size YMP YMPX:=by rw[hYMPX];exact below_alloc _ _
    have CX:=ag (show aa YMPX YMP.heap.size [.slice none 0 0] 22 by rw[hYMPX];exact aa.new _ _ _)
    have hSYMPX:aa YMPX w.heap.size [.int .i64 k,.int .i64 (n:Int),.slice lo 8 lc,.slice zo 8 zc] 27:=hSYMP.kept bYMPX;rw[<-hYMPX];clear hYMPX;refine hK.out _ _ (fun _=>hSYMPX) ?_;clear hK K
    try simp only[Act.put,ar,an,am,ah,aj,ai]
    replace CM:=ag (CM.out.kept bYMPX);replace CP:=ag (CP.out.kept bYMPX);replace HBc:=ag (bg HBc.out bYMPX);have sYMPX:=CX.out.lt;clear bYMPX hSYMP
    obtain⟨gX,hgX⟩:∃g,Hid (g=YMP.heap.size):=⟨_,rfl⟩;rw[<-hgX.out]at CX sYMPX⊢;have loX:YMP.heap.size<=gX:=by rw[hgX.out];exact Nat.le_refl _
    clear hgX;refine aO 7 ?_;intro K hK;have x0:=CX.out.cell 0 rfl;have x1:=CX.out.frozen 0;go_simp;have oE:aB gX YMPX (YMPX.setCell ⟨gX,0,none⟩ (.slice (some ⟨gM,0,none⟩) n n)):=(aB.refl _ _).set 0 _
    have CE:=CX.out.set 0 (.slice (some ⟨gM,0,none⟩) n n);simp only[List.set_cons_zero]at CE
    have hS:aa (YMPX.setCell ⟨gX,0,none⟩ (.slice (some ⟨gM,0,none⟩) n n)) w.heap.size [.int .i64 k,.int .i64 (n:Int),.slice lo 8 lc,.slice zo 8 zc] 27:=oE.cel hSYMPX (by omega)
    have hQ:Hid (QT w1 n (.pointer (some ⟨gX,0,none⟩)) (.slice (some ⟨gP,0,none⟩) n n) (YMPX.setCell ⟨gX,0,none⟩ (.slice (some ⟨gM,0,none⟩) n n))):=⟨gX,gM,gP,rfl,rfl,⟨by omega,by omega,by omega,by omega,by omega,by omega⟩,CE,oE.cel CM.out (by omega),oE.cel CP.out (by omega),HBc.out.trans (oE.below (by omega))⟩
    clear CE oE CX CM CP HBc x0 x1 hSYMPX;generalize YMPX.setCell ⟨gX,0,none⟩ (.slice (some ⟨gM,0,none⟩) n n)=YE at *;refine hK.out _ _ (fun _=>hS) ?_;clear hK K;try simp only[Act.put,ar,an,am,ah,aj,ai]
    refine aK 8 hS ?_;refine aw.done (by kernel_rfl) ?_ _;clear hS;go_wp2_with fail;go_meet;exact hQ.out
   .intro K hK;go_simp;obtain⟨YMX,hYMX⟩:∃YMX,YMX=YM.alloc (.cells #[.slice none 0 0] 22):=⟨_,rfl⟩;have bYMX:Below YM.heap.size YM YMX:=by rw[hYMX];exact below_alloc _ _
    have CX:=ag (show aa YMX YM.heap.size [.slice none 0 0] 22 by rw[hYMX];exact aa.new _ _ _);have hSYMX:aa YMX w.heap.size [.int .i64 k,.int .i64 (n:Int),.slice lo 8 lc,.slice zo 8 zc] 27:=hSYM.kept bYMX
    rw[<-hYMX];clear hYMX;refine hK.out _ _ (fun _=>hSYMX) ?_;clear hK K;try simp only[Act.put,ar,an,am,ah,aj,ai]
    replace CM:=ag (CM.out.kept bYMX);replace HBc:=ag (bg HBc.out bYMX);have sYMX:=CX.out.lt;clear bYMX hSYM;obtain⟨gX,hgX⟩:∃g,Hid (g=YM.heap.size):=⟨_,rfl⟩
    rw[<-hgX.out]at CX sYMX⊢;have loX:YM.heap.size<=gX:=by rw[hgX.out];exact Nat.le_refl _
    clear hgX;refine aO 5 ?_;intro K hK;go_simp;refine(mN n YMX (by omega)).mono ?_;rintro e YMXP ⟨gP,rfl,hcp,loP,bYMXP⟩;have CP:=ag hcp;clear hcp
    have hSYMXP:aa YMXP w.heap.size [.int .i64 k,.int .i64 (n:Int),.slice lo 8 lc,.slice zo 8 zc] 27:=hSYMX.kept bYMXP;refine hK.out _ _ (fun _=>hSYMXP) ?_;clear hK K
    try simp only[Act.put,ar,an,am,ah,aj,ai]
    replace CM:=ag (CM.out.kept bYMXP);replace CX:=ag (CX.out.kept bYMXP);replace HBc:=ag (bg HBc.out bYMXP);have sYMXP:=CP.out.lt;clear bYMXP hSYMX;refine aO 7 ?_;intro K hK
    have x0:=CX.out.cell 0 rfl;have x1:=CX.out.frozen 0;go_simp;have oE:aB gX YMXP (YMXP.setCell ⟨gX,0,none⟩ (.slice (some ⟨gM,0,none⟩) n n)):=(aB.refl _ _).set 0 _
    have CE:=CX.out.set 0 (.slice (some ⟨gM,0,none⟩) n n);simp only[List.set_cons_zero]at CE
    have hS:aa (YMXP.setCell ⟨gX,0,none⟩ (.slice (some ⟨gM,0,none⟩) n n)) w.heap.size [.int .i64 k,.int .i64 (n:Int),.slice lo 8 lc,.slice zo 8 zc] 27:=oE.cel hSYMXP (by omega)
    have hQ:Hid (QT w1 n (.pointer (some ⟨gX,0,none⟩)) (.slice (some ⟨gP,0,none⟩) n n) (YMXP.setCell ⟨gX,0,none⟩ (.slice (some ⟨gM,0,none⟩) n n))):=⟨gX,gM,gP,rfl,rfl,⟨by omega,by omega,by omega,by omega,by omega,by omega⟩,CE,oE.cel CM.out (by omega),oE.cel CP.out (by omega),HBc.out.trans (oE.below (by omega))⟩
    clear CE oE CX CM CP HBc x0 x1 hSYMXP;generalize YMXP.setCell ⟨gX,0,none⟩ (.slice (some ⟨gM,0,none⟩) n n)=YE at *;refine hK.out _ _ (fun _=>hS) ?_;clear hK K;try simp only[Act.put,ar,an,am,ah,aj,ai]
    refine aK 8 hS ?_;refine aw.done (by kernel_rfl) ?_ _;clear hS;go_wp2_with fail;go_meet;exact hQ.out
  .intro K hK;go_simp;refine(mN n Y (by omega)).mono ?_;rintro e YP ⟨gP,rfl,hcp,loP,bYP⟩;have CP:=ag hcp;clear hcp
   have hSYP:aa YP w.heap.size [.int .i64 k,.int .i64 (n:Int),.slice lo 8 lc,.slice zo 8 zc] 27:=hSY.kept bYP;refine hK.out _ _ (fun _=>hSYP) ?_;clear hK K;try simp only[Act.put,ar,an,am,ah,aj,ai]
   replace HBc:=ag (bg HBc.out bYP);have sYP:=CP.out.lt;clear bYP hSY;refine aw.two 2 6 (by kernel_rfl) rfl rfl ?_ ?_
   .intro K hK;refine c_ YP.heap.size 5 i0 (.int .u8 0) 1 underlying22 hi hz0 hz1 n rfl rfl (by rw[hz2];omega) (by unfold maxLen;omega) (Nat.le_refl _) ?_;intro YPM hown hgr
    have CM:=ag (fi (k:=.u8) (n:=n) (by rw[Nat.mul_one]at hown;exact hown));have bYPM:Below YP.heap.size YP YPM:=(Below.refl _ _).grown hgr (Nat.le_refl _) (fun k h=>by cases h);clear hown hgr
    have hSYPM:aa YPM w.heap.size [.int .i64 k,.int .i64 (n:Int),.slice lo 8 lc,.slice zo 8 zc] 27:=hSYP.kept bYPM;refine hK.out _ _ (fun _=>hSYPM) ?_;clear hK K;try simp only[Act.put,ar,an,am,ah,aj,ai]
    replace CP:=ag (CP.out.kept bYPM);replace HBc:=ag (bg HBc.out bYPM);have sYPM:=CM.out.lt;clear bYPM hSYP;obtain⟨gM,hgM⟩:∃g,Hid (g=YP.heap.size):=⟨_,rfl⟩
    rw[<-hgM.out]at CM sYPM⊢;have loM:YP.heap.size<=gM:=by rw[hgM.out];exact Nat.le_refl _
    clear hgM;refine aO 6 ?_;intro K hK;go_simp;obtain⟨YPMX,hYPMX⟩:∃YPMX,YPMX=YPM.alloc (.cells #[.slice none 0 0] 22):=⟨_,rfl⟩;have bYPMX:Below YPM.heap.size YPM YPMX:=by rw[hYPMX];exact below_alloc _ _
    have CX:=ag (show aa YPMX YPM.heap.size [.slice none 0 0] 22 by rw[hYPMX];exact aa.new _ _ _)
    have hSYPMX:aa YPMX w.heap.size [.int .i64 k,.int .i64 (n:Int),.slice lo 8 lc,.slice zo 8 zc] 27:=hSYPM.kept bYPMX;rw[<-hYPMX];clear hYPMX;refine hK.out _ _ (fun _=>hSYPMX) ?_;clear hK K
    try simp only[Act.put,ar,an,am,ah,aj,ai]
    replace CP:=ag (CP.out.kept bYPMX);replace CM:=ag (CM.out.kept bYPMX);replace HBc:=ag (bg HBc.out bYPMX);have sYPMX:=CX.out.lt;clear bYPMX hSYPM
    obtain⟨gX,hgX⟩:∃g,Hid (g=YPM.heap.size):=⟨_,rfl⟩;rw[<-hgX.out]at CX sYPMX⊢;have loX:YPM.heap.size<=gX:=by rw[hgX.out];exact Nat.le_refl _
    clear hgX;refine aO 7 ?_;intro K hK;have x0:=CX.out.cell 0 rfl;have x1:=CX.out.frozen 0;go_simp;have oE:aB gX YPMX (YPMX.setCell ⟨gX,0,none⟩ (.slice (some ⟨gM,0,none⟩) n n)):=(aB.refl _ _).set 0 _
    have CE:=CX.out.set 0 (.slice (some ⟨gM,0,none⟩) n n);simp only[List.set_cons_zero]at CE
    have hS:aa (YPMX.setCell ⟨gX,0,none⟩ (.slice (some ⟨gM,0,none⟩) n n)) w.heap.size [.int .i64 k,.int .i64 (n:Int),.slice lo 8 lc,.slice zo 8 zc] 27:=oE.cel hSYPMX (by omega)
    have hQ:Hid (QT w1 n (.pointer (some ⟨gX,0,none⟩)) (.slice (some ⟨gP,0,none⟩) n n) (YPMX.setCell ⟨gX,0,none⟩ (.slice (some ⟨gM,0,none⟩) n n))):=⟨gX,gM,gP,rfl,rfl,⟨by omega,by omega,by omega,by omega,by omega,by omega⟩,CE,oE.cel CM.out (by omega),oE.cel CP.out (by omega),HBc.out.trans (oE.below (by omega))⟩
    clear CE oE CX CM CP HBc x0 x1 hSYPMX;generalize YPMX.setCell ⟨gX,0,none⟩ (.slice (some ⟨gM,0,none⟩) n n)=YE at *;refine hK.out _ _ (fun _=>hS) ?_;clear hK K;try simp only[Act.put,ar,an,am,ah,aj,ai]
    refine aK 8 hS ?_;refine aw.done (by kernel_rfl) ?_ _;clear hS;go_wp2_with fail;go_meet;exact hQ.out
   .intro K hK;go_simp;obtain⟨YPX,hYPX⟩:∃YPX,YPX=YP.alloc (.cells #[.slice none 0 0] 22):=⟨_,rfl⟩;have bYPX:Below YP.heap.size YP YPX:=by rw[hYPX];exact below_alloc _ _
    have CX:=ag (show aa YPX YP.heap.size [.slice none 0 0] 22 by rw[hYPX];exact aa.new _ _ _);have hSYPX:aa YPX w.heap.size [.int .i64 k,.int .i64 (n:Int),.slice lo 8 lc,.slice zo 8 zc] 27:=hSYP.kept bYPX
    rw[<-hYPX];clear hYPX;refine hK.out _ _ (fun _=>hSYPX) ?_;clear hK K;try simp only[Act.put,ar,an,am,ah,aj,ai]
    replace CP:=ag (CP.out.kept bYPX);replace HBc:=ag (bg HBc.out bYPX);have sYPX:=CX.out.lt;clear bYPX hSYP;obtain⟨gX,hgX⟩:∃g,Hid (g=YP.heap.size):=⟨_,rfl⟩
    rw[<-hgX.out]at CX sYPX⊢;have loX:YP.heap.size<=gX:=by rw[hgX.out];exact Nat.le_refl _
    clear hgX;refine aO 2 ?_;intro K hK;refine c_ YPX.heap.size 5 i0 (.int .u8 0) 1 underlying22 hi hz0 hz1 n rfl rfl (by rw[hz2];omega) (by unfold maxLen;omega) (Nat.le_refl _) ?_;intro YPXM hown hgr
    have CM:=ag (fi (k:=.u8) (n:=n) (by rw[Nat.mul_one]at hown;exact hown));have bYPXM:Below YPX.heap.size YPX YPXM:=(Below.refl _ _).grown hgr (Nat.le_refl _) (fun k h=>by cases h);clear hown hgr
    have hSYPXM:aa YPXM w.heap.size [.int .i64 k,.int .i64 (n:Int),.slice lo 8 lc,.slice zo 8 zc] 27:=hSYPX.kept bYPXM;refine hK.out _ _ (fun _=>hSYPXM) ?_;clear hK K
    try simp only[Act.put,ar,an,am,ah,aj,ai]
    replace CP:=ag (CP.out.kept bYPXM);replace CX:=ag (CX.out.kept bYPXM);replace HBc:=ag (bg HBc.out bYPXM);have sYPXM:=CM.out.lt;clear bYPXM hSYPX
    obtain⟨gM,hgM⟩:∃g,Hid (g=YPX.heap.size):=⟨_,rfl⟩;rw[<-hgM.out]at CM sYPXM⊢;have loM:YPX.heap.size<=gM:=by rw[hgM.out];exact Nat.le_refl _
    clear hgM;refine aO 7 ?_;intro K hK;have x0:=CX.out.cell 0 rfl;have x1:=CX.out.frozen 0;go_simp;have oE:aB gX YPXM (YPXM.setCell ⟨gX,0,none⟩ (.slice (some ⟨gM,0,none⟩) n n)):=(aB.refl _ _).set 0 _
    have CE:=CX.out.set 0 (.slice (some ⟨gM,0,none⟩) n n);simp only[List.set_cons_zero]at CE
    have hS:aa (YPXM.setCell ⟨gX,0,none⟩ (.slice (some ⟨gM,0,none⟩) n n)) w.heap.size [.int .i64 k,.int .i64 (n:Int),.slice lo 8 lc,.slice zo 8 zc] 27:=oE.cel hSYPXM (by omega)
    have hQ:Hid (QT w1 n (.pointer (some ⟨gX,0,none⟩)) (.slice (some ⟨gP,0,none⟩) n n) (YPXM.setCell ⟨gX,0,none⟩ (.slice (some ⟨gM,0,none⟩) n n))):=⟨gX,gM,gP,rfl,rfl,⟨by omega,by omega,by omega,by omega,by omega,by omega⟩,CE,oE.cel CM.out (by omega),oE.cel CP.out (by omega),HBc.out.trans (oE.below (by omega))⟩
    clear CE oE CX CM CP HBc x0 x1 hSYPXM;generalize YPXM.setCell ⟨gX,0,none⟩ (.slice (some ⟨gM,0,none⟩) n n)=YE at *;refine hK.out _ _ (fun _=>hS) ?_;clear hK K;try simp only[Act.put,ar,an,am,ah,aj,ai]
    refine aK 8 hS ?_;refine aw.done (by kernel_rfl) ?_ _;clear hS;go_wp2_with fail;go_meet;exact hQ.out
  .intro K hK;go_simp;obtain⟨YX,hYX⟩:∃YX,YX=Y.alloc (.cells #[.slice none 0 0] 22):=⟨_,rfl⟩;have bYX:Below Y.heap.size Y YX:=by rw[hYX];exact below_alloc _ _
   have CX:=ag (show aa YX Y.heap.size [.slice none 0 0] 22 by rw[hYX];exact aa.new _ _ _);have hSYX:aa YX w.heap.size [.int .i64 k,.int .i64 (n:Int),.slice lo 8 lc,.slice zo 8 zc] 27:=hSY.kept bYX;rw[<-hYX]
   clear hYX;refine hK.out _ _ (fun _=>hSYX) ?_;clear hK K;try simp only[Act.put,ar,an,am,ah,aj,ai]
   replace HBc:=ag (bg HBc.out bYX);have sYX:=CX.out.lt;clear bYX hSY;obtain⟨gX,hgX⟩:∃g,Hid (g=Y.heap.size):=⟨_,rfl⟩;rw[<-hgX.out]at CX sYX⊢
   have loX:Y.heap.size<=gX:=by rw[hgX.out];exact Nat.le_refl _
   clear hgX;refine aw.two 2 5 (by kernel_rfl) rfl rfl ?_ ?_
   .intro K hK;refine c_ YX.heap.size 5 i0 (.int .u8 0) 1 underlying22 hi hz0 hz1 n rfl rfl (by rw[hz2];omega) (by unfold maxLen;omega) (Nat.le_refl _) ?_;intro YXM hown hgr
    have CM:=ag (fi (k:=.u8) (n:=n) (by rw[Nat.mul_one]at hown;exact hown));have bYXM:Below YX.heap.size YX YXM:=(Below.refl _ _).grown hgr (Nat.le_refl _) (fun k h=>by cases h);clear hown hgr
    have hSYXM:aa YXM w.heap.size [.int .i64 k,.int .i64 (n:Int),.slice lo 8 lc,.slice zo 8 zc] 27:=hSYX.kept bYXM;refine hK.out _ _ (fun _=>hSYXM) ?_;clear hK K;try simp only[Act.put,ar,an,am,ah,aj,ai]
    replace CX:=ag (CX.out.kept bYXM);replace HBc:=ag (bg HBc.out bYXM);have sYXM:=CM.out.lt;clear bYXM hSYX;obtain⟨gM,hgM⟩:∃g,Hid (g=YX.heap.size):=⟨_,rfl⟩
    rw[<-hgM.out]at CM sYXM⊢;have loM:YX.heap.size<=gM:=by rw[hgM.out];exact Nat.le_refl _
    clear hgM;refine aO 5 ?_;intro K hK;go_simp;refine(mN n YXM (by omega)).mono ?_;rintro e YXMP ⟨gP,rfl,hcp,loP,bYXMP⟩;have CP:=ag hcp;clear hcp
    have hSYXMP:aa YXMP w.heap.size [.int .i64 k,.int .i64 (n:Int),.slice lo 8 lc,.slice zo 8 zc] 27:=hSYXM.kept bYXMP;refine hK.out _ _ (fun _=>hSYXMP) ?_;clear hK K
    try simp only[Act.put,ar,an,am,ah,aj,ai]
    replace CX:=ag (CX.out.kept bYXMP);replace CM:=ag (CM.out.kept bYXMP);replace HBc:=ag (bg HBc.out bYXMP);have sYXMP:=CP.out.lt;clear bYXMP hSYXM;refine aO 7 ?_;intro K hK
    have x0:=CX.out.cell 0 rfl;have x1:=CX.out.frozen 0;go_simp;have oE:aB gX YXMP (YXMP.setCell ⟨gX,0,none⟩ (.slice (some ⟨gM,0,none⟩) n n)):=(aB.refl _ _).set 0 _
    have CE:=CX.out.set 0 (.slice (some ⟨gM,0,none⟩) n n);simp only[List.set_cons_zero]at CE
    have hS:aa (YXMP.setCell ⟨gX,0,none⟩ (.slice (some ⟨gM,0,none⟩) n n)) w.heap.size [.int .i64 k,.int .i64 (n:Int),.slice lo 8 lc,.slice zo 8 zc] 27:=oE.cel hSYXMP (by omega)
    have hQ:Hid (QT w1 n (.pointer (some ⟨gX,0,none⟩)) (.slice (some ⟨gP,0,none⟩) n n) (YXMP.setCell ⟨gX,0,none⟩ (.slice (some ⟨gM,0,none⟩) n n))):=⟨gX,gM,gP,rfl,rfl,⟨by omega,by omega,by omega,by omega,by omega,by omega⟩,CE,oE.cel CM.out (by omega),oE.cel CP.out (by omega),HBc.out.trans (oE.below (by omega))⟩
    clear CE oE CX CM CP HBc x0 x1 hSYXMP;generalize YXMP.setCell ⟨gX,0,none⟩ (.slice (some ⟨gM,0,none⟩) n n)=YE at *;refine hK.out _ _ (fun _=>hS) ?_;clear hK K;try simp only[Act.put,ar,an,am,ah,aj,ai]
    refine aK 8 hS ?_;refine aw.done (by kernel_rfl) ?_ _;clear hS;go_wp2_with fail;go_meet;exact hQ.out
   .intro K hK;go_simp;refine(mN n YX (by omega)).mono ?_;rintro e YXP ⟨gP,rfl,hcp,loP,bYXP⟩;have CP:=ag hcp;clear hcp
    have hSYXP:aa YXP w.heap.size [.int .i64 k,.int .i64 (n:Int),.slice lo 8 lc,.slice zo 8 zc] 27:=hSYX.kept bYXP;refine hK.out _ _ (fun _=>hSYXP) ?_;clear hK K;try simp only[Act.put,ar,an,am,ah,aj,ai]
    replace CX:=ag (CX.out.kept bYXP);replace HBc:=ag (bg HBc.out bYXP);have sYXP:=CP.out.lt;clear bYXP hSYX;refine aO 2 ?_;intro K hK
    refine c_ YXP.heap.size 5 i0 (.int .u8 0) 1 underlying22 hi hz0 hz1 n rfl rfl (by rw[hz2];omega) (by unfold maxLen;omega) (Nat.le_refl _) ?_;intro YXPM hown hgr
    have CM:=ag (fi (k:=.u8) (n:=n) (by rw[Nat.mul_one]at hown;exact hown));have bYXPM:Below YXP.heap.size YXP YXPM:=(Below.refl _ _).grown hgr (Nat.le_refl _) (fun k h=>by cases h);clear hown hgr
    have hSYXPM:aa YXPM w.heap.size [.int .i64 k,.int .i64 (n:Int),.slice lo 8 lc,.slice zo 8 zc] 27:=hSYXP.kept bYXPM;refine hK.out _ _ (fun _=>hSYXPM) ?_;clear hK K
    try simp only[Act.put,ar,an,am,ah,aj,ai]
    replace CX:=ag (CX.out.kept bYXPM);replace CP:=ag (CP.out.kept bYXPM);replace HBc:=ag (bg HBc.out bYXPM);have sYXPM:=CM.out.lt;clear bYXPM hSYXP
    obtain⟨gM,hgM⟩:∃g,Hid (g=YXP.heap.size):=⟨_,rfl⟩;rw[<-hgM.out]at CM sYXPM⊢;have loM:YXP.heap.size<=gM:=by rw[hgM.out];exact Nat.le_refl _
    clear hgM;refine aO 7 ?_;intro K hK;have x0:=CX.out.cell 0 rfl;have x1:=CX.out.frozen 0;go_simp;have oE:aB gX YXPM (YXPM.setCell ⟨gX,0,none⟩ (.slice (some ⟨gM,0,none⟩) n n)):=(aB.refl _ _).set 0 _
    have CE:=CX.out.set 0 (.slice (some ⟨gM,0,none⟩) n n);simp only[List.set_cons_zero]at CE
    have hS:aa (YXPM.setCell ⟨gX,0,none⟩ (.slice (some ⟨gM,0,none⟩) n n)) w.heap.size [.int .i64 k,.int .i64 (n:Int),.slice lo 8 lc,.slice zo 8 zc] 27:=oE.cel hSYXPM (by omega)
    have hQ:Hid (QT w1 n (.pointer (some ⟨gX,0,none⟩)) (.slice (some ⟨gP,0,none⟩) n n) (YXPM.setCell ⟨gX,0,none⟩ (.slice (some ⟨gM,0,none⟩) n n))):=⟨gX,gM,gP,rfl,rfl,⟨by omega,by omega,by omega,by omega,by omega,by omega⟩,CE,oE.cel CM.out (by omega),oE.cel CP.out (by omega),HBc.out.trans (oE.below (by omega))⟩
    clear CE oE CX CM CP HBc x0 x1 hSYXPM;generalize YXPM.setCell ⟨gX,0,none⟩ (.slice (some ⟨gM,0,none⟩) n n)=YE at *;refine hK.out _ _ (fun _=>hS) ?_;clear hK K;try simp only[Act.put,ar,an,am,ah,aj,ai]
    refine aK 8 hS ?_;refine aw.done (by kernel_rfl) ?_ _;clear hS;go_wp2_with fail;go_meet;exact hQ.out
 case rest=>
  obtain⟨g3,gx,gp,rfl,rfl,⟨o1,o2,o3,o4,o5,o6⟩,c3,cx,cp,hbx⟩:=hcut;have HT:=ag (show aa wc gx (vK .u8 (Mx.txL t 0 0)) 5 by rw[Mx.txL_zero hB,<-hnn.out];exact cx)
  have HP:=ag (show Nd wc (some ⟨gp,0,none⟩) (mI (Mx.pl t 0))by have:=uK cp;rw[hnn.out]at this;exact this);have C3:=ag c3;have HBx:=ag hbx
  have CW:Hid (∀l w0,l<8->Qx 30 #[.int .i64 (l:Nat)] w0 (.int .u8 ((2^(7-l):Nat):Int))):=fun l w0 hl=>qA l hl w0
  have CQ:Hid (∀l po pc g5 w0,l<8->Nd w0 po (mI (Mx.pl t l))->aa w0 g3 [.slice (some ⟨gx,0,none⟩) n n] 22->aa w0 gx (vK .u8 (Mx.txL t (l+1) 0)) 5->aa w0 g5 [.int .i64 (l:Int)] 3->Calls prog 49 #[.slice po n pc,.func (.func 50) #[] #[.pointer (some ⟨g3,0,none⟩),.pointer (some ⟨g5,0,none⟩)]] w0 fun e w'=>∃ao cap z,e=.returned (.tuple #[.slice ao n cap,.int .i64 (z:Nat)])/\Nd w' ao (mI (Mx.pl t (l+1)))/\Below w0.heap.size w0 w'):=fun l po pc g5 w0 hl h1 h2 h3 h4=>by
   have:=Ek po (Mx.pl t l) pc g3 g5 (fun j=>Mx.tb l (gt t j)) w0 h1 (by rw[Mx.length_pl];omega) (fun x w2 hm hb=>Ea t x l n g3 gx g5 w2 ((Mx.mem_pl t l x).1 hm) hnn.out hl hB (h2.kept hb) (h3.kept hb) (h4.kept hb))
   rw[Mx.length_pl,<-hnn.out]at this;refine this.mono ?_;rintro e w' ⟨ao,m,cap,rfl,hm,how,hbe⟩;have em:m=n:=by rw[hm,(Mx.perm_pt _ _).length_eq,Mx.length_pl,hnn.out]
   subst em;exact⟨ao,cap,_,rfl,mM how (by rw[Mx.length_pl,hnn.out]),hbe⟩
  clear cx cp c3 hbx hi hz0 hz1 hz2 i0;go_wp2
  go_loopw [4,20] (fun vp vl wr=>∃(l:Nat) (po:Option Addr) (pc:Nat),l<=8/\vl=.int .i64 l/\vp=.slice po n pc/\Hid (Nd wr po (mI (Mx.pl t l)))/\Hid (aa wr gx (vK .u8 (Mx.txL t l 0)) 5)/\Hid (aa wr g3 [.slice (some ⟨gx,0,none⟩) n n] 22)/\Hid (Below w1.heap.size w1 wr)) (fun _ vl _=>8-(intOf vl).toNat)
  case atStart=>exact⟨0,_,_,Nat.zero_le _,rfl,rfl,HP,HT,C3,HBx⟩
  case round=>
   clear HP HT C3 HBx;obtain⟨l,po,pc,hl,rfl,rfl,HP,HT,C3,HBx⟩:=hrel;by_cases hlt:l<8
   .have hltz:(l:Int)<8:=by omega
    obtain⟨W1,hW1⟩:∃W1,W1=wr.alloc (.cells #[.int .i64 (l:Int)] 3):=⟨_,rfl⟩;have b1:Below wr.heap.size wr W1:=by rw[hW1];exact below_alloc wr _
    have CLb:=ag (show aa W1 wr.heap.size [.int .i64 (l:Int)] 3 by rw[hW1];exact aa.new wr _ _);replace HP:=ag (HP.out.keep b1);have lgx:=HT.out.lt;have lg3:=C3.out.lt;replace HT:=ag (HT.out.kept b1)
    replace C3:=ag (C3.out.kept b1);have zz:=HBx.out.size;replace HBx:=ag (bg HBx.out b1);obtain⟨g5,hg5⟩:∃g5,Hid (g5=wr.heap.size):=⟨_,rfl⟩
    have h5x:gx<g5:=by rw[hg5.out];exact lgx
    have h53:g3<g5:=by rw[hg5.out];exact lg3
    have h51:w1.heap.size<=g5:=by rw[hg5.out];exact zz
    rw[<-hg5.out]at CLb;have HMr:=ag (HM.out.keep HBx.out);have Kr:=ag (K1.out.kept HBx.out);rw[hnn.out]at HMr;obtain⟨rb,ro,rs,erb,hrb,hrg,hki⟩:=HMr.out.row hlt;subst erb
    have CBt:=ag (JB rs _ W1 hki);rw[(lV hkn hle l).2.1,(lV hkn hle l).2.2,<-hnn.out]at CBt;have HL:=ag hki.arg.len;have HR:=ag hrg;have y2:=Kr.out.cell 2 rfl;have l0:=CLb.out.cell 0 rfl
    rw[hW1]at y2 l0 HR;rw[hg5.out]at l0;clear b1 hki hrg hrb zz lgx lg3;go_wp2_with (refine aR rb (ro+l*22) rs (by rfl) rfl HR.out underlying63 HL.out ?_);rw[<-hW1,<-hg5.out];clear hW1 HR y2 l0 hg5 HMr Kr
    refine CBt.out.mono ?_;rintro e w2 ⟨bo,bc,rfl,hwd,hcap,hb⟩;obtain⟨X,hX⟩:∃X,Hid (X=aC (Mx.rw_ t l)):=⟨_,rfl⟩;rw[<-hX.out]at hwd hcap⊢;have HFit:Hid (aA X):=by rw[hX.out];exact cY _ _
    obtain⟨W3,hW3⟩:∃W3,W3=w2.alloc (.cells #[.int .i64 (n:Nat),.slice bo X.length bc] 53):=⟨_,rfl⟩;have b3:Below w2.heap.size w2 W3:=by rw[hW3];exact below_alloc w2 _
    have bb:=bg hb b3;have C6:=ag (show aa W3 w2.heap.size [.int .i64 (n:Nat),.slice bo X.length bc] 53 by rw[hW3];exact aa.new w2 _ _);have z2:=CLb.out.lt;have z3:=hb.size
    replace HP:=ag (HP.out.keep bb);replace HT:=ag (HT.out.kept bb);replace C3:=ag (C3.out.kept bb);replace CLb:=ag (CLb.out.kept bb);replace HBx:=ag (bg HBx.out bb)
    have HWd:=ag (hwd.keep b3);obtain⟨g6,hg6⟩:∃g6,Hid (g6=w2.heap.size):=⟨_,rfl⟩;have h65:g5<g6:=by rw[hg6.out];omega
    rw[<-hg6.out]at C6;clear hb b3 bb hwd CBt;go_wp2;rw[<-hW3,<-hg6.out];clear hW3 hg6 z2 z3
    go_loopw [31] (fun vi wz=>∃i:Nat,i<=n/\vi=.int .i64 i/\Hid (Nd wz po (mI (Mx.pl t l)))/\Hid (aa wz gx (vK .u8 (Mx.txL t l i)) 5)/\Hid (aa wz g3 [.slice (some ⟨gx,0,none⟩) n n] 22)/\Hid (aa wz g5 [.int .i64 (l:Int)] 3)/\Hid (aa wz g6 [.int .i64 (n:Nat),.slice bo X.length bc] 53)/\Hid (Wd wz bo X)/\Hid (Below w1.heap.size w1 wz)) (fun vi _=>n-(intOf vi).toNat)
    case atStart=>exact⟨0,Nat.zero_le _,rfl,HP,HT,C3,CLb,C6,HWd,HBx⟩
    case round=>
     clear HP HT C3 CLb C6 HWd HBx;obtain⟨i,hi,rfl,HP,HT,C3,CLb,C6,HWd,HBx⟩:=hrel;by_cases hil:i<n
     .have hilz:(i:Int)<(n:Int):=by omega
      obtain⟨p,hpl⟩:∃p,(Mx.pl t l)[i]?=some p:=⟨_,List.getElem?_eq_getElem (by rw[Mx.length_pl,<-hnn.out];exact hil)⟩;obtain⟨hpn,hgp,hst⟩:=Mx.txL_step hpl
      have hsk:=ag (fun h0=>Mx.txL_skip hB hlt hpl h0);obtain⟨nb,no,epo,hnl,hnc⟩:=HP.out (by rw[dt,Mx.length_pl,<-hnn.out];omega);subst epo
      have p1:=hnc i (by rw[dt,Mx.length_pl,<-hnn.out];exact hil);rw[iN _ i (by rw[Mx.length_pl,<-hnn.out];exact hil),show gt (Mx.pl t l) i=p by unfold gt;rw[List.getD_eq_getElem?_getD,hpl];rfl]at p1
      have hbit:gy (n:Int) X (i:Int)=Mx.tb l (gt t p):=by
       unfold gy
       rw[hX.out,hnn.out,mj hle l,decide_eq_true (by have:=hnn.out;omega),Int.toNat_natCast,si _ _ _ (show(Mx.rw_ t l)[i]?=some (Mx.tb l (gt t p))by unfold Mx.rw_;rw[List.getElem?_map,hpl];rfl)]
       simp
      have CG:=ag (wN (n:Int) bo X bc (i:Int) wr HWd.out HFit.out);rw[hbit]at CG;obtain⟨EE,hEE⟩:∃EE,Hid (EE=du (n:Int) X (i:Int)):=⟨_,rfl⟩;rw[<-hEE.out]at CG;have c60:=C6.out.cell 0 rfl
      have c61:=C6.out.cell 1 rfl;have hpz:(p:Int)<(n:Int):=by rw[hnn.out];omega
      have tp:=Mx.top_lt (l:=l) (hB p);have ton:=ag (fun h=>Mx.top_on (hB p) hlt h);obtain⟨TT,hTT⟩:∃TT,Hid (TT=Mx.top l (gt t p)):=⟨_,rfl⟩
      obtain⟨T2,hT2⟩:∃T2,Hid (T2=Mx.top (l+1) (gt t p)):=⟨_,rfl⟩;rw[<-hTT.out,<-hT2.out]at ton;rw[<-hTT.out]at tp hgp;rw[<-hT2.out]at hst;have HGP:=ag hgp;have HST:=ag hst
      generalize Mx.tb l (gt t p)=bb at *;have CWl:=ag (fun w0=>CW.out l w0 hlt);have hw2:(2:Nat)^(7-l)<=128:=Nat.le_trans (Nat.pow_le_pow_right (by decide) (show 7-l<=7 by omega)) (by decide)
      have H8:=ag (qq TT (2^(7-l)) tp (by omega));generalize (2:Nat)^(7-l)=WW at *;clear hnc hbit hEE hgp hst;go_wp2_with fail;refine CG.out.mono ?_;rintro e w4 ⟨rfl,hb⟩;replace HP:=ag (HP.out.keep hb)
      replace HT:=ag (HT.out.kept hb);replace C3:=ag (C3.out.kept hb);replace CLb:=ag (CLb.out.kept hb);replace C6:=ag (C6.out.kept hb);replace HWd:=ag (HWd.out.keep hb)
      replace HBx:=ag (bg HBx.out hb);clear hb CG c60 c61 p1;cases bb with
      | true=>
       have e5:=ton.out rfl;have H8':=H8.out;rw[e5]at H8';clear hsk ton H8;go_wp2
       refine ba [8] (fun w'=>aa w' g3 [.slice (some ⟨gx,0,none⟩) n n] 22/\aa w' g5 [.int .i64 (l:Int)] 3/\aa w' gx (vK .u8 (Mx.txL t l i)) 5/\aa w' g6 [.int .i64 (n:Nat),.slice bo X.length bc] 53/\Wd w' bo X/\Nd w' (some ⟨nb,no,none⟩) (mI (Mx.pl t l))/\Below w1.heap.size w1 w') (by kernel_rfl) ?_
       have hS:(fun w'=>aa w' g3 [.slice (some ⟨gx,0,none⟩) n n] 22/\aa w' g5 [.int .i64 (l:Int)] 3/\aa w' gx (vK .u8 (Mx.txL t l i)) 5/\aa w' g6 [.int .i64 (n:Nat),.slice bo X.length bc] 53/\Wd w' bo X/\Nd w' (some ⟨nb,no,none⟩) (mI (Mx.pl t l))/\Below w1.heap.size w1 w') w4.drew:=⟨C3.out.drew,CLb.out.drew,HT.out.drew,C6.out.drew,HWd.out.keep ((Below.refl _ _).drew),HP.out.keep ((Below.refl _ _).drew),HBx.out.drew⟩
       clear C3 CLb HT C6 HWd HP HBx;generalize w4.drew=V at *
       refine aF 0 hS rfl (fun w0 h0=>by have q0:=h0.1.cell 0 rfl;have q1:=h0.2.2.1.cell p (gE _ _ p (by rw[Mx.length_txL];exact hpn));rw[HGP.out]at q1;have q2:=h0.2.1.cell 0 rfl;go_simp;try with_reducible rfl) ?_
       refine aK 1 hS ?_;refine aK 2 hS ?_
       refine aF 3 hS rfl (fun w0 h0=>by have q0:=h0.1.cell 0 rfl;have q1:=h0.2.2.1.cell p (gE _ _ p (by rw[Mx.length_txL];exact hpn));rw[HGP.out]at q1;have q2:=h0.2.1.cell 0 rfl;go_simp;try with_reducible rfl) ?_
       refine aF 4 hS rfl (fun w0 h0=>by have q0:=h0.1.cell 0 rfl;have q1:=h0.2.2.1.cell p (gE _ _ p (by rw[Mx.length_txL];exact hpn));rw[HGP.out]at q1;have q2:=h0.2.1.cell 0 rfl;go_simp;try with_reducible rfl) ?_
       refine aO 5 ?_;intro K hK;go_simp;refine mr (CWl.out _) fun w9 h9=>?_;rw[h9];clear h9 w9;refine hK.out _ _ (fun _=>hS) ?_;clear hK K;try simp only[Act.put,ar,an,am,ah,aj,ai]
       refine aK 6 hS ?_;refine aK 7 hS ?_;refine aO 8 ?_;intro K hK;have q1:=hS.2.2.1.cell p (gE _ _ p (by rw[Mx.length_txL];exact hpn));have f1:=hS.2.2.1.frozen p;go_simp
       refine hK.out _ _ (fun h=>absurd (by decide) h) ?_;clear hK K;try simp only[Act.put,ar,an,am,ah,aj,ai]
       refine aw.done (by kernel_rfl) ?_ _;obtain⟨s1,s2,s3,s4,s5,s6,s7⟩:=hS;have o3:aB gx V (V.setCell ⟨gx,p,none⟩ (.int .u8 (T2:Nat))):=(aB.refl _ _).set p _
       have HT':Hid (aa (V.setCell ⟨gx,p,none⟩ (.int .u8 (T2:Nat))) gx (vK .u8 (Mx.txL t l (i+1))) 5):=by
        have:=s3.set p (.int .u8 (T2:Nat));rw[nI,HST.out]at this;exact this
       have A1:=ag (o3.cel s1 (by omega));have A2:=ag (o3.cel s2 (by omega));have A4:=ag (o3.cel s4 (by omega));have A5:=ag (o3.wd s5 (s5.apart s3 (qv _ (by decide) _)));have A6:=ag (D3 s6 s3 o3)
       have A7:=ag (s7.trans (o3.below (base:=w1.heap.size) (by omega)));clear s1 s2 s3 s4 s5 s6 s7 o3 q1 f1;go_wp2;exact⟨⟨i+1,by omega,by go_num,A6,HT',A1,A2,A4,A5,A7⟩,by simp only[intOf];omega⟩
      | false=>
       have e6:=hsk.out rfl;rw[e6]at HT;clear hsk ton H8 CWl e6;go_wp2;exact⟨⟨i+1,by omega,by go_num,HP,HT,C3,CLb,C6,HWd,HBx⟩,by simp only[intOf];omega⟩
     .obtain rfl:i=n:=by omega
      have eT:Hid (Mx.txL t l i=Mx.txL t (l+1) 0):=by show _=_;rw[hnn.out];exact Mx.txL_next t l
      rw[eT.out]at HT;have CQl:=ag (CQ.out l po pc g5 wr hlt HP.out C3.out HT.out CLb.out);clear CQ CW eT;go_wp2_with fail;refine CQl.out.mono ?_;rintro e w5 ⟨ao2,cap2,z,rfl,hnd,hb⟩;have HP2:=ag hnd
      have HT2:=ag (HT.out.kept hb);have C32:=ag (C3.out.kept hb);have HB2:=ag (bg HBx.out hb);clear hb hnd CQl HP HT C3 CLb C6 HWd HBx;go_wp2
      exact⟨⟨l+1,ao2,cap2,by omega,by go_num,rfl,HP2,HT2,C32,HB2⟩,by simp only[intOf];omega⟩
   .obtain rfl:l=8:=by omega
    have q0:=C3.out.cell 0 rfl;have HF:=ag (bd_vK (t:=t) (by have:=HT.out;rw[Mx.txL_all]at this;exact this));have HBe:=ag (bg HBa.out HBx.out);clear CQ CW HP HT HBx;go_wp2;go_ret
    exact⟨_,_,rfl,HF.out,HBe.out⟩
theorem sF(n:Nat):Builtin.zeroCells #[.int .i64 0] n=(vK .i64 (List.replicate n 0)).toArray:=by
 apply Array.ext';unfold Builtin.zeroCells vK;rw[Array.toList_map,Array.toList_range,List.map_replicate];refine List.ext_getElem (by simp) fun i h1 h2=>?_;simp;rw[show i%1=0 by omega];rfl
def ZO(w:World)(v:Value)(l:List Nat):Prop:=
 (v=.slice none 0 0/\l=[])\/∃g cap,v=.slice (some ⟨g,0,none⟩) l.length cap/\l.length<=cap/\aa w g (vK .i64 (l++List.replicate (cap-l.length) 0)) 3
def Tz(w w':World)(v:Value)(l:List Nat):Prop:=
 (∃g cap,v=.slice (some ⟨g,0,none⟩) l.length cap/\aa w g (vK .i64 (l++List.replicate (cap-l.length) 0)) 3/\aB g w w')\/Below w.heap.size w w'
theorem yh{o:Oper}{a:Act}{w:World}{K:Act->World->Prop}{Q:Exit->Act->World->Prop}(s x:Operand)
  (ho:o.op=.call { callee:=.builtin .append,args:=#[s,x],argTypes:=#[25,25] })
  (v:Value) (l:List Nat) (hs:a.eval s=v) (h:ZO w v l) (z:Nat) (ad:Addr) (c0:Nat) (hx:a.eval x=.slice (some ad) 1 c0) (hn:w.cell? (ad.add 0)=some (.int .i64 (z:Nat))) (h8:l.length<1000000)
  (k:∀v' w',ZO w' v' (l++[z])->Tz w w' v l->(∀g,v'.ownBlock=some g->v.ownBlock=some g\/g=w.heap.size)->K (a.put o.dst v') w'):o.wp prog a w K Q:=by
 obtain⟨i0,hi,hz0,hz1,hz2⟩:=info_parts jL
 have hn':∀j u,([.int .i64 (z:Nat)]:List Value)[j]?=some u->w.cell? (ad.add j)=some u:=fun j u hj=>by
  match j,hj with
  | 0,hj=>simp at hj;subst hj;exact hn
 have h1:∀u∈([.int .i64 (z:Nat)]:List Value),u.oneCell'=true:=fun u hu=>by simp at hu;subst hu;rfl
 have vz:vK .i64 [z]=[.int .i64 (z:Nat)]:=rfl;rcases h with⟨rfl,rfl⟩ | ⟨g,cap,rfl,hcap,hcel⟩
 .have hr:=run_append_nil (P:=prog) w 25 o.type 3 i0 (.int .i64 0) underlying25 hi hz0 ad 1 c0 [.int .i64 (z:Nat)] (by rw[hz1];rfl) hn' (by decide) (by decide) (by rw[hz2];decide)
  have hge:1<=grownCap w 1 0 3:=grownCap_ge w 1 0 3;generalize grownCap w 1 0 3=cp at *;unfold Oper.wp execOp
  simp only[ho,resolve,invoke,builtin,Sem.run_bind,Sem.run_pure,Result.andThen_ok,List.map_toArray,List.map_cons,List.map_nil,hs,hx,hr]
  refine k _ _ (.inr ⟨w.heap.size,cp,rfl,hge,?_⟩) (.inr ?_) (fun g hg=>.inr (by injection hg with e;exact e.symm))
  .show aa _ _ (Value.int .i64 (z:Nat)::vK .i64 (List.replicate (cp-1) 0)) 3;have:=aa.new w.drew (Value.int .i64 (z:Nat)::vK .i64 (List.replicate (cp-1) 0)) 3;simpa [Value.cells,sF,ia,vz]using this
  .exact(Below.refl w.heap.size w).drew.alloc (Nat.le_refl _) _
 .have lv:(vK .i64 l).length=l.length:=by simp[vK]
  by_cases hroom:l.length+1<=cap
  .have hsz:(vK .i64 (l++List.replicate (cap-l.length) 0)).length=cap:=by simp[vK];omega
   have hr:=run_append_room (P:=prog) w 25 o.type 3 i0 underlying25 hi g l.length cap _ hcel ad 1 c0 [.int .i64 (z:Nat)] (by rw[hz1];rfl) hn' h1 hroom (by rw[hz1,List.size_toArray,hsz];simp;omega)
   have ez:List.replicate (cap-l.length) 0=0::List.replicate (cap-(l.length+1)) 0:=by rw[show cap-l.length=cap-(l.length+1)+1 by omega];rfl
   have e2:(vK .i64 (l++List.replicate (cap-l.length) 0)).take (l.length*i0.size)++[.int .i64 (z:Nat)]++(vK .i64 (l++List.replicate (cap-l.length) 0)).drop (l.length*i0.size+([.int .i64 (z:Nat)]:List Value).length)=vK .i64 (l++([z]++List.replicate (cap-(l.length+1)) 0)):=by
    rw[hz1,Nat.mul_one,ez,ia,ia,ia,vz,List.take_left' lv,List.append_assoc,List.drop_append,List.drop_eq_nil_of_le (by rw[lv];simp),lv];simp[vK]
   unfold Oper.wp execOp;simp only[ho,resolve,invoke,builtin,Sem.run_bind,Sem.run_pure,Result.andThen_ok,List.map_toArray,List.map_cons,List.map_nil,hs,hx,hr];rw[e2]
   refine k _ _ (.inr ⟨g,cap,by simp,by simp;omega,?_⟩) (.inl ⟨g,cap,rfl,hcel,aB.row g w _⟩) (fun g hg=>.inl hg)
   have:=setRow_heap w g _ (vK .i64 (l++([z]++List.replicate (cap-(l.length+1)) 0))).toArray _ _ hcel
   have e3:(l++[z])++List.replicate (cap-(l++[z]).length) 0=l++([z]++List.replicate (cap-(l.length+1)) 0):=by simp
   rw[e3];exact this
  .have holds:∀j u,(vK .i64 l)[j]?=some u->w.cell? ((⟨g,0,none⟩:Addr).add j)=some u:=fun j u hj=>by
    have hlt:=(List.getElem?_eq_some_iff.1 hj).1;have:=hcel.cell j (v:=u) (by rw[ia,List.getElem?_append_left hlt];exact hj);rw[<-this];unfold Addr.add;split
    .subst_vars;rfl
    .simp
   have hr:=run_append_grow (P:=prog) w 25 o.type 3 i0 (.int .i64 0) underlying25 hi hz0 ⟨g,0,none⟩ l.length cap (vK .i64 l) (by rw[hz1,lv,Nat.mul_one]) holds ad 1 c0 [.int .i64 (z:Nat)] (by rw[hz1];rfl) hn' (by omega) (by omega) (growslice_fits (by omega) (by rw[hz2];omega))
   have hge:l.length+1<=grownCap w (l.length+1) cap 3:=grownCap_ge w (l.length+1) cap 3;generalize grownCap w (l.length+1) cap 3=cp at *;unfold Oper.wp execOp
   simp only[ho,resolve,invoke,builtin,Sem.run_bind,Sem.run_pure,Result.andThen_ok,List.map_toArray,List.map_cons,List.map_nil,hs,hx,hr]
   refine k _ _ (.inr ⟨w.heap.size,cp,by simp,by simpa using hge,?_⟩) (.inr ((Below.refl w.heap.size w).drew.alloc (Nat.le_refl _) _)) (fun g hg=>.inr (by injection hg with e;exact e.symm))
   have:=aa.new w.drew (vK .i64 (l++([z]++List.replicate (cp-(l.length+1)) 0))) 3;have e3:(l++[z])++List.replicate (cp-(l++[z]).length) 0=l++([z]++List.replicate (cp-(l.length+1)) 0):=by simp
   rw[e3];rw[ia,ia,vz]at this⊢;simpa [Value.cells,sF,List.append_assoc]using this
theorem ZO.keep{w w':World}{v:Value}{l:List Nat}(h:ZO w v l)(hb:Below w.heap.size w w'):ZO w' v l:=by
 rcases h with e | ⟨g,cap,e1,e2,e3⟩
 .exact .inl e
 .exact .inr ⟨g,cap,e1,e2,e3.kept hb⟩
theorem ZO.len{w:World}{v:Value}{l:List Nat}(h:ZO w v l):∃zo cap,v=.slice zo l.length cap:=by
 rcases h with⟨e,rfl⟩ | ⟨g,cap,e1,e2,e3⟩
 .exact⟨none,0,e⟩
 .exact⟨_,_,e1⟩
theorem ZO.lt{w:World}{v:Value}{l:List Nat}(h:ZO w v l){g:Nat}(hg:v.ownBlock=some g):g<w.heap.size:=by
 rcases h with⟨rfl,_⟩ | ⟨g',cap,rfl,e2,e3⟩
 .cases hg
 .injection hg with e
  rw[<-e];exact e3.lt
theorem ZO.only{w w':World}{v:Value}{l:List Nat}{g0:Nat}{gs:List Value}{T:TypeId}(h:ZO w v l)(hc:aa w g0 gs T)(hT:T≠3)(hO:aB g0 w w'):ZO w' v l:=by
 rcases h with e | ⟨g,cap,e1,e2,e3⟩
 .exact .inl e
 .exact .inr ⟨g,cap,e1,e2,hO.cel e3 (fun q=>hT (by subst q;exact mo hc e3))⟩
theorem ZO.tn{w w':World}{v u:Value}{l:List Nat}{css:List (List Value)}(h:ZO w v l)(hT:Tn w w' u css):ZO w' v l:=by
 rcases hT with⟨g,cap,_,e1,e2⟩ | hb
 .exact h.only e1 (by decide) e2
 .exact h.keep hb
theorem ZO.nd{w:World}{zo:Option Addr}{n c:Nat}{l:List Nat}(h:ZO w (.slice zo n c) l):Nd w zo (mI l):=by
 rcases h with⟨e,rfl⟩ | ⟨g,cap,e1,e2,e3⟩
 .exact fun h0=>absurd h0 (by simp[mI])
 .injection e1 with a1 a2 a3
  subst a1;intro h0;refine⟨g,0,rfl,e3.lt,fun i hi=>?_⟩;rw[dt]at hi;rw[iN l i hi,Nat.zero_add];refine e3.cell i ?_;rw[gE _ _ _ (by rw[List.length_append];omega)];congr 3;unfold gt
  rw[List.getD_eq_getElem?_getD,List.getD_eq_getElem?_getD,List.getElem?_append_left hi]
theorem DP(l:List Nat):bT (vK .i64 l):=qv .i64 (by decide) l
theorem Tz.cel{w w2:World}{v:Value}{l:List Nat}(h:Tz w w2 v l){b:Nat}{bs:List Value}{T:TypeId}(hc:aa w b bs T)(hT:T≠3):aa w2 b bs T:=by
 rcases h with⟨g,cap,rfl,e1,e2⟩ | hb
 .exact e2.cel hc (fun q=>hT (by subst q;exact mo hc e1))
 .exact hc.kept hb
theorem Tz.below{w w2:World}{v:Value}{l:List Nat}{base:Nat}(h:Tz w w2 v l)(ho:∀g,v.ownBlock=some g->base<=g)(hb:base<=w.heap.size):Below base w w2:=by
 rcases h with⟨g,cap,rfl,e1,e2⟩ | h
 .exact e2.below (ho g rfl)
 .exact h.mono hb
structure fF (gx:Nat) (w:World) (v u:Value) (R:Nat->RA) (css:List (List Value)):Prop where
 r:e_ gx w v R css
 z:∀(l:Nat) (c:List Value),css[l]?=some c->∀g,u.ownBlock=some g->NE g c
theorem fF.nil(gx:Nat)(w:World)(R:Nat->RA):fF gx w (.slice none 0 0) (.slice none 0 0) R []:=⟨e_.nil _ _ _,fun l c e=>by simp at e⟩
theorem fF.keep{gx:Nat}{w w':World}{v u:Value}{R:Nat->RA}{css:List (List Value)}(h:fF gx w v u R css)(hb:Below w.heap.size w w'):fF gx w' v u R css:=⟨h.r.keep hb,h.z⟩
theorem fF.only{gx g0:Nat}{w w2:World}{v u:Value}{R:Nat->RA}{css:List (List Value)}{gs:List Value}{T:TypeId}(h:fF gx w v u R css)(hg:g0<=gx)(hc:aa w g0 gs T)(hT:T≠63)(hn:bT gs)(hO:aB g0 w w2)(G2:GV w2):fF gx w2 v u R css:=⟨h.r.only hg hc hT hn hO G2,h.z⟩
theorem fF.push{gx:Nat}{w w2:World}{v v2 u:Value}{R:Nat->RA}{css:List (List Value)}{c:List Value}(h:fF gx w v u R css)(hk:KI w c (R css.length))(hn:(∀g,v.ownBlock=some g->NE g c)/\∀g0,g0<=gx->NE g0 c)(hz:∀g,u.ownBlock=some g->NE g c)(h2:kU w2 v2 (css++[c]))(hT:Tn w w2 v css)(hv:∀g,v2.ownBlock=some g->v.ownBlock=some g\/g=w.heap.size)(G2:GV w2):fF gx w2 v2 u R (css++[c]):=by
 refine⟨h.r.push hk hn h2 hT hv G2,fun l d e g hg=>?_⟩;by_cases hl:l<css.length
 .rw[List.getElem?_append_left hl]at e;exact h.z l d e g hg
 .rw[List.getElem?_append_right (by omega)]at e
  have:l-css.length=0:=by
   have:=(List.getElem?_eq_some_iff.1 e).1;simp at this;omega
  rw[this]at e;simp at e;subst e;exact hz g hg
theorem fF.zs{gx:Nat}{w w2:World}{v u u2:Value}{R:Nat->RA}{css:List (List Value)}{l:List Nat}(h:fF gx w v u R css)(hT:Tz w w2 u l)(hv:∀g,u2.ownBlock=some g->u.ownBlock=some g\/g=w.heap.size)(G2:GV w2):fF gx w2 v u2 R css:=by
 refine⟨⟨?_,fun q c e=>?_⟩,fun q c e g hg=>?_⟩
 .rcases hT with⟨g,cap,rfl,e1,e2⟩ | hb
  .rcases h.r.lo with e | ⟨g',cap',a1,a2,a3⟩
   .exact .inl e
   .exact .inr ⟨g',cap',a1,a2,e2.cel a3 (fun q=>by subst q;have:=mo e1 a3;revert this;decide)⟩
  .exact(h.r.keep hb).lo
 .refine⟨?_,(h.r.row q c e).2⟩;rcases hT with⟨g,cap,rfl,e1,e2⟩ | hb
  .exact(h.r.row q c e).1.only2 (h.z q c e g rfl) e1 (DP _) e2 G2
  .exact(h.r.row q c e).1.keep hb
 .rcases hv g hg with e1 | rfl
  .exact h.z q c e g e1
  .exact(h.r.row q c e).1.ne
theorem tF(lo:Option Addr)(l:List Nat)(lc:Nat)(bo:Option Addr)(bc:Nat)(f:Nat->Bool)(w:World)(hl:Nd w lo (mI l))(hb:Bl w bo (l.map f))(hn:l.length<=1048576):
  Calls prog 36 #[.slice lo l.length lc,.slice bo l.length bc] w fun e w'=>∃ao n cap,e=.returned (.slice ao n cap)/\n=(Mx.pt f l).length/\w'.ownsRow w.heap.size 3 1 (.slice ao n cap) n (vK .i64 (Mx.pt f l))/\Below w.heap.size w w':=by
 obtain⟨i0,hi,hz0,hz1,hz2⟩:=info_parts jL;have HN:=ag hl;have HBl:=ag hb;clear hl hb;go_enter func36,ntmps36;go_wp2
 go_loopw [5,6,7] (fun vo vn vi wr=>∃q:Nat,q<=l.length/\vi=.int .i64 q/\Hid (PE 3 .i64 wr w.heap.size f l q vo vn)/\Hid (Below w.heap.size w wr)) (fun _ _ vi _=>l.length-(intOf vi).toNat)
 case atStart=>exact⟨0,Nat.zero_le _,rfl,ag ⟨World.ownsRow_nil _ _ _ _,World.ownsRow_nil _ _ _ _,fun k h=>by cases h⟩,ag (Below.refl _ _)⟩
 case round=>
  obtain⟨q,hq,rfl,HP,HB⟩:=hrel;by_cases hlt:q<l.length
  .have hltz:(q:Int)<(l.length:Int):=by omega
   obtain⟨b,off,rfl,hlb,hc⟩:=(HN.out.keep HB.out) (by rw[dt];omega);have a0:=hc q (by rw[dt];exact hlt);rw[iN l q hlt]at a0
   obtain⟨b2,off2,rfl,hlb2,hc2⟩:=(HBl.out.keep HB.out) (by rw[List.length_map];omega);have a2:=hc2 q (by rw[List.length_map];exact hlt)
   have eb:bt (l.map f) q=f (gt l q):=by unfold bt gt;rw[List.getD_eq_getElem?_getD,List.getD_eq_getElem?_getD,List.getElem?_map,List.getElem?_eq_getElem hlt];rfl
   rw[eb]at a2;obtain⟨p,hp⟩:∃p,Hid (p=gt l q):=⟨_,rfl⟩;rw[<-hp.out]at a0 a2;obtain⟨BB,hBB⟩:∃BB,Hid (f p=BB):=⟨_,rfl⟩;rw[hBB.out]at a2;have zb:=HB.out.size;clear hc hc2 eb
   rcases(show BB=true\/BB=false by cases BB;exact .inr rfl;exact .inl rfl)with rfl | rfl
   .have HO:=ag HP.out.o2
    go_wp2_with (at_builtin;refine Ag.wpList_append (by rfl) _ _ _ (by rfl) w.heap.size 3 i0 (.int .i64 0) 1 8 underlying25 hi hz0 hz1 hz2 rfl (by decide) u6 (fl f true l q).length (vK .i64 (fl f true l q)) (by rfl) (HO.out.alloc _) ⟨wr.heap.size,0,none⟩ 1 1 [.int .i64 (p:Nat)] (by rfl) rfl (by decide) ?c1 ?c2 ?c3 ?c4 ?c5 ?_)
    case c1=>
     intro j u hj;have:=(aa.new wr [.int .i64 (p:Nat)] 3).cell j hj;match j,hj with
     | 0,_=>exact this
    case c2=>intro u hu;simp at hu;subst hu;rfl
    case c3=>have:=eQ f true l q;unfold maxLen;omega
    case c4=>have:=eQ f true l q;omega
    case c5=>simp;omega
    intro g8 cap8 w8 own8 hb8 hloc8 hlt8 hblk8 hs8;have hA:=below_alloc wr (.cells #[.int .i64 (p:Nat)] 3);have HB8:Hid (Below w.heap.size w w8):=(bg HB.out hA).trans (hb8.mono (by omega))
    have HP8:=ag (HP.out.onn (g:=g8) (cap:=cap8) hlt hA own8 (fun k hk hn=>hblk8 k (by simpa using hk) hn) (by simpa using hloc8) hp.out hBB.out);clear own8 hb8 hloc8 hlt8 hblk8 hs8 hA HB HP HO hBB a0 a2
    try simp only[Act.put,ah,List.set]
    go_wp2;exact⟨⟨q+1,by omega,by go_num,HP8,HB8⟩,by simp only[intOf];omega⟩
   .have HO:=ag HP.out.o1
    go_wp2_with (at_builtin;refine Ag.wpList_append (by rfl) _ _ _ (by rfl) w.heap.size 3 i0 (.int .i64 0) 1 8 underlying25 hi hz0 hz1 hz2 rfl (by decide) u5 (fl f false l q).length (vK .i64 (fl f false l q)) (by rfl) (HO.out.alloc _) ⟨wr.heap.size,0,none⟩ 1 1 [.int .i64 (p:Nat)] (by rfl) rfl (by decide) ?c1 ?c2 ?c3 ?c4 ?c5 ?_)
    case c1=>
     intro j u hj;have:=(aa.new wr [.int .i64 (p:Nat)] 3).cell j hj;match j,hj with
     | 0,_=>exact this
    case c2=>intro u hu;simp at hu;subst hu;rfl
    case c3=>have:=eQ f false l q;unfold maxLen;omega
    case c4=>have:=eQ f false l q;omega
    case c5=>simp;omega
    intro g8 cap8 w8 own8 hb8 hloc8 hlt8 hblk8 hs8;have hA:=below_alloc wr (.cells #[.int .i64 (p:Nat)] 3);have HB8:Hid (Below w.heap.size w w8):=(bg HB.out hA).trans (hb8.mono (by omega))
    have HP8:=ag (HP.out.offf (g:=g8) (cap:=cap8) hlt hA own8 (fun k hk hn=>hblk8 k (by simpa using hk) hn) (by simpa using hloc8) hp.out hBB.out);clear own8 hb8 hloc8 hlt8 hblk8 hs8 hA HB HP HO hBB a0 a2
    try simp only[Act.put,ah,List.set]
    go_wp2;exact⟨⟨q+1,by omega,by go_num,HP8,HB8⟩,by simp only[intOf];omega⟩
  .obtain rfl:q=l.length:=by omega
   have HO1:=ag HP.out.o1;have l1:=eQ f false l l.length;have l2:=eQ f true l l.length;obtain⟨xa,c,rfl,hsrc⟩:=lr HP.out.o2 (jj _ _).symm
   obtain⟨ya,yc,rfl,_⟩:=lr HP.out.o1 (jj _ _).symm;have HS:=ag hsrc;have zb:=HB.out.size;clear hsrc HP
   go_wp2_with (at_builtin;refine qz (by rfl) _ _ _ (by rfl) w.heap.size 3 i0 (.int .i64 0) 1 8 underlying25 hi hz0 hz1 hz2 rfl (by decide) _ (fl f false l l.length).length (vK .i64 (fl f false l l.length)) (by rfl) HO1.out xa (fl f true l l.length).length c (vK .i64 (fl f true l l.length)) (by rfl) (by rw[jj,Nat.mul_one]) HS.out ?c2 ?c3 ?c4 ?c5 ?_)
   case c2=>intro u hu;unfold vK at hu;obtain⟨_,_,rfl⟩:=List.mem_map.1 hu;rfl
   case c3=>unfold maxLen;omega
   case c4=>omega
   case c5=>omega
   intro ao cap w8 own8 hb8 _ _;try simp only[Act.put,ah,List.set]
   have eP:Mx.pt f l=fl f false l l.length++fl f true l l.length:=by unfold Mx.pt fl;rw[List.take_length]
   have HF:Hid ((fl f false l l.length).length+(fl f true l l.length).length=(Mx.pt f l).length/\w8.ownsRow w.heap.size 3 1 (.slice ao ((fl f false l l.length).length+(fl f true l l.length).length) cap) ((fl f false l l.length).length+(fl f true l l.length).length) (vK .i64 (Mx.pt f l))/\Below w.heap.size w w8):=by
    refine⟨by rw[eP,List.length_append],?_,HB.out.trans (hb8.mono (Nat.le_refl _))⟩;rw[eP,ia];exact own8
   clear own8 hb8 HO1 HS HB eP;go_wp2;go_ret;exact⟨ao,_,cap,rfl,HF.out⟩
theorem De(cs:List Value)(a:cD)(w:World)(h:b_ w cs a):
  Calls prog 168 #[.agg cs.toArray] w fun e w'=>∃bo bc,e=.returned (.tuple #[.agg #[.int .i64 (kBN7 a),.slice bo (kBX7 a).length bc],.bool (kOk7 a)])/\Wd w' bo (kBX7 a)/\(kBX7 a).length<=bc/\Below w.heap.size w w':=by
 obtain⟨⟨ao,cap,so,sc,tO,tc,rfl,h⟩,xl,sl,tl⟩:=h;refine mr (Ai a.N ao a.xs cap so a.S sc tO a.T tc w h.x h.f h.c h.s sl h.t tl) fun w' hb=>?_
 exact⟨_,_,rfl,(Cw a.N a.S a.T h.x).keep hb,Cy a.N a.xs a.S a.T cap h.c,hb⟩
theorem Df(cs:List Value)(a:cD)(w:World)(h:b_ w cs a):
  Qq 71 #[.agg cs.toArray] w (.int .i64 (kZ7 a)):=by
 obtain⟨⟨ao,cap,so,sc,tO,tc,rfl,h⟩,xl,sl,tl⟩:=h;exact Ak a.N ao a.xs cap so a.S sc tO a.T tc w h.x h.f h.c h.s sl h.t tl
theorem Dh(N:Int)(ao:Option Addr)(xs:List Nat)(cap:Nat)(w:World)(hN:aD N)(hx:Wd w ao xs)(hf:aA xs)(hcap:xs.length<=cap)(hl:xs.length<=1048576):
  Calls prog 61 #[.agg #[.int .i64 N,.slice ao xs.length cap]] w fun e w'=>∃cs:List Value,e=.returned (.tuple #[.agg cs.toArray,.int .i64 (kE7 N xs)])/\b_ w' cs (kB7 N xs)/\NF w.heap.size 2 cs/\Below w.heap.size w w':=by
 refine(Bf N ao xs cap w hx hf hcap).mono ?_;rintro e w' ⟨bo,bc,so,sc,tO,tc,rfl,ho,hb⟩;exact⟨_,rfl,ho.ki N xs hN hf hl,cW ho.sn ho.tn,hb⟩
def iI(o:Option (List Nat))(w:World)(e:Ending)(w':World):Prop:=
 match o with
 | none=>e=.returned (.tuple #[.slice none 0 0,.bool false])/\Below w.heap.size w w'
 | some l=>∃so sc,e=.returned (.tuple #[.slice so l.length sc,.bool true])/\Nd w' so (lz l)/\l.length<=sc/\Below w.heap.size w w'
theorem Hy(a:FA)(h:¬((0<=a.N/\a.N<=1048576/\0<=a.M/\a.M<=a.N)/\aQ a.k a.V a.LM a.xs=true/\az a.H a.ys=true/\((plc (bitAt a.ys) a.H.toNat).length:Int)=a.M/\(wdF a.N.toNat a.M.toNat=0\/(((List.range a.k.toNat).map (numAt a.V.toNat a.xs)).length:Int)=a.M))):dC a=none:=by
 unfold dC;exact if_neg h
theorem At(N M k V LM H:Int)(ao:Option Addr)(xs:List Nat)(cap:Nat)(qo:Option Addr)(ys:List Nat)(dap:Nat)(w:World)(hx:Wd w ao xs)(fx:aA xs)(hy:Wd w qo ys)(fy:aA ys)(h:¬((0<=N/\N<=1048576/\0<=M/\M<=N)/\aQ k V LM xs=true/\az H ys=true)):
  Calls prog 191 #[.agg #[.int .i64 N,.int .i64 M,.int .i64 k,.int .i64 V,.int .i64 LM,.slice ao xs.length cap,.int .i64 H,.slice qo ys.length dap]] w (iI none w):=by
 unfold iI
 have C1:Hid (Qz w 189 #[.agg #[.int .i64 k,.int .i64 V,.int .i64 LM,.slice ao xs.length cap]] (.bool (aQ k V LM xs))):=fun w0 hb=>jq k V LM ao xs cap w0 (hx.keep hb) fx
 have C2:Hid (Qz w 64 #[.agg #[.int .i64 H,.slice qo ys.length dap]] (.bool (az H ys))):=fun w0 hb=>dB H qo ys dap w0 (hy.keep hb) fy
 obtain⟨W,hW⟩:∃W,W=w.alloc (.cells #[.int .i64 N,.int .i64 M,.int .i64 k,.int .i64 V,.int .i64 LM,.slice ao xs.length cap,.int .i64 H,.slice qo ys.length dap] 61):=⟨_,rfl⟩;have bW:=aU hW;have B1:=bn hW
 clear hx hy fx fy;by_cases n0:N<0
 .clear C1 C2 h;go_enter func191,ntmps191;go_wp2;go_ret2;rw[<-hW];exact⟨rfl,bW⟩
 by_cases n1:1048576<N
 .clear C1 C2 h;go_enter func191,ntmps191;go_wp2;go_ret2;rw[<-hW];exact⟨rfl,bW⟩
 by_cases m0:M<0
 .clear C1 C2 h;go_enter func191,ntmps191;go_wp2;go_ret2;rw[<-hW];exact⟨rfl,bW⟩
 by_cases m1:N<M
 .clear C1 C2 h;go_enter func191,ntmps191;go_wp2;go_ret2;rw[<-hW];exact⟨rfl,bW⟩
 cases hk:aQ k V LM xs with
 | false=>
  rw[hk]at C1;clear C2 h hk;go_enter func191,ntmps191;go_wp2_with fail;rw[<-hW];refine mr (C1.out _ bW) fun w1 hb=>?_;have bw1:=bg bW hb;clear hW hb;go_wp2;go_ret2;exact⟨rfl,bw1⟩
 | true=>
  have hc:az H ys=false:=by
   cases hc:az H ys with
   | false=>rfl
   | true=>exact absurd ⟨by omega,hk,hc⟩ h
  rw[hk]at C1;rw[hc]at C2;clear h hk hc;go_enter func191,ntmps191;go_wp2_with fail;rw[<-hW];refine mr (C1.out _ bW) fun w1 hb=>?_;have bw1:=bg bW hb;replace B1:=B1.kept hb
  have q6:=B1.cell 6 rfl;have q7:=B1.cell 7 rfl;clear hW hb;go_wp2_with fail;refine mr (C2.out _ bw1) fun w2 hb=>?_;have bw2:=bg bw1 hb;clear hb;go_wp2;go_ret2;exact⟨rfl,bw2⟩
theorem gU{p:Prop}(h:p):Hid p:=h
theorem yW(DD y p:Nat)(h:p=DD+y):(DD:Int)+(y:Int)=(p:Int):=by omega
theorem Fz(DD y p:Nat)(h:p=DD+y)(h1:DD<=1099511627776)(h2:y<1048576):p<=1099512676352:=by omega
theorem Ar(n mm kn vn hh:Nat)(LM:Int)(ao:Option Addr)(xs:List Nat)(cap:Nat)(qo:Option Addr)(ys:List Nat)(dap:Nat)(w:World)(hx:Wd w ao xs)(fx:aA xs)(hy:Wd w qo ys)(fy:aA ys)(hn:n<=1048576)(hmn:mm<=n)(ik:aQ (kn:Int) (vn:Int) LM xs=true)(ck:az (hh:Int) ys=true):
  Calls prog 191 #[.agg #[.int .i64 (n:Nat),.int .i64 (mm:Nat),.int .i64 (kn:Nat),.int .i64 (vn:Nat),.int .i64 LM,.slice ao xs.length cap,.int .i64 (hh:Nat),.slice qo ys.length dap]] w (iI (dC ⟨n,mm,kn,vn,LM,xs,hh,ys⟩) w):=by
 obtain⟨i3,hi3,za3,zb3,zc3⟩:=info_parts vW;obtain⟨_,_,_,_,_,_,lm1,knl⟩:=dZ _ _ _ _ ik;obtain⟨_,hhl,_,_⟩:=bp _ _ ck
 have C1:Hid (Qz w 189 #[.agg #[.int .i64 (kn:Nat),.int .i64 (vn:Nat),.int .i64 LM,.slice ao xs.length cap]] (.bool true)):=fun w0 hb=>by
  have:=jq kn vn LM ao xs cap w0 (hx.keep hb) fx;rw[ik]at this;exact this
 have C2:Hid (Qz w 64 #[.agg #[.int .i64 (hh:Nat),.slice qo ys.length dap]] (.bool true)):=fun w0 hb=>by
  have:=dB hh qo ys dap w0 (hy.keep hb) fy;rw[ck]at this;exact this
 have C3:Hid (∀w0,Qq 164 #[.int .i64 (n:Nat),.int .i64 (mm:Nat)] w0 (.int .i64 (wdF n mm:Nat))):=fun w0=>wZ n mm hn hmn w0
 have C4:Hid (∀w0,Below w.heap.size w w0->Calls prog 207 #[.agg #[.int .i64 (kn:Nat),.int .i64 (vn:Nat),.int .i64 LM,.slice ao xs.length cap]] w0 fun e w'=>∃lo' lc,e=.returned (.slice lo' kn lc)/\Wd w' lo' ((List.range kn).map (numAt vn xs))/\Below w0.heap.size w0 w'):=fun w0 hb=>by
  refine(tM LM kn vn ao xs cap w0 (hx.keep hb) fx ik).mono ?_;rintro e w' ⟨v,rfl,ho,hb2⟩;obtain⟨lo',lc,rfl,_,_⟩:=Ap.owns_shape ho;exact⟨lo',lc,rfl,sP ho,hb2⟩
 have C5:Hid (∀w0,Below w.heap.size w w0->Calls prog 112 #[.agg #[.int .i64 (hh:Nat),.slice qo ys.length dap]] w0 fun e w'=>∃ho' hc,e=.returned (.slice ho' (plc (bitAt ys) hh).length hc)/\Nd w' ho' (lz (plc (bitAt ys) hh))/\Below w0.heap.size w0 w'):=fun w0 hb=>by
  refine(ur hh qo ys dap w0 (hy.keep hb) ck).mono ?_;rintro e w' ⟨v,rfl,ho,hb2⟩;obtain⟨ho',hc,rfl,_,_⟩:=Ap.owns_shape ho;exact⟨ho',hc,rfl,lB ho,hb2⟩
 have HR:Hid (dC ⟨n,mm,kn,vn,LM,xs,hh,ys⟩=if ((plc (bitAt ys) hh).length=mm)/\(wdF n mm=0\/kn=mm)then bK n (wdF n mm) ((List.range kn).map (numAt vn xs)) (plc (bitAt ys) hh) (plc (bitAt ys) hh).length else none):=by
  show dC _=_;unfold dC;simp only[Int.toNat_natCast,List.length_map,List.length_range];by_cases c:(plc (bitAt ys) hh).length=mm/\(wdF n mm=0\/kn=mm)
  .rw[if_pos c,if_pos ⟨⟨by omega,by omega,by omega,by omega⟩,ik,ck,by omega,by omega⟩]
  .rw[if_neg c,if_neg (fun h=>c ⟨by omega,by omega⟩)]
 have RS:=iK (bitAt ys) hh;have w20:wdF n mm<=20:=gD n mm (by omega)
 have fL:aA ((List.range kn).map (numAt vn xs)):=by
  obtain⟨_,v64,_⟩:=dZ _ _ _ _ ik;exact Hh _ _ fun i=>DO vn (by omega) xs i
 have lL:((List.range kn).map (numAt vn xs)).length=kn:=by simp
 rw[HR.out]
 obtain⟨OO,hOO⟩:∃OO,Hid (OO=if ((plc (bitAt ys) hh).length=mm)/\(wdF n mm=0\/kn=mm)then bK n (wdF n mm) ((List.range kn).map (numAt vn xs)) (plc (bitAt ys) hh) (plc (bitAt ys) hh).length else none):=⟨_,rfl⟩
 rw[<-hOO.out]
 obtain⟨W,hW⟩:∃W,W=w.alloc (.cells #[.int .i64 (n:Nat),.int .i64 (mm:Nat),.int .i64 (kn:Nat),.int .i64 (vn:Nat),.int .i64 LM,.slice ao xs.length cap,.int .i64 (hh:Nat),.slice qo ys.length dap] 61):=⟨_,rfl⟩
 have bW:=aU hW;have B1:=bn hW;have i1:¬(n:Int)<0:=by omega
 have i2:¬(1048576:Int)<(n:Int):=by omega
 have i4:¬(mm:Int)<0:=by omega
 have i5:¬(n:Int)<(mm:Int):=by omega
 clear hx hy fx fy ik ck HR;generalize (List.range kn).map (numAt vn xs)=lo at *;generalize plc (bitAt ys) hh=hi at *;generalize wdF n mm=v at *;go_enter func191,ntmps191;go_wp2_with fail;rw[<-hW]
 refine mr (C1.out _ bW) fun w1 hb=>?_;have bw1:=bg bW hb;replace B1:=B1.kept hb;have q0:=B1.cell 0 rfl;have q1:=B1.cell 1 rfl;have q2:=B1.cell 2 rfl;have q3:=B1.cell 3 rfl
 have q4:=B1.cell 4 rfl;have q5:=B1.cell 5 rfl;have q6:=B1.cell 6 rfl;have q7:=B1.cell 7 rfl;clear hb hW bW C1;go_wp2_with fail;refine mr (C2.out _ bw1) fun w2 hb=>?_;have bw2:=bg bw1 hb
 replace B1:=B1.kept hb;clear hb bw1 C2 q0 q1 q2 q3 q4 q5 q6 q7;have q0:=B1.cell 0 rfl;have q1:=B1.cell 1 rfl;have q2:=B1.cell 2 rfl;have q3:=B1.cell 3 rfl;have q4:=B1.cell 4 rfl;have q5:=B1.cell 5 rfl
 have q6:=B1.cell 6 rfl;have q7:=B1.cell 7 rfl;go_wp2_with fail;refine mr (C3.out _) fun w3 hb=>?_;have bw3:=bg bw2 hb;replace B1:=B1.kept hb;clear hb bw2 C3 q0 q1 q2 q3 q4 q5 q6 q7
 have q0:=B1.cell 0 rfl;have q1:=B1.cell 1 rfl;have q2:=B1.cell 2 rfl;have q3:=B1.cell 3 rfl;have q4:=B1.cell 4 rfl;have q5:=B1.cell 5 rfl;have q6:=B1.cell 6 rfl;have q7:=B1.cell 7 rfl;go_wp2_with fail
 refine(C4.out _ bw3).mono ?_;rintro e w4 ⟨lo',lc,rfl,hLo,hb⟩;have bw4:=bg bw3 hb;replace B1:=B1.kept hb;clear hb bw3 C4 q0 q1 q2 q3 q4 q5 q6 q7;have q0:=B1.cell 0 rfl;have q1:=B1.cell 1 rfl
 have q2:=B1.cell 2 rfl;have q3:=B1.cell 3 rfl;have q4:=B1.cell 4 rfl;have q5:=B1.cell 5 rfl;have q6:=B1.cell 6 rfl;have q7:=B1.cell 7 rfl;go_wp2_with fail;refine(C5.out _ bw4).mono ?_
 rintro e w5 ⟨ho',hc,rfl,hHi,hb⟩;have bw5:=bg bw4 hb;replace B1:=B1.kept hb;replace hLo:=hLo.keep hb;clear hb bw4 C5 q0 q1 q2 q3 q4 q5 q6 q7;have q1:=B1.cell 1 rfl;by_cases e1:hi.length=mm
 .have e12:((hi.length:Int) != (mm:Int))=false:=by simp[e1]
  by_cases e2:v=0\/kn=mm
  .have HO:Hid (OO=bK n v lo hi hi.length):=by
    show OO=_;rw[hOO.out,if_pos ⟨e1,e2⟩]
   clear hOO;have z5:=bw5.size;subst e1;have vv:(v:Int)<64:=by omega
   by_cases hv0:v=0
   .have nv1:¬(0:Int)<(v:Int):=by omega
    have PV:Hid (∀q,eO v lo hi q=gt hi q-q):=fun q=>by unfold eO;rw[hv0];simp
    go_wp2
    go_loopw [7,8] (fun t i wr=>∃(q:Nat) (out:List Nat) (so:Option Addr) (sc:Nat),q<=hi.length/\i=.int .i64 q/\t=.slice so q sc/\q<=sc/\Hid (bK n v lo hi q=some out)/\wr.ownsRow w5.heap.size 3 1 (.slice so q sc) q (lv out)/\Below w5.heap.size w5 wr) (fun _ i _=>hi.length-(intOf i).toNat)
    case atStart=>exact⟨0,[],none,0,Nat.zero_le _,rfl,rfl,Nat.le_refl _,rfl,World.ownsRow_nil _ _ _ _,Below.refl _ _⟩
    case round=>
     obtain⟨q,out,so,sc,hq,rfl,rfl,hsc,HD,hown,hwr⟩:=hrel;obtain⟨lo_,hrise⟩:=mg n v lo hi q out HD.out;by_cases hlt:q<hi.length
     .have hlt2:(q:Int)<(hi.length:Int):=by omega
      obtain⟨b,off,rfl,hbl,hcel⟩:=hHi (by rw[gj];omega);have cq:=(hwr.cell (p:=⟨b,off+q,none⟩) hbl).trans (hcel q (by rw[gj];exact hlt));rw[kI]at cq;have hge:=RS.step q 0 (by omega)
      rw[Nat.zero_add]at hge;have hll:=RS.1 q hlt;obtain⟨d,hd⟩:∃d,Hid (d=gt hi q-q):=⟨_,rfl⟩;have hd2:(gt hi q:Int)-(q:Int)=(d:Int):=by rw[hd.out];omega
      have dl:d<=1048576:=by rw[hd.out];omega
      have n0:=(B1.kept hwr).cell 0 rfl;have PQ:=PV.out q;obtain⟨p,hp⟩:∃p,Hid (p=eO v lo hi q):=⟨_,rfl⟩;have hpd:p=d:=by rw[hp.out,PQ,hd.out]
      have FS:Hid (bK n v lo hi (q+1)=if n<=p\/(0<q/\p<=gt out (q-1))then none else some (out++[p])):=by
       show bK n v lo hi (q+1)=_;rw[bK,HD.out,hp.out]
      have FN:Hid (bK n v lo hi (q+1)=none->OO=none):=fun h=>by
       rw[HO.out];have:=wY n v lo hi (q+1) h (hi.length-(q+1));rwa [show q+1+(hi.length-(q+1))=hi.length by omega]at this
      have bwr:=bw5.trans (hwr.mono z5);subst hpd;clear hd PQ;by_cases a1:n<=p
      .obtain rfl:OO=none:=FN.out (by rw[FS.out,if_pos (.inl a1)]);have a12:(n:Int)<=(p:Int):=by omega
       go_wp2;go_ret2;exact(show iI none w _ _ from⟨rfl,bwr⟩)
      .have a12:¬(n:Int)<=(p:Int):=by omega
       by_cases a2:0<q
       .have a22:(0:Int)<(q:Int):=by omega
        have nd:=lB hown;obtain⟨b2,off2,rfl,hbl2,hcel2⟩:=nd (by rw[gj];omega);have co:=hcel2 (q-1) (by rw[gj];omega);rw[kI]at co
        have q11:(q:Int)-1=((q-1:Nat):Int):=by omega
        have q12:(((q-1:Nat):Nat):Int)<(q:Int):=by omega
        by_cases a3:p<=gt out (q-1)
        .obtain rfl:OO=none:=FN.out (by rw[FS.out,if_pos (.inr ⟨a2,a3⟩)]);have a32:(p:Int)<=(gt out (q-1):Int):=by omega
         go_wp2;go_ret2;exact(show iI none w _ _ from⟨rfl,bwr⟩)
        .have a32:¬(p:Int)<=(gt out (q-1):Int):=by omega
         have HD2:Hid (bK n v lo hi (q+1)=some (out++[p])):=by
          show bK n v lo hi (q+1)=_;rw[FS.out,if_neg (by omega)]
         have hq5:=hwr.size
         go_wp2_with (at_builtin;refine Ap.wpList_append_x (by rfl) _ _ _ (by rfl) w5.heap.size 3 i3 (.int .i64 0) 8 underlying25 hi3 za3 zb3 zc3 rfl (.slice (some ⟨b2,off2,none⟩) q sc) q (lv out) (by rfl) (hown.alloc _) (some ⟨wr.heap.size,0,none⟩) 1 1 [.int .i64 (p:Nat)] (by rfl) rfl ?c1_11 ?c2_11 ?c3_11 ?c4_11 ?c5_11 ?_)
         case c2_11=>first | rfl | (intro u hu;simp at hu;subst hu;rfl)
         case c3_11=>unfold maxLen;omega
         case c4_11=>omega
         case c5_11=>first | omega | (simp;omega)
         intro so2 sc2 w9 own9 hle9 hB9 hblk9 hkeep9 hsz9;rw[mQ]at own9;have hw9:Below w5.heap.size w5 w9:=(hwr.trans ((below_alloc wr _).mono hwr.size)).trans hB9;have HX:=gU own9
         clear own9 hB9 hblk9 hkeep9 hown FS FN HO hcel B1 bwr;go_wp2;exact⟨⟨q+1,out++[p],so2,sc2,by omega,by go_num,rfl,hle9,HD2,HX.out,hw9⟩,by simp only[intOf];omega⟩
       .have a22:¬(0:Int)<(q:Int):=by omega
        have HD2:Hid (bK n v lo hi (q+1)=some (out++[p])):=by
         show bK n v lo hi (q+1)=_;rw[FS.out,if_neg (by omega)]
        have hq5:=hwr.size
        go_wp2_with (at_builtin;refine Ap.wpList_append_x (by rfl) _ _ _ (by rfl) w5.heap.size 3 i3 (.int .i64 0) 8 underlying25 hi3 za3 zb3 zc3 rfl (.slice so q sc) q (lv out) (by rfl) (hown.alloc _) (some ⟨wr.heap.size,0,none⟩) 1 1 [.int .i64 (p:Nat)] (by rfl) rfl ?c1_21 ?c2_21 ?c3_21 ?c4_21 ?c5_21 ?_)
        case c2_21=>first | rfl | (intro u hu;simp at hu;subst hu;rfl)
        case c3_21=>unfold maxLen;omega
        case c4_21=>omega
        case c5_21=>first | omega | (simp;omega)
        intro so2 sc2 w9 own9 hle9 hB9 hblk9 hkeep9 hsz9;rw[mQ]at own9;have hw9:Below w5.heap.size w5 w9:=(hwr.trans ((below_alloc wr _).mono hwr.size)).trans hB9;have HX:=gU own9
        clear own9 hB9 hblk9 hkeep9 hown FS FN HO hcel B1 bwr;go_wp2;exact⟨⟨q+1,out++[p],so2,sc2,by omega,by go_num,rfl,hle9,HD2,HX.out,hw9⟩,by simp only[intOf];omega⟩
     .obtain rfl:q=hi.length:=by omega
      have HO2:OO=some out:=HO.out.trans HD.out;subst HO2;have nd:=lB hown;have bwr:=bw5.trans (hwr.mono z5);go_wp2;go_ret2;exact(show iI (some out) w _ _ from⟨so,sc,by rw[lo_];rfl,nd,by omega,bwr⟩)
   .have nv1:(0:Int)<(v:Int):=by omega
    have e4:((kn:Int) != (hi.length:Int))=false:=by simp;omega
    have hkn:kn=hi.length:=by omega
    have PV:Hid (∀q,eO v lo hi q=(gt hi q-q)*2^v+gt lo q%2^v):=fun q=>by unfold eO;rw[if_neg hv0]
    go_wp2
    go_loopw [7,8] (fun t i wr=>∃(q:Nat) (out:List Nat) (so:Option Addr) (sc:Nat),q<=hi.length/\i=.int .i64 q/\t=.slice so q sc/\q<=sc/\Hid (bK n v lo hi q=some out)/\wr.ownsRow w5.heap.size 3 1 (.slice so q sc) q (lv out)/\Below w5.heap.size w5 wr) (fun _ i _=>hi.length-(intOf i).toNat)
    case atStart=>exact⟨0,[],none,0,Nat.zero_le _,rfl,rfl,Nat.le_refl _,rfl,World.ownsRow_nil _ _ _ _,Below.refl _ _⟩
    case round=>
     obtain⟨q,out,so,sc,hq,rfl,rfl,hsc,HD,hown,hwr⟩:=hrel;obtain⟨lo_,hrise⟩:=mg n v lo hi q out HD.out;by_cases hlt:q<hi.length
     .have hlt2:(q:Int)<(hi.length:Int):=by omega
      obtain⟨b,off,rfl,hbl,hcel⟩:=hHi (by rw[gj];omega);have cq:=(hwr.cell (p:=⟨b,off+q,none⟩) hbl).trans (hcel q (by rw[gj];exact hlt));rw[kI]at cq;have hge:=RS.step q 0 (by omega)
      rw[Nat.zero_add]at hge;have hll:=RS.1 q hlt;obtain⟨d,hd⟩:∃d,Hid (d=gt hi q-q):=⟨_,rfl⟩;have hd2:(gt hi q:Int)-(q:Int)=(d:Int):=by rw[hd.out];omega
      have dl:d<=1048576:=by rw[hd.out];omega
      have n0:=(B1.kept hwr).cell 0 rfl;have PQ:=gU (PV.out q);obtain⟨p,hp⟩:∃p,Hid (p=eO v lo hi q):=⟨_,rfl⟩;obtain⟨b3,off3,rfl,hbl3,hcel3⟩:=hLo (by omega)
      have cl:=(hwr.cell (p:=⟨b3,off3+q,none⟩) hbl3).trans (hcel3 q (by omega));have xl:=fL q;obtain⟨x,hx⟩:∃x,Hid (x=gt lo q):=⟨_,rfl⟩;rw[<-hx.out]at cl xl
      obtain⟨P2,hP2⟩:∃P2:Nat,Hid ((2:Nat)^v=P2):=⟨2^v,(rfl:(2:Nat)^v=2^v)⟩;have p20:P2<=1048576:=by rw[<-hP2.out];exact Nat.pow_le_pow_right (show 0<2 by decide) w20
      have p00:0<P2:=by rw[<-hP2.out];exact Nat.two_pow_pos v
      have pw:IntKind.u64.wrap ((2:Int)^v)=(P2:Int):=by rw[Bit.shl_one v (by omega),hP2.out]
      have p0:((P2:Int)==0)=false:=by simp;omega
      obtain⟨y,hy_⟩:∃y,Hid (y=x%P2):=⟨_,rfl⟩;have yl:y<1048576:=by rw[hy_.out];exact Nat.lt_of_lt_of_le (Nat.mod_lt _ p00) p20
      have ym:(x:Int)%(P2:Int)=(y:Int):=by rw[hy_.out];omega
      have yt:(x:Int).tmod (P2:Int)=(y:Int):=by rw[Int.tmod_eq_emod_of_nonneg (by omega)];exact ym
      obtain⟨DD,hDD⟩:∃DD,Hid (DD=d*P2):=⟨_,rfl⟩;have dl2:DD<=1099511627776:=by rw[hDD.out];exact Nat.le_trans (Nat.mul_le_mul dl p20) (by decide)
      have dw:(d:Int)*2^v=(DD:Int):=by rw[hDD.out,<-hP2.out,Int.natCast_mul,Int.natCast_pow];rfl
      have hpn:Hid (p=DD+y):=by
       show p=DD+y;rw[hDD.out,hy_.out,hp.out,PQ.out,hP2.out,hd.out,hx.out]
      have hps:=yW DD y p hpn.out;have pl2:=Fz DD y p hpn.out dl2 yl;clear hcel3
      have FS:Hid (bK n v lo hi (q+1)=if n<=p\/(0<q/\p<=gt out (q-1))then none else some (out++[p])):=by
       show bK n v lo hi (q+1)=_;rw[bK,HD.out,hp.out]
      have FN:Hid (bK n v lo hi (q+1)=none->OO=none):=fun h=>by
       rw[HO.out];have:=wY n v lo hi (q+1) h (hi.length-(q+1));rwa [show q+1+(hi.length-(q+1))=hi.length by omega]at this
      have bwr:=bw5.trans (hwr.mono z5);clear hd PQ;by_cases a1:n<=p
      .obtain rfl:OO=none:=FN.out (by rw[FS.out,if_pos (.inl a1)]);have a12:(n:Int)<=(p:Int):=by omega
       go_wp2;go_ret2;exact(show iI none w _ _ from⟨rfl,bwr⟩)
      .have a12:¬(n:Int)<=(p:Int):=by omega
       by_cases a2:0<q
       .have a22:(0:Int)<(q:Int):=by omega
        have nd:=lB hown;obtain⟨b2,off2,rfl,hbl2,hcel2⟩:=nd (by rw[gj];omega);have co:=hcel2 (q-1) (by rw[gj];omega);rw[kI]at co
        have q11:(q:Int)-1=((q-1:Nat):Int):=by omega
        have q12:(((q-1:Nat):Nat):Int)<(q:Int):=by omega
        by_cases a3:p<=gt out (q-1)
        .obtain rfl:OO=none:=FN.out (by rw[FS.out,if_pos (.inr ⟨a2,a3⟩)]);have a32:(p:Int)<=(gt out (q-1):Int):=by omega
         go_wp2;go_ret2;exact(show iI none w _ _ from⟨rfl,bwr⟩)
        .have a32:¬(p:Int)<=(gt out (q-1):Int):=by omega
         have HD2:Hid (bK n v lo hi (q+1)=some (out++[p])):=by
          show bK n v lo hi (q+1)=_;rw[FS.out,if_neg (by omega)]
         have hq5:=hwr.size
         go_wp2_with (at_builtin;refine Ap.wpList_append_x (by rfl) _ _ _ (by rfl) w5.heap.size 3 i3 (.int .i64 0) 8 underlying25 hi3 za3 zb3 zc3 rfl (.slice (some ⟨b2,off2,none⟩) q sc) q (lv out) (by rfl) (hown.alloc _) (some ⟨wr.heap.size,0,none⟩) 1 1 [.int .i64 (p:Nat)] (by rfl) rfl ?c1_11v ?c2_11v ?c3_11v ?c4_11v ?c5_11v ?_)
         case c2_11v=>first | rfl | (intro u hu;simp at hu;subst hu;rfl)
         case c3_11v=>unfold maxLen;omega
         case c4_11v=>omega
         case c5_11v=>first | omega | (simp;omega)
         intro so2 sc2 w9 own9 hle9 hB9 hblk9 hkeep9 hsz9;rw[mQ]at own9;have hw9:Below w5.heap.size w5 w9:=(hwr.trans ((below_alloc wr _).mono hwr.size)).trans hB9;have HX:=gU own9
         clear own9 hB9 hblk9 hkeep9 hown FS FN HO hcel B1 bwr;go_wp2;exact⟨⟨q+1,out++[p],so2,sc2,by omega,by go_num,rfl,hle9,HD2,HX.out,hw9⟩,by simp only[intOf];omega⟩
       .have a22:¬(0:Int)<(q:Int):=by omega
        have HD2:Hid (bK n v lo hi (q+1)=some (out++[p])):=by
         show bK n v lo hi (q+1)=_;rw[FS.out,if_neg (by omega)]
        have hq5:=hwr.size
        go_wp2_with (at_builtin;refine Ap.wpList_append_x (by rfl) _ _ _ (by rfl) w5.heap.size 3 i3 (.int .i64 0) 8 underlying25 hi3 za3 zb3 zc3 rfl (.slice so q sc) q (lv out) (by rfl) (hown.alloc _) (some ⟨wr.heap.size,0,none⟩) 1 1 [.int .i64 (p:Nat)] (by rfl) rfl ?c1_21v ?c2_21v ?c3_21v ?c4_21v ?c5_21v ?_)
        case c2_21v=>first | rfl | (intro u hu;simp at hu;subst hu;rfl)
        case c3_21v=>unfold maxLen;omega
        case c4_21v=>omega
        case c5_21v=>first | omega | (simp;omega)
        intro so2 sc2 w9 own9 hle9 hB9 hblk9 hkeep9 hsz9;rw[mQ]at own9;have hw9:Below w5.heap.size w5 w9:=(hwr.trans ((below_alloc wr _).mono hwr.size)).trans hB9;have HX:=gU own9
        clear own9 hB9 hblk9 hkeep9 hown FS FN HO hcel B1 bwr;go_wp2;exact⟨⟨q+1,out++[p],so2,sc2,by omega,by go_num,rfl,hle9,HD2,HX.out,hw9⟩,by simp only[intOf];omega⟩
     .obtain rfl:q=hi.length:=by omega
      have HO2:OO=some out:=HO.out.trans HD.out;subst HO2;have nd:=lB hown;have bwr:=bw5.trans (hwr.mono z5);go_wp2;go_ret2;exact(show iI (some out) w _ _ from⟨so,sc,by rw[lo_];rfl,nd,by omega,bwr⟩)
  .obtain rfl:OO=none:=by rw[hOO.out,if_neg (fun c=>e2 c.2)]
   have e3:(0:Int)<(v:Int):=by omega
   have e4:((kn:Int) != (mm:Int))=true:=by simp;omega
   clear hOO;go_wp2;go_ret2;exact(show iI none w _ _ from⟨rfl,bw5⟩)
 .obtain rfl:OO=none:=by rw[hOO.out,if_neg (fun c=>e1 c.1)]
  have e12:((hi.length:Int) != (mm:Int))=true:=by simp;omega
  clear hOO;go_wp2;go_ret2;exact(show iI none w _ _ from⟨rfl,bw5⟩)
end Go.Proofs.YtleegaihbgbcjabGreatDoor
