import Derived.Test.YtleegaihbgbcjabGreatDoorM24
set_option linter.unusedVariables false
set_option linter.unusedSimpArgs false
set_option maxRecDepth 100000
set_option maxHeartbeats 16000000
namespace Go.Proofs.YtleegaihbgbcjabGreatDoor
open Go.RowKit Num Bit
theorem nd_apartK{w:World}{ao:Option Addr}{l:List Int}{g:Nat}{b:List Nat}(h:Nd w ao l)(hc:Cel w g (vK .u8 b) 5)(h0:0<l.length):∀a,ao=some a→a.block≠g:=fun a ha e=>by
 obtain⟨k,off,e1,_,hcc⟩:=h h0;rw[e1]at ha;cases ha;have h1:=hcc 0 h0;dsimp only at e;subst e;rw[Nat.add_zero]at h1;unfold World.cell? at h1
 rw[show w.heap[({ block:=k,off:=off,spot:=none }:Addr).block]?=_ from hc]at h1;simp only[List.getElem?_toArray]at h1;unfold vK at h1;rw[List.getElem?_map]at h1;cases h2:b[off]? with
 | none=>rw[h2]at h1;simp at h1
 | some y=>rw[h2]at h1;simp at h1
theorem nd_bytK{w w':World}{ao:Option Addr}{l:List Int}{g:Nat}{b:List Nat}(h:Nd w ao l)(hc:Cel w g (vK .u8 b) 5)(hO:Only g w w'):Nd w' ao l:=hO.nd2 h fun h0=>nd_apartK h hc h0
theorem bd_vK{w:World}{g:Nat}{t:List Nat}(h:Cel w g (vK .u8 t) 5):Bd w (some ⟨g,0,none⟩) t:=fun _=>⟨g,0,rfl,h.lt,fun i hi=>by
 rw[Nat.zero_add]
 exact h.cell i (vK_get _ t i hi)⟩
theorem nd_own_m{w:World}{base n c:Nat}{ao:Option Addr}{l:List Nat}(h:w.ownsRow base 3 1 (.slice ao n c) n (vK .i64 l))(hn:n=l.length):Nd w ao (mI l):=fun h0=>by
 have h':=h;obtain⟨_,⟨e,h1⟩ | ⟨g,cap,cur,e,e2,hh,_⟩⟩:=h
 ·injection e with e1 e2 e3
  rw[len_mI]at h0;omega
 ·simp only[Value.slice.injEq]at e;obtain⟨rfl,_,rfl⟩:=e;refine⟨g,0,rfl,(Array.getElem?_eq_some_iff.1 hh).1,fun i hi=>?_⟩;rw[len_mI]at hi;rw[Nat.zero_add,gi_mI l i hi]
  exact(Ag.owns_cells h').2 i _ (vK_get _ l i hi)
def QT(w1:World)(n:Nat)(v3 v4:Value)(wx:World):Prop:=∃g3 gx gp,v3=.pointer (some ⟨g3,0,none⟩)∧v4=.slice (some ⟨gp,0,none⟩) n n∧(w1.heap.size≤g3∧w1.heap.size≤gx∧w1.heap.size≤gp∧g3≠gx∧g3≠gp∧gx≠gp)∧Cel wx g3 [.slice (some ⟨gx,0,none⟩) n n] 22∧Cel wx gx (vK .u8 (List.replicate n 0)) 5∧Cel wx gp (vK .i64 (List.range n)) 3∧Below w1.heap.size w1 wx
theorem mtext_c(cs:List Value)(k:Int)(t:List Nat)(w:World)(h:MX w cs k t):
  Calls Tryz.prog 22 #[.agg cs.toArray] w fun e w'=>∃ao cap,e=.returned (.slice ao t.length cap)∧Bd w' ao t∧Below w.heap.size w w':=by
 have hB:=h.by_;obtain⟨i0,hi,hz0,hz1,hz2⟩:=info_parts info_u8m;have HMX:=hide h;have hkn:=h.kn;have hle:=h.le;obtain⟨⟨lo,lc,zo,zc,rfl,_,_⟩,_,_,_,_⟩:=h
 obtain⟨W,hW⟩:∃W,W=w.alloc (.cells #[.int .i64 k,.int .i64 (t.length:Int),.slice lo 8 lc,.slice zo 8 zc] 27):=⟨_,rfl⟩;have bW:=yb1 hW
 have B1:=hide (show Cel W w.heap.size [.int .i64 k,.int .i64 (t.length:Int),.slice lo 8 lc,.slice zo 8 zc] 27 by rw[hW];exact Cel.new w _ _);have HB:=hide bW;have HM1:=hide (HMX.out.keep bW);clear bW HMX
 have C0:=hide (HM1.out.check);obtain⟨n,hnn⟩:∃n,Hid (n=t.length):=⟨_,rfl⟩;have hn2:n≤3000:=by rw[hnn.out];exact hle
 rw[←hnn.out]at C0 B1 HM1 hW⊢;go_enter Tryz.func22,Tryz.ntmps22;go_wp2_with fail;rw[←hW];refine C0.out.mono ?_;rintro e w1 ⟨rfl,hb⟩;have K1:=hide (B1.out.kept hb);have HM:=hide (HM1.out.keep hb)
 have HBa:=hide (HB.out.trans (hb.mono HB.out.size));have l1:=K1.out.lt;clear hb C0 B1 HM1 HB hW;go_upto_region 3 with fail
 go_cut [3,4] (fun v3 v4 wx=>QT w1 n v3 v4 wx)
 case first=>
  refine region_g [] (fun w'=>Cel w' w.heap.size [.int .i64 k,.int .i64 (n:Int),.slice lo 8 lc,.slice zo 8 zc] 27) (by kernel_rfl) ?_
  have hSY:=K1.out.drew;have HBc:=hide ((Below.refl w1.heap.size w1).drew);have sY:w1.heap.size≤w1.drew.heap.size:=Nat.le_refl _;clear HM HBa;generalize w1.drew=Y at *;refine AnyG.tk 0 hSY ?_
  refine AnyG.tf 1 hSY rfl (fun w0 h0=>by have y1:=h0.cell 1 rfl;go_simp;try with_reducible rfl) ?_;refine AnyG.tk 3 hSY ?_
  refine AnyG.tf 4 hSY rfl (fun w0 h0=>by have y1:=h0.cell 1 rfl;go_simp;try with_reducible rfl) ?_;refine AnyG.threeM 2 5 6 (by kernel_rfl) rfl rfl rfl ?_ ?_ ?_
  ·intro K hK;refine step_make Y.heap.size 5 i0 (.int .u8 0) 1 Tryz.underlying22 hi hz0 hz1 n rfl rfl (by rw[hz2];omega) (by unfold maxLen;omega) (Nat.le_refl _) ?_;intro YM hown hgr
   have CM:=hide (cel_madeK (k:=.u8) (n:=n) (by rw[Nat.mul_one]at hown;exact hown));have bYM:Below Y.heap.size Y YM:=(Below.refl _ _).grown hgr (Nat.le_refl _) (fun k h=>by cases h);clear hown hgr
   have hSYM:Cel YM w.heap.size [.int .i64 k,.int .i64 (n:Int),.slice lo 8 lc,.slice zo 8 zc] 27:=hSY.kept bYM;refine hK.out _ _ (fun _=>hSYM) ?_;clear hK K;try simp only[Act.put,yq0,yq1,yq2,yq3,yq4,yq5]
   replace HBc:=hide (HBc.out.trans (bYM.mono HBc.out.size));have sYM:=CM.out.lt;clear bYM hSY;obtain⟨gM,hgM⟩:∃g,Hid (g=Y.heap.size):=⟨_,rfl⟩;rw[←hgM.out]at CM sYM⊢
   have loM:Y.heap.size≤gM:=by rw[hgM.out];exact Nat.le_refl _
   clear hgM;refine AnyG.two 5 6 (by kernel_rfl) rfl rfl ?_ ?_
   ·intro K hK;go_simp;refine(mplaces_c n YM (by omega)).mono ?_;rintro e YMP ⟨gP,rfl,hcp,loP,bYMP⟩;have CP:=hide hcp;clear hcp
    have hSYMP:Cel YMP w.heap.size [.int .i64 k,.int .i64 (n:Int),.slice lo 8 lc,.slice zo 8 zc] 27:=hSYM.kept bYMP;refine hK.out _ _ (fun _=>hSYMP) ?_;clear hK K;try simp only[Act.put,yq0,yq1,yq2,yq3,yq4,yq5]
    replace CM:=hide (CM.out.kept bYMP);replace HBc:=hide (HBc.out.trans (bYMP.mono HBc.out.size));have sYMP:=CP.out.lt;clear bYMP hSYM;refine AnyG.o1 6 ?_;intro K hK;go_simp
    obtain⟨YMPX,hYMPX⟩:∃YMPX,YMPX=YMP.alloc (.cells #[.slice none 0 0] 22):=⟨_,rfl⟩;have bYMPX:Below YMP.heap.size YMP YMPX:=by rw[hYMPX];exact below_alloc _ _
    have CX:=hide (show Cel YMPX YMP.heap.size [.slice none 0 0] 22 by rw[hYMPX];exact Cel.new _ _ _)
    have hSYMPX:Cel YMPX w.heap.size [.int .i64 k,.int .i64 (n:Int),.slice lo 8 lc,.slice zo 8 zc] 27:=hSYMP.kept bYMPX;rw[←hYMPX];clear hYMPX;refine hK.out _ _ (fun _=>hSYMPX) ?_;clear hK K
    try simp only[Act.put,yq0,yq1,yq2,yq3,yq4,yq5]
    replace CM:=hide (CM.out.kept bYMPX);replace CP:=hide (CP.out.kept bYMPX);replace HBc:=hide (HBc.out.trans (bYMPX.mono HBc.out.size));have sYMPX:=CX.out.lt;clear bYMPX hSYMP
    obtain⟨gX,hgX⟩:∃g,Hid (g=YMP.heap.size):=⟨_,rfl⟩;rw[←hgX.out]at CX sYMPX⊢;have loX:YMP.heap.size≤gX:=by rw[hgX.out];exact Nat.le_refl _
    clear hgX;refine AnyG.o1 7 ?_;intro K hK;have x0:=CX.out.cell 0 rfl;have x1:=CX.out.frozen 0;go_simp;have oE:Only gX YMPX (YMPX.setCell ⟨gX,0,none⟩ (.slice (some ⟨gM,0,none⟩) n n)):=(Only.refl _ _).set 0 _
    have CE:=CX.out.set 0 (.slice (some ⟨gM,0,none⟩) n n);simp only[List.set_cons_zero]at CE
    have hS:Cel (YMPX.setCell ⟨gX,0,none⟩ (.slice (some ⟨gM,0,none⟩) n n)) w.heap.size [.int .i64 k,.int .i64 (n:Int),.slice lo 8 lc,.slice zo 8 zc] 27:=oE.cel hSYMPX (by omega)
    have hQ:Hid (QT w1 n (.pointer (some ⟨gX,0,none⟩)) (.slice (some ⟨gP,0,none⟩) n n) (YMPX.setCell ⟨gX,0,none⟩ (.slice (some ⟨gM,0,none⟩) n n))):=⟨gX,gM,gP,rfl,rfl,⟨by omega,by omega,by omega,by omega,by omega,by omega⟩,CE,oE.cel CM.out (by omega),oE.cel CP.out (by omega),HBc.out.trans (oE.below (by omega))⟩
    clear CE oE CX CM CP HBc x0 x1 hSYMPX;generalize YMPX.setCell ⟨gX,0,none⟩ (.slice (some ⟨gM,0,none⟩) n n)=YE at *;refine hK.out _ _ (fun _=>hS) ?_;clear hK K;try simp only[Act.put,yq0,yq1,yq2,yq3,yq4,yq5]
    refine AnyG.tk 8 hS ?_;refine AnyG.done (by kernel_rfl) ?_ _;clear hS;go_wp2_with fail;go_meet;exact hQ.out
   ·intro K hK;go_simp;obtain⟨YMX,hYMX⟩:∃YMX,YMX=YM.alloc (.cells #[.slice none 0 0] 22):=⟨_,rfl⟩;have bYMX:Below YM.heap.size YM YMX:=by rw[hYMX];exact below_alloc _ _
    have CX:=hide (show Cel YMX YM.heap.size [.slice none 0 0] 22 by rw[hYMX];exact Cel.new _ _ _);have hSYMX:Cel YMX w.heap.size [.int .i64 k,.int .i64 (n:Int),.slice lo 8 lc,.slice zo 8 zc] 27:=hSYM.kept bYMX
    rw[←hYMX];clear hYMX;refine hK.out _ _ (fun _=>hSYMX) ?_;clear hK K;try simp only[Act.put,yq0,yq1,yq2,yq3,yq4,yq5]
    replace CM:=hide (CM.out.kept bYMX);replace HBc:=hide (HBc.out.trans (bYMX.mono HBc.out.size));have sYMX:=CX.out.lt;clear bYMX hSYM;obtain⟨gX,hgX⟩:∃g,Hid (g=YM.heap.size):=⟨_,rfl⟩
    rw[←hgX.out]at CX sYMX⊢;have loX:YM.heap.size≤gX:=by rw[hgX.out];exact Nat.le_refl _
    clear hgX;refine AnyG.o1 5 ?_;intro K hK;go_simp;refine(mplaces_c n YMX (by omega)).mono ?_;rintro e YMXP ⟨gP,rfl,hcp,loP,bYMXP⟩;have CP:=hide hcp;clear hcp
    have hSYMXP:Cel YMXP w.heap.size [.int .i64 k,.int .i64 (n:Int),.slice lo 8 lc,.slice zo 8 zc] 27:=hSYMX.kept bYMXP;refine hK.out _ _ (fun _=>hSYMXP) ?_;clear hK K
    try simp only[Act.put,yq0,yq1,yq2,yq3,yq4,yq5]
    replace CM:=hide (CM.out.kept bYMXP);replace CX:=hide (CX.out.kept bYMXP);replace HBc:=hide (HBc.out.trans (bYMXP.mono HBc.out.size));have sYMXP:=CP.out.lt;clear bYMXP hSYMX;refine AnyG.o1 7 ?_;intro K hK
    have x0:=CX.out.cell 0 rfl;have x1:=CX.out.frozen 0;go_simp;have oE:Only gX YMXP (YMXP.setCell ⟨gX,0,none⟩ (.slice (some ⟨gM,0,none⟩) n n)):=(Only.refl _ _).set 0 _
    have CE:=CX.out.set 0 (.slice (some ⟨gM,0,none⟩) n n);simp only[List.set_cons_zero]at CE
    have hS:Cel (YMXP.setCell ⟨gX,0,none⟩ (.slice (some ⟨gM,0,none⟩) n n)) w.heap.size [.int .i64 k,.int .i64 (n:Int),.slice lo 8 lc,.slice zo 8 zc] 27:=oE.cel hSYMXP (by omega)
    have hQ:Hid (QT w1 n (.pointer (some ⟨gX,0,none⟩)) (.slice (some ⟨gP,0,none⟩) n n) (YMXP.setCell ⟨gX,0,none⟩ (.slice (some ⟨gM,0,none⟩) n n))):=⟨gX,gM,gP,rfl,rfl,⟨by omega,by omega,by omega,by omega,by omega,by omega⟩,CE,oE.cel CM.out (by omega),oE.cel CP.out (by omega),HBc.out.trans (oE.below (by omega))⟩
    clear CE oE CX CM CP HBc x0 x1 hSYMXP;generalize YMXP.setCell ⟨gX,0,none⟩ (.slice (some ⟨gM,0,none⟩) n n)=YE at *;refine hK.out _ _ (fun _=>hS) ?_;clear hK K;try simp only[Act.put,yq0,yq1,yq2,yq3,yq4,yq5]
    refine AnyG.tk 8 hS ?_;refine AnyG.done (by kernel_rfl) ?_ _;clear hS;go_wp2_with fail;go_meet;exact hQ.out
  ·intro K hK;go_simp;refine(mplaces_c n Y (by omega)).mono ?_;rintro e YP ⟨gP,rfl,hcp,loP,bYP⟩;have CP:=hide hcp;clear hcp
   have hSYP:Cel YP w.heap.size [.int .i64 k,.int .i64 (n:Int),.slice lo 8 lc,.slice zo 8 zc] 27:=hSY.kept bYP;refine hK.out _ _ (fun _=>hSYP) ?_;clear hK K;try simp only[Act.put,yq0,yq1,yq2,yq3,yq4,yq5]
   replace HBc:=hide (HBc.out.trans (bYP.mono HBc.out.size));have sYP:=CP.out.lt;clear bYP hSY;refine AnyG.two 2 6 (by kernel_rfl) rfl rfl ?_ ?_
   ·intro K hK;refine step_make YP.heap.size 5 i0 (.int .u8 0) 1 Tryz.underlying22 hi hz0 hz1 n rfl rfl (by rw[hz2];omega) (by unfold maxLen;omega) (Nat.le_refl _) ?_;intro YPM hown hgr
    have CM:=hide (cel_madeK (k:=.u8) (n:=n) (by rw[Nat.mul_one]at hown;exact hown));have bYPM:Below YP.heap.size YP YPM:=(Below.refl _ _).grown hgr (Nat.le_refl _) (fun k h=>by cases h);clear hown hgr
    have hSYPM:Cel YPM w.heap.size [.int .i64 k,.int .i64 (n:Int),.slice lo 8 lc,.slice zo 8 zc] 27:=hSYP.kept bYPM;refine hK.out _ _ (fun _=>hSYPM) ?_;clear hK K;try simp only[Act.put,yq0,yq1,yq2,yq3,yq4,yq5]
    replace CP:=hide (CP.out.kept bYPM);replace HBc:=hide (HBc.out.trans (bYPM.mono HBc.out.size));have sYPM:=CM.out.lt;clear bYPM hSYP;obtain⟨gM,hgM⟩:∃g,Hid (g=YP.heap.size):=⟨_,rfl⟩
    rw[←hgM.out]at CM sYPM⊢;have loM:YP.heap.size≤gM:=by rw[hgM.out];exact Nat.le_refl _
    clear hgM;refine AnyG.o1 6 ?_;intro K hK;go_simp;obtain⟨YPMX,hYPMX⟩:∃YPMX,YPMX=YPM.alloc (.cells #[.slice none 0 0] 22):=⟨_,rfl⟩;have bYPMX:Below YPM.heap.size YPM YPMX:=by rw[hYPMX];exact below_alloc _ _
    have CX:=hide (show Cel YPMX YPM.heap.size [.slice none 0 0] 22 by rw[hYPMX];exact Cel.new _ _ _)
    have hSYPMX:Cel YPMX w.heap.size [.int .i64 k,.int .i64 (n:Int),.slice lo 8 lc,.slice zo 8 zc] 27:=hSYPM.kept bYPMX;rw[←hYPMX];clear hYPMX;refine hK.out _ _ (fun _=>hSYPMX) ?_;clear hK K
    try simp only[Act.put,yq0,yq1,yq2,yq3,yq4,yq5]
    replace CP:=hide (CP.out.kept bYPMX);replace CM:=hide (CM.out.kept bYPMX);replace HBc:=hide (HBc.out.trans (bYPMX.mono HBc.out.size));have sYPMX:=CX.out.lt;clear bYPMX hSYPM
    obtain⟨gX,hgX⟩:∃g,Hid (g=YPM.heap.size):=⟨_,rfl⟩;rw[←hgX.out]at CX sYPMX⊢;have loX:YPM.heap.size≤gX:=by rw[hgX.out];exact Nat.le_refl _
    clear hgX;refine AnyG.o1 7 ?_;intro K hK;have x0:=CX.out.cell 0 rfl;have x1:=CX.out.frozen 0;go_simp;have oE:Only gX YPMX (YPMX.setCell ⟨gX,0,none⟩ (.slice (some ⟨gM,0,none⟩) n n)):=(Only.refl _ _).set 0 _
    have CE:=CX.out.set 0 (.slice (some ⟨gM,0,none⟩) n n);simp only[List.set_cons_zero]at CE
    have hS:Cel (YPMX.setCell ⟨gX,0,none⟩ (.slice (some ⟨gM,0,none⟩) n n)) w.heap.size [.int .i64 k,.int .i64 (n:Int),.slice lo 8 lc,.slice zo 8 zc] 27:=oE.cel hSYPMX (by omega)
    have hQ:Hid (QT w1 n (.pointer (some ⟨gX,0,none⟩)) (.slice (some ⟨gP,0,none⟩) n n) (YPMX.setCell ⟨gX,0,none⟩ (.slice (some ⟨gM,0,none⟩) n n))):=⟨gX,gM,gP,rfl,rfl,⟨by omega,by omega,by omega,by omega,by omega,by omega⟩,CE,oE.cel CM.out (by omega),oE.cel CP.out (by omega),HBc.out.trans (oE.below (by omega))⟩
    clear CE oE CX CM CP HBc x0 x1 hSYPMX;generalize YPMX.setCell ⟨gX,0,none⟩ (.slice (some ⟨gM,0,none⟩) n n)=YE at *;refine hK.out _ _ (fun _=>hS) ?_;clear hK K;try simp only[Act.put,yq0,yq1,yq2,yq3,yq4,yq5]
    refine AnyG.tk 8 hS ?_;refine AnyG.done (by kernel_rfl) ?_ _;clear hS;go_wp2_with fail;go_meet;exact hQ.out
   ·intro K hK;go_simp;obtain⟨YPX,hYPX⟩:∃YPX,YPX=YP.alloc (.cells #[.slice none 0 0] 22):=⟨_,rfl⟩;have bYPX:Below YP.heap.size YP YPX:=by rw[hYPX];exact below_alloc _ _
    have CX:=hide (show Cel YPX YP.heap.size [.slice none 0 0] 22 by rw[hYPX];exact Cel.new _ _ _);have hSYPX:Cel YPX w.heap.size [.int .i64 k,.int .i64 (n:Int),.slice lo 8 lc,.slice zo 8 zc] 27:=hSYP.kept bYPX
    rw[←hYPX];clear hYPX;refine hK.out _ _ (fun _=>hSYPX) ?_;clear hK K;try simp only[Act.put,yq0,yq1,yq2,yq3,yq4,yq5]
    replace CP:=hide (CP.out.kept bYPX);replace HBc:=hide (HBc.out.trans (bYPX.mono HBc.out.size));have sYPX:=CX.out.lt;clear bYPX hSYP;obtain⟨gX,hgX⟩:∃g,Hid (g=YP.heap.size):=⟨_,rfl⟩
    rw[←hgX.out]at CX sYPX⊢;have loX:YP.heap.size≤gX:=by rw[hgX.out];exact Nat.le_refl _
    clear hgX;refine AnyG.o1 2 ?_;intro K hK;refine step_make YPX.heap.size 5 i0 (.int .u8 0) 1 Tryz.underlying22 hi hz0 hz1 n rfl rfl (by rw[hz2];omega) (by unfold maxLen;omega) (Nat.le_refl _) ?_;intro YPXM hown hgr
    have CM:=hide (cel_madeK (k:=.u8) (n:=n) (by rw[Nat.mul_one]at hown;exact hown));have bYPXM:Below YPX.heap.size YPX YPXM:=(Below.refl _ _).grown hgr (Nat.le_refl _) (fun k h=>by cases h);clear hown hgr
    have hSYPXM:Cel YPXM w.heap.size [.int .i64 k,.int .i64 (n:Int),.slice lo 8 lc,.slice zo 8 zc] 27:=hSYPX.kept bYPXM;refine hK.out _ _ (fun _=>hSYPXM) ?_;clear hK K
    try simp only[Act.put,yq0,yq1,yq2,yq3,yq4,yq5]
    replace CP:=hide (CP.out.kept bYPXM);replace CX:=hide (CX.out.kept bYPXM);replace HBc:=hide (HBc.out.trans (bYPXM.mono HBc.out.size));have sYPXM:=CM.out.lt;clear bYPXM hSYPX
    obtain⟨gM,hgM⟩:∃g,Hid (g=YPX.heap.size):=⟨_,rfl⟩;rw[←hgM.out]at CM sYPXM⊢;have loM:YPX.heap.size≤gM:=by rw[hgM.out];exact Nat.le_refl _
    clear hgM;refine AnyG.o1 7 ?_;intro K hK;have x0:=CX.out.cell 0 rfl;have x1:=CX.out.frozen 0;go_simp;have oE:Only gX YPXM (YPXM.setCell ⟨gX,0,none⟩ (.slice (some ⟨gM,0,none⟩) n n)):=(Only.refl _ _).set 0 _
    have CE:=CX.out.set 0 (.slice (some ⟨gM,0,none⟩) n n);simp only[List.set_cons_zero]at CE
    have hS:Cel (YPXM.setCell ⟨gX,0,none⟩ (.slice (some ⟨gM,0,none⟩) n n)) w.heap.size [.int .i64 k,.int .i64 (n:Int),.slice lo 8 lc,.slice zo 8 zc] 27:=oE.cel hSYPXM (by omega)
    have hQ:Hid (QT w1 n (.pointer (some ⟨gX,0,none⟩)) (.slice (some ⟨gP,0,none⟩) n n) (YPXM.setCell ⟨gX,0,none⟩ (.slice (some ⟨gM,0,none⟩) n n))):=⟨gX,gM,gP,rfl,rfl,⟨by omega,by omega,by omega,by omega,by omega,by omega⟩,CE,oE.cel CM.out (by omega),oE.cel CP.out (by omega),HBc.out.trans (oE.below (by omega))⟩
    clear CE oE CX CM CP HBc x0 x1 hSYPXM;generalize YPXM.setCell ⟨gX,0,none⟩ (.slice (some ⟨gM,0,none⟩) n n)=YE at *;refine hK.out _ _ (fun _=>hS) ?_;clear hK K;try simp only[Act.put,yq0,yq1,yq2,yq3,yq4,yq5]
    refine AnyG.tk 8 hS ?_;refine AnyG.done (by kernel_rfl) ?_ _;clear hS;go_wp2_with fail;go_meet;exact hQ.out
  ·intro K hK;go_simp;obtain⟨YX,hYX⟩:∃YX,YX=Y.alloc (.cells #[.slice none 0 0] 22):=⟨_,rfl⟩;have bYX:Below Y.heap.size Y YX:=by rw[hYX];exact below_alloc _ _
   have CX:=hide (show Cel YX Y.heap.size [.slice none 0 0] 22 by rw[hYX];exact Cel.new _ _ _);have hSYX:Cel YX w.heap.size [.int .i64 k,.int .i64 (n:Int),.slice lo 8 lc,.slice zo 8 zc] 27:=hSY.kept bYX;rw[←hYX]
   clear hYX;refine hK.out _ _ (fun _=>hSYX) ?_;clear hK K;try simp only[Act.put,yq0,yq1,yq2,yq3,yq4,yq5]
   replace HBc:=hide (HBc.out.trans (bYX.mono HBc.out.size));have sYX:=CX.out.lt;clear bYX hSY;obtain⟨gX,hgX⟩:∃g,Hid (g=Y.heap.size):=⟨_,rfl⟩;rw[←hgX.out]at CX sYX⊢
   have loX:Y.heap.size≤gX:=by rw[hgX.out];exact Nat.le_refl _
   clear hgX;refine AnyG.two 2 5 (by kernel_rfl) rfl rfl ?_ ?_
   ·intro K hK;refine step_make YX.heap.size 5 i0 (.int .u8 0) 1 Tryz.underlying22 hi hz0 hz1 n rfl rfl (by rw[hz2];omega) (by unfold maxLen;omega) (Nat.le_refl _) ?_;intro YXM hown hgr
    have CM:=hide (cel_madeK (k:=.u8) (n:=n) (by rw[Nat.mul_one]at hown;exact hown));have bYXM:Below YX.heap.size YX YXM:=(Below.refl _ _).grown hgr (Nat.le_refl _) (fun k h=>by cases h);clear hown hgr
    have hSYXM:Cel YXM w.heap.size [.int .i64 k,.int .i64 (n:Int),.slice lo 8 lc,.slice zo 8 zc] 27:=hSYX.kept bYXM;refine hK.out _ _ (fun _=>hSYXM) ?_;clear hK K;try simp only[Act.put,yq0,yq1,yq2,yq3,yq4,yq5]
    replace CX:=hide (CX.out.kept bYXM);replace HBc:=hide (HBc.out.trans (bYXM.mono HBc.out.size));have sYXM:=CM.out.lt;clear bYXM hSYX;obtain⟨gM,hgM⟩:∃g,Hid (g=YX.heap.size):=⟨_,rfl⟩
    rw[←hgM.out]at CM sYXM⊢;have loM:YX.heap.size≤gM:=by rw[hgM.out];exact Nat.le_refl _
    clear hgM;refine AnyG.o1 5 ?_;intro K hK;go_simp;refine(mplaces_c n YXM (by omega)).mono ?_;rintro e YXMP ⟨gP,rfl,hcp,loP,bYXMP⟩;have CP:=hide hcp;clear hcp
    have hSYXMP:Cel YXMP w.heap.size [.int .i64 k,.int .i64 (n:Int),.slice lo 8 lc,.slice zo 8 zc] 27:=hSYXM.kept bYXMP;refine hK.out _ _ (fun _=>hSYXMP) ?_;clear hK K
    try simp only[Act.put,yq0,yq1,yq2,yq3,yq4,yq5]
    replace CX:=hide (CX.out.kept bYXMP);replace CM:=hide (CM.out.kept bYXMP);replace HBc:=hide (HBc.out.trans (bYXMP.mono HBc.out.size));have sYXMP:=CP.out.lt;clear bYXMP hSYXM;refine AnyG.o1 7 ?_;intro K hK
    have x0:=CX.out.cell 0 rfl;have x1:=CX.out.frozen 0;go_simp;have oE:Only gX YXMP (YXMP.setCell ⟨gX,0,none⟩ (.slice (some ⟨gM,0,none⟩) n n)):=(Only.refl _ _).set 0 _
    have CE:=CX.out.set 0 (.slice (some ⟨gM,0,none⟩) n n);simp only[List.set_cons_zero]at CE
    have hS:Cel (YXMP.setCell ⟨gX,0,none⟩ (.slice (some ⟨gM,0,none⟩) n n)) w.heap.size [.int .i64 k,.int .i64 (n:Int),.slice lo 8 lc,.slice zo 8 zc] 27:=oE.cel hSYXMP (by omega)
    have hQ:Hid (QT w1 n (.pointer (some ⟨gX,0,none⟩)) (.slice (some ⟨gP,0,none⟩) n n) (YXMP.setCell ⟨gX,0,none⟩ (.slice (some ⟨gM,0,none⟩) n n))):=⟨gX,gM,gP,rfl,rfl,⟨by omega,by omega,by omega,by omega,by omega,by omega⟩,CE,oE.cel CM.out (by omega),oE.cel CP.out (by omega),HBc.out.trans (oE.below (by omega))⟩
    clear CE oE CX CM CP HBc x0 x1 hSYXMP;generalize YXMP.setCell ⟨gX,0,none⟩ (.slice (some ⟨gM,0,none⟩) n n)=YE at *;refine hK.out _ _ (fun _=>hS) ?_;clear hK K;try simp only[Act.put,yq0,yq1,yq2,yq3,yq4,yq5]
    refine AnyG.tk 8 hS ?_;refine AnyG.done (by kernel_rfl) ?_ _;clear hS;go_wp2_with fail;go_meet;exact hQ.out
   ·intro K hK;go_simp;refine(mplaces_c n YX (by omega)).mono ?_;rintro e YXP ⟨gP,rfl,hcp,loP,bYXP⟩;have CP:=hide hcp;clear hcp
    have hSYXP:Cel YXP w.heap.size [.int .i64 k,.int .i64 (n:Int),.slice lo 8 lc,.slice zo 8 zc] 27:=hSYX.kept bYXP;refine hK.out _ _ (fun _=>hSYXP) ?_;clear hK K;try simp only[Act.put,yq0,yq1,yq2,yq3,yq4,yq5]
    replace CX:=hide (CX.out.kept bYXP);replace HBc:=hide (HBc.out.trans (bYXP.mono HBc.out.size));have sYXP:=CP.out.lt;clear bYXP hSYX;refine AnyG.o1 2 ?_;intro K hK
    refine step_make YXP.heap.size 5 i0 (.int .u8 0) 1 Tryz.underlying22 hi hz0 hz1 n rfl rfl (by rw[hz2];omega) (by unfold maxLen;omega) (Nat.le_refl _) ?_;intro YXPM hown hgr
    have CM:=hide (cel_madeK (k:=.u8) (n:=n) (by rw[Nat.mul_one]at hown;exact hown));have bYXPM:Below YXP.heap.size YXP YXPM:=(Below.refl _ _).grown hgr (Nat.le_refl _) (fun k h=>by cases h);clear hown hgr
    have hSYXPM:Cel YXPM w.heap.size [.int .i64 k,.int .i64 (n:Int),.slice lo 8 lc,.slice zo 8 zc] 27:=hSYXP.kept bYXPM;refine hK.out _ _ (fun _=>hSYXPM) ?_;clear hK K
    try simp only[Act.put,yq0,yq1,yq2,yq3,yq4,yq5]
    replace CX:=hide (CX.out.kept bYXPM);replace CP:=hide (CP.out.kept bYXPM);replace HBc:=hide (HBc.out.trans (bYXPM.mono HBc.out.size));have sYXPM:=CM.out.lt;clear bYXPM hSYXP
    obtain⟨gM,hgM⟩:∃g,Hid (g=YXP.heap.size):=⟨_,rfl⟩;rw[←hgM.out]at CM sYXPM⊢;have loM:YXP.heap.size≤gM:=by rw[hgM.out];exact Nat.le_refl _
    clear hgM;refine AnyG.o1 7 ?_;intro K hK;have x0:=CX.out.cell 0 rfl;have x1:=CX.out.frozen 0;go_simp;have oE:Only gX YXPM (YXPM.setCell ⟨gX,0,none⟩ (.slice (some ⟨gM,0,none⟩) n n)):=(Only.refl _ _).set 0 _
    have CE:=CX.out.set 0 (.slice (some ⟨gM,0,none⟩) n n);simp only[List.set_cons_zero]at CE
    have hS:Cel (YXPM.setCell ⟨gX,0,none⟩ (.slice (some ⟨gM,0,none⟩) n n)) w.heap.size [.int .i64 k,.int .i64 (n:Int),.slice lo 8 lc,.slice zo 8 zc] 27:=oE.cel hSYXPM (by omega)
    have hQ:Hid (QT w1 n (.pointer (some ⟨gX,0,none⟩)) (.slice (some ⟨gP,0,none⟩) n n) (YXPM.setCell ⟨gX,0,none⟩ (.slice (some ⟨gM,0,none⟩) n n))):=⟨gX,gM,gP,rfl,rfl,⟨by omega,by omega,by omega,by omega,by omega,by omega⟩,CE,oE.cel CM.out (by omega),oE.cel CP.out (by omega),HBc.out.trans (oE.below (by omega))⟩
    clear CE oE CX CM CP HBc x0 x1 hSYXPM;generalize YXPM.setCell ⟨gX,0,none⟩ (.slice (some ⟨gM,0,none⟩) n n)=YE at *;refine hK.out _ _ (fun _=>hS) ?_;clear hK K;try simp only[Act.put,yq0,yq1,yq2,yq3,yq4,yq5]
    refine AnyG.tk 8 hS ?_;refine AnyG.done (by kernel_rfl) ?_ _;clear hS;go_wp2_with fail;go_meet;exact hQ.out
 case rest=>
  obtain⟨g3,gx,gp,rfl,rfl,⟨o1,o2,o3,o4,o5,o6⟩,c3,cx,cp,hbx⟩:=hcut;have HT:=hide (show Cel wc gx (vK .u8 (Mx.txL t 0 0)) 5 by rw[Mx.txL_zero hB,←hnn.out];exact cx)
  have HP:=hide (show Nd wc (some ⟨gp,0,none⟩) (mI (Mx.pl t 0))by have:=nd_vK cp;rw[hnn.out]at this;exact this);have C3:=hide c3;have HBx:=hide hbx
  have CW:Hid (∀l w0,l<8→Calls Tryz.prog 30 #[.int .i64 (l:Nat)] w0 fun e w'=>e=.returned (.int .u8 ((2^(7-l):Nat):Int))∧w'=w0):=fun l w0 hl=>mwgt_c l hl w0
  have CQ:Hid (∀l po pc g5 w0,l<8→Nd w0 po (mI (Mx.pl t l))→Cel w0 g3 [.slice (some ⟨gx,0,none⟩) n n] 22→Cel w0 gx (vK .u8 (Mx.txL t (l+1) 0)) 5→Cel w0 g5 [.int .i64 (l:Int)] 3→Calls Tryz.prog 49 #[.slice po n pc,.func (.func 50) #[] #[.pointer (some ⟨g3,0,none⟩),.pointer (some ⟨g5,0,none⟩)]] w0 fun e w'=>∃ao cap z,e=.returned (.tuple #[.slice ao n cap,.int .i64 (z:Nat)])∧Nd w' ao (mI (Mx.pl t (l+1)))∧Below w0.heap.size w0 w'):=fun l po pc g5 w0 hl h1 h2 h3 h4=>by
   have:=mpart_i po (Mx.pl t l) pc g3 g5 (fun j=>Mx.tb l (gt t j)) w0 h1 (by rw[Mx.length_pl];omega) (fun x w2 hm hb=>mtone_c t x l n g3 gx g5 w2 ((Mx.mem_pl t l x).1 hm) hnn.out hl hB (h2.kept hb) (h3.kept hb) (h4.kept hb))
   rw[Mx.length_pl,←hnn.out]at this;refine this.mono ?_;rintro e w' ⟨ao,m,cap,rfl,hm,how,hbe⟩;have em:m=n:=by rw[hm,(Mx.perm_pt _ _).length_eq,Mx.length_pl,hnn.out]
   subst em;exact⟨ao,cap,_,rfl,nd_own_m how (by rw[Mx.length_pl,hnn.out]),hbe⟩
  clear cx cp c3 hbx hi hz0 hz1 hz2 i0;go_wp2
  go_loopw [4,20] (fun vp vl wr=>∃(l:Nat) (po:Option Addr) (pc:Nat),l≤8∧vl=.int .i64 l∧vp=.slice po n pc∧Hid (Nd wr po (mI (Mx.pl t l)))∧Hid (Cel wr gx (vK .u8 (Mx.txL t l 0)) 5)∧Hid (Cel wr g3 [.slice (some ⟨gx,0,none⟩) n n] 22)∧Hid (Below w1.heap.size w1 wr)) (fun _ vl _=>8-(intOf vl).toNat)
  case atStart=>exact⟨0,_,_,Nat.zero_le _,rfl,rfl,HP,HT,C3,HBx⟩
  case round=>
   clear HP HT C3 HBx;obtain⟨l,po,pc,hl,rfl,rfl,HP,HT,C3,HBx⟩:=hrel;by_cases hlt:l<8
   ·have hltz:(l:Int)<8:=by omega
    obtain⟨W1,hW1⟩:∃W1,W1=wr.alloc (.cells #[.int .i64 (l:Int)] 3):=⟨_,rfl⟩;have b1:Below wr.heap.size wr W1:=by rw[hW1];exact below_alloc wr _
    have CLb:=hide (show Cel W1 wr.heap.size [.int .i64 (l:Int)] 3 by rw[hW1];exact Cel.new wr _ _);replace HP:=hide (HP.out.keep b1);have lgx:=HT.out.lt;have lg3:=C3.out.lt;replace HT:=hide (HT.out.kept b1)
    replace C3:=hide (C3.out.kept b1);have zz:=HBx.out.size;replace HBx:=hide (HBx.out.trans (b1.mono HBx.out.size));obtain⟨g5,hg5⟩:∃g5,Hid (g5=wr.heap.size):=⟨_,rfl⟩
    have h5x:gx<g5:=by rw[hg5.out];exact lgx
    have h53:g3<g5:=by rw[hg5.out];exact lg3
    have h51:w1.heap.size≤g5:=by rw[hg5.out];exact zz
    rw[←hg5.out]at CLb;have HMr:=hide (HM.out.keep HBx.out);have Kr:=hide (K1.out.kept HBx.out);rw[hnn.out]at HMr;obtain⟨rb,ro,rs,erb,hrb,hrg,hki⟩:=HMr.out.row hlt;subst erb
    have CBt:=hide (bits_k rs _ W1 hki);rw[(kB_M hkn hle l).2.1,(kB_M hkn hle l).2.2,←hnn.out]at CBt;have HL:=hide hki.arg.len;have HR:=hide hrg;have y2:=Kr.out.cell 2 rfl;have l0:=CLb.out.cell 0 rfl
    rw[hW1]at y2 l0 HR;rw[hg5.out]at l0;clear b1 hki hrg hrb zz lgx lg3;go_wp2_with (refine load_part rb (ro+l*22) rs (by rfl) rfl HR.out Tryz.underlying63 HL.out ?_);rw[←hW1,←hg5.out];clear hW1 HR y2 l0 hg5 HMr Kr
    refine CBt.out.mono ?_;rintro e w2 ⟨bo,bc,rfl,hwd,hcap,hb⟩;obtain⟨X,hX⟩:∃X,Hid (X=frL (Mx.rw_ t l)):=⟨_,rfl⟩;rw[←hX.out]at hwd hcap⊢;have HFit:Hid (Fit X):=by rw[hX.out];exact fit_rowOf _ _
    obtain⟨W3,hW3⟩:∃W3,W3=w2.alloc (.cells #[.int .i64 (n:Nat),.slice bo X.length bc] 53):=⟨_,rfl⟩;have b3:Below w2.heap.size w2 W3:=by rw[hW3];exact below_alloc w2 _
    have bb:=hb.trans (b3.mono hb.size);have C6:=hide (show Cel W3 w2.heap.size [.int .i64 (n:Nat),.slice bo X.length bc] 53 by rw[hW3];exact Cel.new w2 _ _);have z2:=CLb.out.lt;have z3:=hb.size
    replace HP:=hide (HP.out.keep bb);replace HT:=hide (HT.out.kept bb);replace C3:=hide (C3.out.kept bb);replace CLb:=hide (CLb.out.kept bb);replace HBx:=hide (HBx.out.trans (bb.mono HBx.out.size))
    have HWd:=hide (hwd.keep b3);obtain⟨g6,hg6⟩:∃g6,Hid (g6=w2.heap.size):=⟨_,rfl⟩;have h65:g5<g6:=by rw[hg6.out];omega
    rw[←hg6.out]at C6;clear hb b3 bb hwd CBt;go_wp2;rw[←hW3,←hg6.out];clear hW3 hg6 z2 z3
    go_loopw [31] (fun vi wz=>∃i:Nat,i≤n∧vi=.int .i64 i∧Hid (Nd wz po (mI (Mx.pl t l)))∧Hid (Cel wz gx (vK .u8 (Mx.txL t l i)) 5)∧Hid (Cel wz g3 [.slice (some ⟨gx,0,none⟩) n n] 22)∧Hid (Cel wz g5 [.int .i64 (l:Int)] 3)∧Hid (Cel wz g6 [.int .i64 (n:Nat),.slice bo X.length bc] 53)∧Hid (Wd wz bo X)∧Hid (Below w1.heap.size w1 wz)) (fun vi _=>n-(intOf vi).toNat)
    case atStart=>exact⟨0,Nat.zero_le _,rfl,HP,HT,C3,CLb,C6,HWd,HBx⟩
    case round=>
     clear HP HT C3 CLb C6 HWd HBx;obtain⟨i,hi,rfl,HP,HT,C3,CLb,C6,HWd,HBx⟩:=hrel;by_cases hil:i<n
     ·have hilz:(i:Int)<(n:Int):=by omega
      obtain⟨p,hpl⟩:∃p,(Mx.pl t l)[i]?=some p:=⟨_,List.getElem?_eq_getElem (by rw[Mx.length_pl,←hnn.out];exact hil)⟩;obtain⟨hpn,hgp,hst⟩:=Mx.txL_step hpl
      have hsk:=hide (fun h0=>Mx.txL_skip hB hlt hpl h0);obtain⟨nb,no,epo,hnl,hnc⟩:=HP.out (by rw[len_mI,Mx.length_pl,←hnn.out];omega);subst epo
      have p1:=hnc i (by rw[len_mI,Mx.length_pl,←hnn.out];exact hil);rw[gi_mI _ i (by rw[Mx.length_pl,←hnn.out];exact hil),show gt (Mx.pl t l) i=p by unfold gt;rw[List.getD_eq_getElem?_getD,hpl];rfl]at p1
      have hbit:getB (n:Int) X (i:Int)=Mx.tb l (gt t p):=by
       unfold getB
       rw[hX.out,hnn.out,chk_m hle l,decide_eq_true (by have:=hnn.out;omega),Int.toNat_natCast,bitAt_frL _ _ _ (show(Mx.rw_ t l)[i]?=some (Mx.tb l (gt t p))by unfold Mx.rw_;rw[List.getElem?_map,hpl];rfl)]
       simp
      have CG:=hide (get_c (n:Int) bo X bc (i:Int) wr HWd.out HFit.out);rw[hbit]at CG;obtain⟨EE,hEE⟩:∃EE,Hid (EE=getE (n:Int) X (i:Int)):=⟨_,rfl⟩;rw[←hEE.out]at CG;have c60:=C6.out.cell 0 rfl
      have c61:=C6.out.cell 1 rfl;have hpz:(p:Int)<(n:Int):=by rw[hnn.out];omega
      have tp:=Mx.top_lt (l:=l) (hB p);have ton:=hide (fun h=>Mx.top_on (hB p) hlt h);obtain⟨TT,hTT⟩:∃TT,Hid (TT=Mx.top l (gt t p)):=⟨_,rfl⟩
      obtain⟨T2,hT2⟩:∃T2,Hid (T2=Mx.top (l+1) (gt t p)):=⟨_,rfl⟩;rw[←hTT.out,←hT2.out]at ton;rw[←hTT.out]at tp hgp;rw[←hT2.out]at hst;have HGP:=hide hgp;have HST:=hide hst
      generalize Mx.tb l (gt t p)=bb at *;have CWl:=hide (fun w0=>CW.out l w0 hlt);have hw2:(2:Nat)^(7-l)≤128:=Nat.le_trans (Nat.pow_le_pow_right (by decide) (show 7-l≤7 by omega)) (by decide)
      have H8:=hide (or8m TT (2^(7-l)) tp (by omega));generalize (2:Nat)^(7-l)=WW at *;clear hnc hbit hEE hgp hst;go_wp2_with fail;refine CG.out.mono ?_;rintro e w4 ⟨rfl,hb⟩;replace HP:=hide (HP.out.keep hb)
      replace HT:=hide (HT.out.kept hb);replace C3:=hide (C3.out.kept hb);replace CLb:=hide (CLb.out.kept hb);replace C6:=hide (C6.out.kept hb);replace HWd:=hide (HWd.out.keep hb)
      replace HBx:=hide (HBx.out.trans (hb.mono HBx.out.size));clear hb CG c60 c61 p1;cases bb with
      | true=>
       have e5:=ton.out rfl;have H8':=H8.out;rw[e5]at H8';clear hsk ton H8;go_wp2
       refine region_g [8] (fun w'=>Cel w' g3 [.slice (some ⟨gx,0,none⟩) n n] 22∧Cel w' g5 [.int .i64 (l:Int)] 3∧Cel w' gx (vK .u8 (Mx.txL t l i)) 5∧Cel w' g6 [.int .i64 (n:Nat),.slice bo X.length bc] 53∧Wd w' bo X∧Nd w' (some ⟨nb,no,none⟩) (mI (Mx.pl t l))∧Below w1.heap.size w1 w') (by kernel_rfl) ?_
       have hS:(fun w'=>Cel w' g3 [.slice (some ⟨gx,0,none⟩) n n] 22∧Cel w' g5 [.int .i64 (l:Int)] 3∧Cel w' gx (vK .u8 (Mx.txL t l i)) 5∧Cel w' g6 [.int .i64 (n:Nat),.slice bo X.length bc] 53∧Wd w' bo X∧Nd w' (some ⟨nb,no,none⟩) (mI (Mx.pl t l))∧Below w1.heap.size w1 w') w4.drew:=⟨C3.out.drew,CLb.out.drew,HT.out.drew,C6.out.drew,HWd.out.keep ((Below.refl _ _).drew),HP.out.keep ((Below.refl _ _).drew),HBx.out.drew⟩
       clear C3 CLb HT C6 HWd HP HBx;generalize w4.drew=V at *
       refine AnyG.tf 0 hS rfl (fun w0 h0=>by have q0:=h0.1.cell 0 rfl;have q1:=h0.2.2.1.cell p (vK_get _ _ p (by rw[Mx.length_txL];exact hpn));rw[HGP.out]at q1;have q2:=h0.2.1.cell 0 rfl;go_simp;try with_reducible rfl) ?_
       refine AnyG.tk 1 hS ?_;refine AnyG.tk 2 hS ?_
       refine AnyG.tf 3 hS rfl (fun w0 h0=>by have q0:=h0.1.cell 0 rfl;have q1:=h0.2.2.1.cell p (vK_get _ _ p (by rw[Mx.length_txL];exact hpn));rw[HGP.out]at q1;have q2:=h0.2.1.cell 0 rfl;go_simp;try with_reducible rfl) ?_
       refine AnyG.tf 4 hS rfl (fun w0 h0=>by have q0:=h0.1.cell 0 rfl;have q1:=h0.2.2.1.cell p (vK_get _ _ p (by rw[Mx.length_txL];exact hpn));rw[HGP.out]at q1;have q2:=h0.2.1.cell 0 rfl;go_simp;try with_reducible rfl) ?_
       refine AnyG.o1 5 ?_;intro K hK;go_simp;refine(CWl.out _).mono ?_;rintro e w9 ⟨rfl,h9⟩;rw[h9];clear h9 w9;refine hK.out _ _ (fun _=>hS) ?_;clear hK K;try simp only[Act.put,yq0,yq1,yq2,yq3,yq4,yq5]
       refine AnyG.tk 6 hS ?_;refine AnyG.tk 7 hS ?_;refine AnyG.o1 8 ?_;intro K hK;have q1:=hS.2.2.1.cell p (vK_get _ _ p (by rw[Mx.length_txL];exact hpn));have f1:=hS.2.2.1.frozen p;go_simp
       refine hK.out _ _ (fun h=>absurd (by decide) h) ?_;clear hK K;try simp only[Act.put,yq0,yq1,yq2,yq3,yq4,yq5]
       refine AnyG.done (by kernel_rfl) ?_ _;obtain⟨s1,s2,s3,s4,s5,s6,s7⟩:=hS;have o3:Only gx V (V.setCell ⟨gx,p,none⟩ (.int .u8 (T2:Nat))):=(Only.refl _ _).set p _
       have HT':Hid (Cel (V.setCell ⟨gx,p,none⟩ (.int .u8 (T2:Nat))) gx (vK .u8 (Mx.txL t l (i+1))) 5):=by
        have:=s3.set p (.int .u8 (T2:Nat));rw[vK_set,HST.out]at this;exact this
       have A1:=hide (o3.cel s1 (by omega));have A2:=hide (o3.cel s2 (by omega));have A4:=hide (o3.cel s4 (by omega));have A5:=hide (o3.wd s5 (s5.apart s3 (nou_vK _ (by decide) _)));have A6:=hide (nd_bytK s6 s3 o3)
       have A7:=hide (s7.trans (o3.below (base:=w1.heap.size) (by omega)));clear s1 s2 s3 s4 s5 s6 s7 o3 q1 f1;go_wp2;exact⟨⟨i+1,by omega,by go_num,A6,HT',A1,A2,A4,A5,A7⟩,by simp only[intOf];omega⟩
      | false=>
       have e6:=hsk.out rfl;rw[e6]at HT;clear hsk ton H8 CWl e6;go_wp2;exact⟨⟨i+1,by omega,by go_num,HP,HT,C3,CLb,C6,HWd,HBx⟩,by simp only[intOf];omega⟩
     ·obtain rfl:i=n:=by omega
      have eT:Hid (Mx.txL t l i=Mx.txL t (l+1) 0):=by show _=_;rw[hnn.out];exact Mx.txL_next t l
      rw[eT.out]at HT;have CQl:=hide (CQ.out l po pc g5 wr hlt HP.out C3.out HT.out CLb.out);clear CQ CW eT;go_wp2_with fail;refine CQl.out.mono ?_;rintro e w5 ⟨ao2,cap2,z,rfl,hnd,hb⟩;have HP2:=hide hnd
      have HT2:=hide (HT.out.kept hb);have C32:=hide (C3.out.kept hb);have HB2:=hide (HBx.out.trans (hb.mono HBx.out.size));clear hb hnd CQl HP HT C3 CLb C6 HWd HBx;go_wp2
      exact⟨⟨l+1,ao2,cap2,by omega,by go_num,rfl,HP2,HT2,C32,HB2⟩,by simp only[intOf];omega⟩
   ·obtain rfl:l=8:=by omega
    have q0:=C3.out.cell 0 rfl;have HF:=hide (bd_vK (t:=t) (by have:=HT.out;rw[Mx.txL_all]at this;exact this));have HBe:=hide (HBa.out.trans (HBx.out.mono HBa.out.size));clear CQ CW HP HT HBx;go_wp2;go_ret
    exact⟨_,_,rfl,HF.out,HBe.out⟩
theorem mrank_bad(lo:Option Addr)(lc:Nat)(zo:Option Addr)(zc:Nat)(x:MR)(c:Nat)(i:Int)(w:World)(h:MI w lo lc zo zc x)(hbad:mOk x=false):
  Calls Tryz.prog 10 #[.agg #[.int .i64 x.K,.int .i64 x.N,.slice lo x.av.length lc,.slice zo x.zs.length zc],.int .u8 (c:Int),.int .i64 i] w fun e w'=>e=.returned (.tuple #[.int .i64 0,.int .i64 2])∧Below w.heap.size w w':=by
 have C0:=hide (fun w0 hb=>mcheck_c lo lc zo zc x w0 (h.keep hb));rw[hbad]at C0;obtain⟨K,hK⟩:∃K,Hid (K=x.K):=⟨_,rfl⟩;obtain⟨N,hN⟩:∃N,Hid (N=x.N):=⟨_,rfl⟩
 obtain⟨m,hm⟩:∃m,Hid (m=x.av.length):=⟨_,rfl⟩;obtain⟨z,hz⟩:∃z,Hid (z=x.zs.length):=⟨_,rfl⟩;rw[←hK.out,←hN.out,←hm.out,←hz.out]at C0;rw[←hK.out,←hN.out,←hm.out,←hz.out]
 obtain⟨W,hW⟩:∃W,W=w.alloc (.cells #[.int .i64 K,.int .i64 N,.slice lo m lc,.slice zo z zc] 27):=⟨_,rfl⟩;have bW:=yb1 hW;have HB:=hide bW;have C1:=hide (C0.out W bW);clear C0 h hbad bW
 go_enter Tryz.func10,Tryz.ntmps10;go_wp2_with fail;rw[←hW];refine C1.out.mono ?_;rintro e w1 ⟨rfl,hb⟩;have HB1:=hide (HB.out.trans (hb.mono HB.out.size));clear hb C1 HB hW;go_wp2;go_ret2;exact⟨rfl,HB1.out⟩
def mzR(L:Nat)(av:List RA):Nat→Int
 | 0=>32*(L:Int)
 | q+1=>wrap64 (mzR L av q+kZ (av.getD q ra0))
def mZs(x:MR):Int:=if mOk x then mzR x.zs.length x.av x.av.length else 0
theorem msize_c(lo:Option Addr)(lc:Nat)(zo:Option Addr)(zc:Nat)(x:MR)(w:World)(h:MI w lo lc zo zc x):
  Calls Tryz.prog 13 #[.agg #[.int .i64 x.K,.int .i64 x.N,.slice lo x.av.length lc,.slice zo x.zs.length zc]] w fun e w'=>e=.returned (.int .i64 (mZs x))∧Below w.heap.size w w':=by
 obtain⟨Z,hZ⟩:∃Z,Hid (Z=mZs x):=⟨_,rfl⟩;rw[←hZ.out];have HV:=hide h.l;have hmm:=h.lm;have hzm:=h.zm;have C0:=hide (fun w0 hb=>mcheck_c lo lc zo zc x w0 (h.keep hb))
 obtain⟨K,hK⟩:∃K,Hid (K=x.K):=⟨_,rfl⟩;obtain⟨N,hN⟩:∃N,Hid (N=x.N):=⟨_,rfl⟩;obtain⟨m,hm⟩:∃m,Hid (m=x.av.length):=⟨_,rfl⟩;obtain⟨z,hz⟩:∃z,Hid (z=x.zs.length):=⟨_,rfl⟩
 rw[←hK.out,←hN.out,←hm.out,←hz.out]at C0;rw[←hK.out,←hN.out,←hm.out,←hz.out];obtain⟨W,hW⟩:∃W,W=w.alloc (.cells #[.int .i64 K,.int .i64 N,.slice lo m lc,.slice zo z zc] 27):=⟨_,rfl⟩;have bW:=yb1 hW
 have HB:=hide bW;have C1:=hide (C0.out W bW);have B1:=hide (show Cel W w.heap.size [.int .i64 K,.int .i64 N,.slice lo m lc,.slice zo z zc] 27 by rw[hW];exact Cel.new w _ _);rw[←hm.out]at hmm;rw[←hz.out]at hzm
 clear C0 h bW;go_enter Tryz.func13,Tryz.ntmps13;go_wp2_with fail;rw[←hW];refine C1.out.mono ?_;rintro e w1 ⟨rfl,hb⟩;have HB1:=hide (HB.out.trans (hb.mono HB.out.size));have B11:=hide (B1.out.kept hb);clear hb C1 HB B1 hW
 cases ok:mOk x with
 | false=>
  have HZ0:Hid (Z=0):=by show Z=0;rw[hZ.out];unfold mZs;rw[ok];rfl
  clear ok hZ;go_wp2;go_ret;exact⟨by rw[HZ0.out];rfl,HB1.out⟩
 | true=>
  have HZ1:Hid (Z=mzR z x.av m):=by show Z=_;rw[hZ.out,hm.out,hz.out];unfold mZs;rw[ok];rfl
  have x2:=B11.out.cell 2 rfl;have x3:=B11.out.cell 3 rfl;clear ok hZ;go_wp2
  go_loopw [3,16] (fun vs vi wr=>∃q:Nat,q≤m∧vi=.int .i64 q∧vs=.int .i64 (mzR z x.av q)∧Hid (Below w.heap.size w wr)) (fun _ vi _=>m-(intOf vi).toNat)
  case atStart=>exact⟨0,Nat.zero_le _,rfl,rfl,HB1⟩
  case round=>
   clear HB1 B11 x2 x3;obtain⟨q,hq,rfl,rfl,HB⟩:=hrel;by_cases hlt:q<m
   ·have hltz:(q:Int)<(m:Int):=by omega
    obtain⟨b,off,rfl,hbl,hr⟩:=(HV.out.keep HB.out) (by rw[←hm.out];omega);obtain⟨cs,rg,ki⟩:=hr q (by rw[←hm.out];exact hlt);have HL:=hide ki.arg.len;have H1:=hide ki.arg.one;have HK:=hide ki
    have HR:=hide rg;have E:Hid (wrap64 (mzR z x.av q+kZ (x.av.getD q ra0))=mzR z x.av (q+1)):=rfl;obtain⟨A,hA⟩:∃A,Hid (A=x.av.getD q ra0):=⟨_,rfl⟩;rw[←hA.out]at HK E;generalize mzR z x.av q=X at *
    clear hr rg ki hA;go_wp2_with (first | refine load_part b (off+q*22) cs (by rfl) rfl HR.out Tryz.underlying63 HL.out ?_ | refine alloc_any info_zv ?_);intro w2 B2 hb2 hs2;try simp only[Act.put,yq3,List.set]
    have HB2:=hide hb2;have zb:=HB.out.size;clear hb2 HR;go_wp2_with (refine store_cel wr.heap.size zv cs rfl rfl B2 (len_zv.trans HK.out.arg.nine) HL.out H1.out ?_);intro w3 B3 hO;try simp only[Act.put,yq3,List.set]
    have hb3:=HB2.out.trans (hO.below (Nat.le_refl _));have HK3:=hide (HK.out.keep hb3);have HB3:=hide (HB.out.trans (hb3.mono HB.out.size));clear hb3 HK HB HB2 hO B2
    go_wp2_with (refine load_cel wr.heap.size cs rfl B3 Tryz.underlying63 HL.out ?_);refine(size_k cs A w3 HK3.out).mono ?_;rintro e w4 ⟨rfl,hb4⟩;have HB4:=hide (HB3.out.trans (hb4.mono HB3.out.size))
    generalize kZ A=Y at *;clear hb4 HB3 HK3 B3;go_wp2;refine⟨⟨q+1,by omega,by go_num,?_,HB4⟩,by simp only[intOf];omega⟩;rw[←E.out]
   ·obtain rfl:q=m:=by omega
    rw[←HZ1.out];go_wp2;go_ret;exact⟨rfl,HB.out⟩
theorem MX.size{w:World}{cs:List Value}{k:Int}{t:List Nat}(h:MX w cs k t):Calls Tryz.prog 13 #[.agg cs.toArray] w fun e w'=>e=.returned (.int .i64 (mzR 8 (mA k t) 8))∧Below w.heap.size w w':=by
 have h0:=h;obtain⟨⟨lo,lc,zo,zc,rfl,h1,h2⟩,hk,hn,hB,G⟩:=h;have:=msize_c lo lc zo zc (mRx k t) w h0.mi;have e1:(mRx k t).av.length=8:=mA_len k t
 have e2:(mRx k t).zs.length=8:=by show(mI (mZ t)).length=8;rw[len_mI,mZ_len]
 unfold mZs at this;rw[mok_T hk hn,e1,e2]at this;exact this
structure XPm (k:Int) (t:List Nat) (m:Nat) (SA:World→Option Addr→Nat→Option Addr→Nat→Prop):Prop where
 keep:∀w0 w1 lo lc no nc,SA w0 lo lc no nc→Below w0.heap.size w0 w1→SA w1 lo lc no nc
 build:∀w0 ao cap,Bd w0 ao t→GV w0→Calls Tryz.prog 8 #[.int .i64 k,.slice ao t.length cap] w0 fun e w'=>∃lo lc no nc,e=.returned (.tuple #[.agg #[.int .i64 k,.int .i64 (t.length:Int),.slice lo 8 lc,.slice no 8 nc],.int .i64 0])∧SA w' lo lc no nc∧Below w0.heap.size w0 w'
 check:∀w0 lo lc no nc,SA w0 lo lc no nc→Calls Tryz.prog 20 #[.agg #[.int .i64 k,.int .i64 (t.length:Int),.slice lo 8 lc,.slice no 8 nc]] w0 fun e w'=>e=.returned (.bool true)∧Below w0.heap.size w0 w'
 size:∃Z,Z=mzR 8 (mA k t) 8∧∀w0 lo lc no nc,SA w0 lo lc no nc→Calls Tryz.prog 13 #[.agg #[.int .i64 k,.int .i64 (t.length:Int),.slice lo 8 lc,.slice no 8 nc]] w0 fun e w'=>e=.returned (.int .i64 Z)∧Below w0.heap.size w0 w'
 text:∀w0 lo lc no nc,SA w0 lo lc no nc→Calls Tryz.prog 22 #[.agg #[.int .i64 k,.int .i64 (t.length:Int),.slice lo 8 lc,.slice no 8 nc]] w0 fun e w'=>∃bo bc,e=.returned (.slice bo t.length bc)∧(convert 22 9 (.slice bo t.length bc)).run Tryz.prog w'=.ok (.string (strOfNums (nums t))) w'∧Below w0.heap.size w0 w'
 access:∀i:Int,I64 i→∀w0 lo lc no nc,SA w0 lo lc no nc→Calls Tryz.prog 9 #[.agg #[.int .i64 k,.int .i64 (t.length:Int),.slice lo 8 lc,.slice no 8 nc],.int .i64 i] w0 fun e w'=>e=.returned (.tuple #[.int .u8 (saC t i:Int),.int .i64 (saE t i)])∧Below w0.heap.size w0 w'
 rank:∀(c:Nat) (i:Int),c<256→I64 i→∀w0 lo lc no nc,SA w0 lo lc no nc→Calls Tryz.prog 10 #[.agg #[.int .i64 k,.int .i64 (t.length:Int),.slice lo 8 lc,.slice no 8 nc],.int .u8 (c:Int),.int .i64 i] w0 fun e w'=>e=.returned (.tuple #[.int .i64 (srN t c i),.int .i64 (srE t i)])∧Below w0.heap.size w0 w'
 select:∀(c:Nat) (i:Int),c<256→I64 i→∀w0 lo lc no nc,SA w0 lo lc no nc→Calls Tryz.prog 18 #[.agg #[.int .i64 k,.int .i64 (t.length:Int),.slice lo 8 lc,.slice no 8 nc],.int .u8 (c:Int),.int .i64 i] w0 fun e w'=>e=.returned (.tuple #[.int .i64 (ssN t c i),.int .i64 (ssE t c i)])∧Below w0.heap.size w0 w'
theorem x_mx(k:Int)(t:List Nat)(hk:1≤k∧k≤3)(hn:t.length≤3000)(hB:Byt t):∃m SA,XPm k t m SA:=by
 refine⟨8,fun w lo lc no nc=>MX w [.int .i64 k,.int .i64 (t.length:Int),.slice lo 8 lc,.slice no 8 nc] k t,⟨fun w0 w1 lo lc no nc h hb=>h.keep hb,fun w0 ao cap hx G=>?_,fun w0 lo lc no nc h=>h.check,⟨_,rfl,fun w0 lo lc no nc h=>h.size⟩,fun w0 lo lc no nc h=>?_,fun i hi w0 lo lc no nc h=>maccess_c _ k t i w0 h hi,fun c i hc hi w0 lo lc no nc h=>mrank_c _ k t c i w0 h hc hi,fun c i hc hi w0 lo lc no nc h=>mselect_c _ k t c i w0 h hc hi⟩⟩
 ·refine(mbuild_c k ao t cap w0 hk hx hB hn G).mono ?_;rintro e w' ⟨cs,rfl,h1,h2⟩;obtain⟨lo,lc,no,nc,rfl,_,_⟩:=h1.ex;exact⟨lo,lc,no,nc,rfl,h1,h2⟩
 ·refine(mtext_c _ k t w0 h).mono ?_;rintro e w' ⟨bo,bc,rfl,g1,g2⟩;exact⟨bo,bc,rfl,conv bc g1,g2⟩
theorem x_ab:∃m SA,XPm 3 ab m SA:=x_mx 3 ab (by decide) (by decide) byt_ab
theorem mkz_few(t:List Nat)(hn:t.length≤3000)(l:Nat):0<kZ (kB 3 (t.length:Int) (frL (Mx.rw_ t l)))∧kZ (kB 3 (t.length:Int) (frL (Mx.rw_ t l)))≤100000:=by
 have hk:=chk_m hn l;have hf:Fit (frL (Mx.rw_ t l)):=fit_rowOf _ _
 have e:kZ (kB 3 (t.length:Int) (frL (Mx.rw_ t l)))=kZ9 (kB9 (t.length:Int) (frL (Mx.rw_ t l))):=by
  rw[kB_f _ _ (kE_ok9 _ _ hk),(on_f (on_mf (kB9 (t.length:Int) (frL (Mx.rw_ t l))))).2.2.2]
 rw[e];have:=kZ_val9 t.length (frL (Mx.rw_ t l)) hf hk hn;omega
theorem mzs_few(t:List Nat)(hn:t.length≤3000):∀q,q≤8→0<mzR 8 (mA 3 t) q∧mzR 8 (mA 3 t) q≤256+100000*q
 | 0,_=>by unfold mzR;omega
 | q+1,hq=>by
  have ih:=mzs_few t hn q (by omega);have hz:=mkz_few t hn q;rw[mzR,mA_get 3 t (show q<8 by omega)];generalize kZ (kB 3 (t.length:Int) (frL (Mx.rw_ t q)))=z at *;generalize mzR 8 (mA 3 t) q=y at *
  rw[show wrap64 (y+z)=y+z by unfold wrap64;omega];omega
theorem ab_size(Z:Int)(h:Z=mzR 8 (mA 3 ab) 8):0<Z:=by
 rw[h];exact(mzs_few ab (by decide) _ (Nat.le_refl _)).1
theorem mi_none(w:World)(G:GV w):MI w none 0 none 0 ⟨0,0,[],[]⟩:=⟨⟨by decide,by decide⟩,⟨by decide,by decide⟩,fun h=>absurd h (by decide),fun h=>absurd h (by decide),by decide,by decide,G⟩
theorem ab_sel:ssN ab 114 1=9∧ssE ab 114 1=0∧ssN ab 122 0=0∧ssE ab 122 0=3:=by decide +kernel
theorem heads_c(w:World)(G:GV w):Calls Tryz.prog 7 #[] w fun e w'=>e=.returned (.bool true)∧Below w.heap.size w w':=by
 have kc:=fun(w:World) (C:Array Value) (n c:Nat)=>Lib.run_convert_bytes_const (P:=Tryz.prog) w 22 5 C n c Tryz.underlying22 Tryz.underlying5;obtain⟨f1,f2,f3,f4,f5⟩:=ab_facts
 have bW:=below_alloc w (.cells #[.int .u8 97,.int .u8 98,.int .u8 114,.int .u8 97,.int .u8 99,.int .u8 97,.int .u8 100,.int .u8 97,.int .u8 98,.int .u8 114,.int .u8 97] 5 (11,12));obtain⟨m,SA,HXP⟩:=x_ab
 have HK:=hide HXP.keep
 have H1:Hid (∀w0,w0=w.alloc (.cells #[.int .u8 97,.int .u8 98,.int .u8 114,.int .u8 97,.int .u8 99,.int .u8 97,.int .u8 100,.int .u8 97,.int .u8 98,.int .u8 114,.int .u8 97] 5 (11,12))→Calls Tryz.prog 8 #[.int .i64 3,.slice (some ⟨w.heap.size,0,none⟩) 11 11] w0 fun e w'=>∃lo lc no nc,e=.returned (.tuple #[.agg #[.int .i64 3,.int .i64 11,.slice lo 8 lc,.slice no 8 nc],.int .i64 0])∧SA w' lo lc no nc∧Below w0.heap.size w0 w'):=fun w0 h=>by
  subst h;exact HXP.build _ (some ⟨w.heap.size,0,none⟩) 11 (ab_bd w) (G.keep bW)
 have H2:Hid (∀w0 lo lc no nc,SA w0 lo lc no nc→Calls Tryz.prog 9 #[.agg #[.int .i64 3,.int .i64 11,.slice lo 8 lc,.slice no 8 nc],.int .i64 4] w0 fun e w'=>e=.returned (.tuple #[.int .u8 99,.int .i64 0])∧Below w0.heap.size w0 w'):=fun w0 lo lc no nc h=>by
  have:=HXP.access 4 (by unfold I64;omega) w0 lo lc no nc h;rw[show saC ab 4=99 from f1,show saE ab 4=0 from rfl]at this;exact this
 have H3:Hid (∀w0 lo lc no nc,SA w0 lo lc no nc→Calls Tryz.prog 10 #[.agg #[.int .i64 3,.int .i64 11,.slice lo 8 lc,.slice no 8 nc],.int .u8 97,.int .i64 8] w0 fun e w'=>e=.returned (.tuple #[.int .i64 4,.int .i64 0])∧Below w0.heap.size w0 w'):=fun w0 lo lc no nc h=>by
  have:=HXP.rank 97 8 (by decide) (by unfold I64;omega) w0 lo lc no nc h;rw[show srN ab 97 8=4 from congrArg (fun n:Nat=>(n:Int)) f2,show srE ab 8=0 from rfl]at this;exact this
 have H4:Hid (∀w0 lo lc no nc,SA w0 lo lc no nc→Calls Tryz.prog 18 #[.agg #[.int .i64 3,.int .i64 11,.slice lo 8 lc,.slice no 8 nc],.int .u8 114,.int .i64 1] w0 fun e w'=>e=.returned (.tuple #[.int .i64 9,.int .i64 0])∧Below w0.heap.size w0 w'):=fun w0 lo lc no nc h=>by
  have:=HXP.select 114 1 (by decide) (by unfold I64;omega) w0 lo lc no nc h;rw[ab_sel.1,ab_sel.2.1]at this;exact this
 have H5:Hid (∀w0 lo lc no nc,SA w0 lo lc no nc→Calls Tryz.prog 18 #[.agg #[.int .i64 3,.int .i64 11,.slice lo 8 lc,.slice no 8 nc],.int .u8 122,.int .i64 0] w0 fun e w'=>e=.returned (.tuple #[.int .i64 0,.int .i64 3])∧Below w0.heap.size w0 w'):=fun w0 lo lc no nc h=>by
  have:=HXP.select 122 0 (by decide) (by unfold I64;omega) w0 lo lc no nc h;rw[ab_sel.2.2.1,ab_sel.2.2.2]at this;exact this
 have H6:Hid (∀w0 lo lc no nc,SA w0 lo lc no nc→Calls Tryz.prog 9 #[.agg #[.int .i64 3,.int .i64 11,.slice lo 8 lc,.slice no 8 nc],.int .i64 11] w0 fun e w'=>e=.returned (.tuple #[.int .u8 0,.int .i64 3])∧Below w0.heap.size w0 w'):=fun w0 lo lc no nc h=>by
  have:=HXP.access 11 (by unfold I64;omega) w0 lo lc no nc h;rw[show saC ab 11=0 from rfl,show saE ab 11=3 from rfl]at this;exact this
 have H7:Hid (∀w0:World,GV w0→Calls Tryz.prog 10 #[.agg #[.int .i64 0,.int .i64 0,.slice none 0 0,.slice none 0 0],.int .u8 0,.int .i64 0] w0 fun e w'=>e=.returned (.tuple #[.int .i64 0,.int .i64 2])∧Below w0.heap.size w0 w'):=fun w0 G0=>mrank_bad none 0 none 0 ⟨0,0,[],[]⟩ 0 0 w0 (mi_none w0 G0) (by decide)
 have H8:Hid (∀w0 lo lc no nc,SA w0 lo lc no nc→Calls Tryz.prog 20 #[.agg #[.int .i64 3,.int .i64 11,.slice lo 8 lc,.slice no 8 nc]] w0 fun e w'=>e=.returned (.bool true)∧Below w0.heap.size w0 w'):=fun w0 lo lc no nc h=>by
  exact HXP.check w0 lo lc no nc h
 obtain⟨Z,hZ,HXZ⟩:=HXP.size;have zp:=ab_size Z hZ
 have H9:Hid (∀w0 lo lc no nc,SA w0 lo lc no nc→Calls Tryz.prog 13 #[.agg #[.int .i64 3,.int .i64 11,.slice lo 8 lc,.slice no 8 nc]] w0 fun e w'=>e=.returned (.int .i64 Z)∧Below w0.heap.size w0 w'):=fun w0 lo lc no nc h=>by
  exact HXZ w0 lo lc no nc h
 have HT:Hid (∀w0 lo lc no nc,SA w0 lo lc no nc→Calls Tryz.prog 22 #[.agg #[.int .i64 3,.int .i64 11,.slice lo 8 lc,.slice no 8 nc]] w0 fun e w'=>∃bo bc,e=.returned (.slice bo 11 bc)∧(convert 22 9 (.slice bo 11 bc)).run Tryz.prog w'=.ok (.string ⟨#[97,98,114,97,99,97,100,97,98,114,97]⟩) w'∧Below w0.heap.size w0 w'):=fun w0 lo lc no nc h=>by
  have:=HXP.text w0 lo lc no nc h;rw[ab_str]at this;exact this
 have HG:=hide G;clear hZ f1 f2 f3 f4 f5 G HXP HXZ;go_enter Tryz.func7,Tryz.ntmps7;go_wp2_with fail;refine(H1.out _ rfl).mono ?_;rintro e w1 ⟨lo,lc,no,nc,rfl,hP0,hb⟩;have hw:=hide (bW.trans (hb.mono bW.size))
 clear H1 bW hb;have b1:=below_alloc w1 (.cells [.int .i64 3,.int .i64 11,.slice lo 8 lc,.slice no 8 nc].toArray 27);have hB:=hide (Cel.new w1 [.int .i64 3,.int .i64 11,.slice lo 8 lc,.slice no 8 nc] 27)
 have hP:=hide (HK.out _ _ _ _ _ _ hP0 b1);replace hw:=hide (hw.out.trans (b1.mono hw.out.size));clear b1 hP0;go_wp2_with fail;refine(H2.out _ _ _ _ _ hP.out).mono ?_;rintro e w2 ⟨rfl,hb⟩
 replace hP:=hide (HK.out _ _ _ _ _ _ hP.out hb);replace hB:=hide (hB.out.kept hb);replace hw:=hide (hw.out.trans (hb.mono hw.out.size));clear hb H2;have y0:=hB.out.cell 0 rfl;have y1:=hB.out.cell 1 rfl
 have y2:=hB.out.cell 2 rfl;have y3:=hB.out.cell 3 rfl;go_wp2_with fail;refine(H3.out _ _ _ _ _ hP.out).mono ?_;rintro e w3 ⟨rfl,hb⟩;replace hP:=hide (HK.out _ _ _ _ _ _ hP.out hb);replace hB:=hide (hB.out.kept hb)
 replace hw:=hide (hw.out.trans (hb.mono hw.out.size));clear hb H3 y0 y1 y2 y3;have y0:=hB.out.cell 0 rfl;have y1:=hB.out.cell 1 rfl;have y2:=hB.out.cell 2 rfl;have y3:=hB.out.cell 3 rfl;go_wp2_with fail
 refine(H4.out _ _ _ _ _ hP.out).mono ?_;rintro e w4 ⟨rfl,hb⟩;replace hP:=hide (HK.out _ _ _ _ _ _ hP.out hb);replace hB:=hide (hB.out.kept hb);replace hw:=hide (hw.out.trans (hb.mono hw.out.size));clear hb H4 y0 y1 y2 y3
 have y0:=hB.out.cell 0 rfl;have y1:=hB.out.cell 1 rfl;have y2:=hB.out.cell 2 rfl;have y3:=hB.out.cell 3 rfl;go_wp2_with fail;refine(H5.out _ _ _ _ _ hP.out).mono ?_;rintro e w5 ⟨rfl,hb⟩
 replace hP:=hide (HK.out _ _ _ _ _ _ hP.out hb);replace hB:=hide (hB.out.kept hb);replace hw:=hide (hw.out.trans (hb.mono hw.out.size));clear hb H5 y0 y1 y2 y3;have y0:=hB.out.cell 0 rfl;have y1:=hB.out.cell 1 rfl
 have y2:=hB.out.cell 2 rfl;have y3:=hB.out.cell 3 rfl;go_wp2_with fail;refine(H6.out _ _ _ _ _ hP.out).mono ?_;rintro e w6 ⟨rfl,hb⟩;replace hP:=hide (HK.out _ _ _ _ _ _ hP.out hb);replace hB:=hide (hB.out.kept hb)
 replace hw:=hide (hw.out.trans (hb.mono hw.out.size));clear hb H6 y0 y1 y2 y3;go_wp2_with fail;refine(H7.out _ (HG.out.keep hw.out)).mono ?_;rintro e w7 ⟨rfl,hb⟩;replace hP:=hide (HK.out _ _ _ _ _ _ hP.out hb)
 replace hB:=hide (hB.out.kept hb);replace hw:=hide (hw.out.trans (hb.mono hw.out.size));clear hb H7;have y0:=hB.out.cell 0 rfl;have y1:=hB.out.cell 1 rfl;have y2:=hB.out.cell 2 rfl;have y3:=hB.out.cell 3 rfl
 go_wp2_with fail;refine(H8.out _ _ _ _ _ hP.out).mono ?_;rintro e w8 ⟨rfl,hb⟩;replace hP:=hide (HK.out _ _ _ _ _ _ hP.out hb);replace hB:=hide (hB.out.kept hb);replace hw:=hide (hw.out.trans (hb.mono hw.out.size))
 clear hb H8 y0 y1 y2 y3;have y0:=hB.out.cell 0 rfl;have y1:=hB.out.cell 1 rfl;have y2:=hB.out.cell 2 rfl;have y3:=hB.out.cell 3 rfl;go_wp2_with fail;refine(H9.out _ _ _ _ _ hP.out).mono ?_;rintro e w9 ⟨rfl,hb⟩
 replace hP:=hide (HK.out _ _ _ _ _ _ hP.out hb);replace hB:=hide (hB.out.kept hb);replace hw:=hide (hw.out.trans (hb.mono hw.out.size));clear hb H9 y0 y1 y2 y3;have y0:=hB.out.cell 0 rfl;have y1:=hB.out.cell 1 rfl
 have y2:=hB.out.cell 2 rfl;have y3:=hB.out.cell 3 rfl;go_wp2_with fail;refine(HT.out _ _ _ _ _ hP.out).mono ?_;rintro e wa ⟨bo,bc,rfl,hcv,hb⟩;replace hw:=hide (hw.out.trans (hb.mono hw.out.size))
 clear hb y0 y1 y2 y3 hP hB HT;go_wp2;go_ret;exact⟨rfl,hw.out⟩
end Go.Proofs.YtleegaihbgbcjabGreatDoor
namespace Go.Proofs.YtleegaihbgbcjabGreatDoor
open Go.ChangeShapes Go.WideShapes Go.ChangeAt Go.RowKit Num Bit
theorem Tryz.cells5:Tryz.prog.cellsOf 5=1:=by kernel_rfl
theorem u8_wf(x:Int)(h:(Lit.int .u8 x).wf=true):0≤x∧x<256:=by
 simp only[Lit.wf,IntKind.min,IntKind.max,IntKind.signed,IntKind.bits,Bool.and_eq_true,decide_eq_true_eq]at h;simp at h;omega
def Bytes(b:List Nat):Prop:=∀x∈b,x<256
theorem bytes_of{b:List Nat}(h:∀i,i<b.length→gt b i<256):Bytes b:=by
 intro x hx;obtain⟨i,hi,e⟩:=List.getElem_of_mem hx;have:=h i hi;unfold gt at this;rw[List.getD_eq_getElem?_getD,List.getElem?_eq_getElem hi,Option.getD_some]at this;omega
theorem Bytes.byt{b:List Nat}(h:Bytes b):Byt b:=fun i=>by
 by_cases hi:i<b.length
 ·have:=gt_get b i hi;exact h _ (List.mem_of_getElem? this)
 ·rw[gt_out _ _ (by omega)];decide
theorem bdz_of(w:World)(a:Addr)(len:Nat)(zs:List Int)(hl:len≤zs.length)(hc:∀i,i<zs.length→w.cell? (a.add i)=some (.int .u8 (zs.getD i 0)))(hw:∀n∈zs,(Lit.int .u8 n).wf=true):
  ∃xs:List Nat,xs.length=len∧Bd w (some a) xs∧Bytes xs:=by
 have hb:∀i,i<zs.length→0≤zs.getD i 0∧zs.getD i 0<256:=by
  intro i hi;have:zs.getD i 0=zs[i]:=by rw[List.getD_eq_getElem?_getD,List.getElem?_eq_getElem hi];rfl
  rw[this];exact u8_wf _ (hw _ (List.getElem_mem hi))
 have hg:∀i,i<len→(gt ((zs.take len).map Int.toNat) i:Int)=zs.getD i 0:=by
  intro i hi;have h:=hb i (by omega);unfold gt;rw[List.getD_eq_getElem?_getD,List.getElem?_map,List.getElem?_take_of_lt hi,List.getElem?_eq_getElem (by omega:i<zs.length)]
  rw[List.getD_eq_getElem?_getD,List.getElem?_eq_getElem (by omega:i<zs.length)]at h⊢;simp only[Option.map_some,Option.getD_some]at h⊢;omega
 have hlen:((zs.take len).map Int.toNat).length=len:=by simp;omega
 refine⟨(zs.take len).map Int.toNat,hlen,?_,?_⟩
 ·intro h0;obtain⟨b,off,s⟩:=a;have h00:0<zs.length:=by simp at h0;omega
  have c0:=hc 0 h00;have k:=cell_lt (show w.cell? ⟨b,off,s⟩=_ from c0);obtain⟨k1,rfl⟩:=k;refine⟨b,off,rfl,k1,fun i hi=>?_⟩;have hi2:i<len:=by simp at hi;omega
  have ci:=hc i (by omega);rw[hg i hi2,←ci];unfold Addr.add;split
  ·subst_vars;rfl
  ·rfl
 ·refine bytes_of fun i hi=>?_;rw[hlen]at hi;have h:=hb i (by omega);have e:=hg i hi;omega
theorem open_bytes{H:Type}{enc:TypeId×Value→H}{W:World}{base:Nat}{v:Value}{d:DataW H}{p:List MemPlace}(hv:Value.okWide Tryz.prog W .any base 22 v)(h:DataW.Trod enc Tryz.prog W 0 (fun _=>true) true 22 v d p):
  ∃ao xs cap,v=.slice ao xs.length cap∧Bd W ao xs∧Bytes xs∧xs.length≤cap:=by
 obtain⟨a0,len,cap,rfl⟩:=okWide_slice Tryz.underlying22 hv;obtain⟨fuel,hf⟩:=h;have hf2:DataW.trod enc Tryz.prog W 0 (fun _=>true) true fuel 22 [.slice a0 len cap]=some (d,p):=by simpa [Value.cells]using hf
 rcases open_ints Tryz.underlying22 Tryz.underlying5 Tryz.cells5 hf2 with⟨hcs,_⟩ | ⟨x,l,cp,zs,hcs,_,hl,hm,hz,_,hcell,hwz⟩
 ·simp at hcs;obtain⟨rfl,rfl,rfl⟩:=hcs;exact⟨none,[],0,rfl,bd0 _ _,(by intro x hx;cases hx),by simp⟩
 ·simp at hcs;obtain⟨rfl,rfl,rfl⟩:=hcs;have hz2:zs.length=cap:=by simpa using hz
  obtain⟨xs,hx1,hx2,hx3⟩:=bdz_of W x len zs (by omega) hcell hwz;subst hx1;exact⟨some x,xs,cap,rfl,hx2,hx3,hl⟩
end Go.Proofs.YtleegaihbgbcjabGreatDoor
namespace Go.Proofs.YtleegaihbgbcjabGreatDoor
open Go.RowKit Num Bit
theorem and_tt{a b:Bool}(ha:a=true)(hb:b=true):(a&&b)=true:=by rw[ha,hb];rfl
theorem trod_int1{W:World}{fuel:Nat}{t:TypeId}{k:IntKind}{cs:List Value}{y:DataW Unit×List MemPlace}(hu:Tryz.prog.underlying t=some (.int k))(h:DataW.trod (fun _=>()) Tryz.prog W 0 (fun _=>true) false fuel t cs=some y):∃n,cs=[.int k n]∧y.1=.lit (.int k n):=by
 cases fuel with
 | zero=>simp[DataW.trod]at h
 | succ fuel=>
  unfold DataW.trod at h;rw[hu]at h;match cs,h with
  | [.int k' n],h=>
   dsimp only at h;split at h
   ·rename_i hk;obtain⟨rfl,_⟩:=hk;cases h;exact⟨n,rfl,rfl⟩
   ·cases h
theorem mapM_get{α β:Type}(f:α→Option β):∀(L:List α) (ys:List β),L.mapM f=some ys→ys.length=L.length∧∀(i:Nat) a y,L[i]?=some a→ys[i]?=some y→f a=some y
 | [],ys,h=>by
  rw[List.mapM_nil]at h;cases h;exact⟨rfl,fun i a y e=>by simp at e⟩
 | b::L,ys,h=>by
  rw[List.mapM_cons]at h;simp only[Option.bind_eq_bind,Option.bind_eq_some_iff,Option.pure_def,Option.some.injEq]at h;obtain⟨z,h1,zs,h2,rfl⟩:=h;obtain⟨e1,e2⟩:=mapM_get f L zs h2
  refine⟨by simp[e1],fun i a y ha hy=>?_⟩;cases i with
  | zero=>simp at ha hy;subst ha;subst hy;exact h1
  | succ i=>exact e2 i a y (by simpa using ha) (by simpa using hy)
theorem trod_arr{W:World}{fuel n:Nat}{t e:TypeId}{k:IntKind}{cs:List Value}{l:List Int}{p:List MemPlace}(hu:Tryz.prog.underlying t=some (.array n e))(he:Tryz.prog.underlying e=some (.int k))(ce:Tryz.prog.cellsOf e=1)(ct:Tryz.prog.cellsOf t=n)
  (h:DataW.trod (fun _=>()) Tryz.prog W 0 (fun _=>true) false fuel t cs=some (.agg (l.map fun x=>.lit (.int k x)),p)):cs=l.map fun x=>.int k x:=by
 cases fuel with
 | zero=>simp[DataW.trod]at h
 | succ fuel=>
  unfold DataW.trod at h;rw[hu]at h;dsimp only at h;split at h
  ·rename_i hl;rw[Option.map_eq_some_iff]at h;obtain⟨ys,h1,h2⟩:=h;obtain⟨g1,g2⟩:=mapM_get _ _ _ h1;simp only[Prod.mk.injEq,DataW.agg.injEq]at h2;have hy:=h2.1
   have ll:l.length=n:=by
    have:=congrArg List.length hy;simp only[List.length_map]at this;rw[←this,g1,List.length_range]
   rw[ct]at hl;refine List.ext_getElem? fun i=>?_;by_cases hi:i<n
   ·obtain⟨y,ey⟩:∃y,ys[i]?=some y:=⟨_,List.getElem?_eq_getElem (by rw[g1,List.length_range];exact hi)⟩;have e3:=g2 i i y (List.getElem?_range hi) ey;obtain⟨m,e4,e5⟩:=trod_int1 he e3
    have e6:(ys.map (·.1))[i]?=some (.lit (.int k m)):=by rw[List.getElem?_map,ey];exact congrArg some e5
    rw[hy,List.getElem?_map]at e6;obtain⟨x,ex⟩:∃x,l[i]?=some x:=⟨_,List.getElem?_eq_getElem (by omega)⟩;rw[ex]at e6;simp only[Option.map_some,Option.some.injEq,DataW.lit.injEq,Lit.int.injEq,true_and]at e6
    rw[List.getElem?_map,ex,e6];rw[ce,Nat.mul_one]at e4;have e7:=congrArg (·[0]?) e4;simp only[List.getElem?_take_of_lt (Nat.one_pos),List.getElem?_drop,Nat.add_zero]at e7;exact e7
   ·rw[List.getElem?_eq_none (by omega),List.getElem?_eq_none (by rw[List.length_map];omega)]
  ·cases h
theorem cel_laid{W:World}{g:Nat}{nm:String}{cs:Array Value}{vs:List Value}(hg:Tryz.prog.globalNamed nm=some g)(hv:W.var? Tryz.prog nm=some cs)(hc:cs.toList=vs)(hm:∃c t,W.heap[g]?=some (.cells c t (0,0))):Tb W g vs:=by
 obtain⟨c,t,e⟩:=hm;refine⟨t,?_⟩;unfold World.var? at hv;rw[hg]at hv;simp only[Option.bind_some,e,Option.some.injEq]at hv;subst hv;unfold Cel;rw[e,←hc]
def laidL:List (String×DataW Unit):=[("errors.errorType",Rows.laid_errors_errorType),("haystack/rrr.ways",Rows.laid_haystack_rrr_ways),("haystack/rrr.widths",Rows.laid_haystack_rrr_widths)]
theorem gv_of_laid{W:World}(h:laidMetH Tryz.prog laidL W):GV W:=by
 have h0:laidMet Tryz.prog [("haystack/rrr.ways",Rows.laid_haystack_rrr_ways),("haystack/rrr.widths",Rows.laid_haystack_rrr_widths)] W:=And.left (show _∧_ from h)
 obtain⟨ps,⟨g,t,cs,fuel,p,q,hg,ht,hv,hd,⟨g2,t2,cs2,fuel2,p2,q2,hg2,ht2,hv2,hd2,hr,hq⟩,hps⟩,_,hm⟩:=h0;obtain rfl:q2=[]:=hr
 obtain rfl:=Option.some.inj ((show Tryz.prog.globalNamed "haystack/rrr.ways" =some 1 by kernel_rfl).symm.trans hg)
 obtain rfl:=Option.some.inj ((show Tryz.prog.globalNamed "haystack/rrr.widths" =some 0 by kernel_rfl).symm.trans hg2)
 obtain rfl:=Option.some.inj ((show(Tryz.prog.globals[1]?).map (·.type)=some 198 by kernel_rfl).symm.trans ht)
 obtain rfl:=Option.some.inj ((show(Tryz.prog.globals[0]?).map (·.type)=some 191 by kernel_rfl).symm.trans ht2)
 have e1:cs.toList=wv chL:=(trod_arr (l:=[1,15,105,455,1365,3003,5005,6435,6435,5005,3003,1365,455,105,15,1]) Tryz.underlying198 Tryz.underlying126 (by kernel_rfl) (by kernel_rfl) hd).trans rfl
 have e2:cs2.toList=vI wdL:=(trod_arr (l:=[0,4,7,9,11,12,13,13,13,13,12,11,9,7,4,0]) Tryz.underlying191 Tryz.underlying3 (by kernel_rfl) (by kernel_rfl) hd2).trans rfl
 have s1:cs.size=16:=by rw[←Array.length_toList,e1];rfl
 have s2:cs2.size=16:=by rw[←Array.length_toList,e2];rfl
 refine⟨cel_laid hg2 hv2 e2 (hm _ 0 ?_).1,cel_laid hg hv e1 (hm _ 0 ?_).1⟩
 ·rw[hps,hq,s2];exact List.mem_append_right _ (List.mem_append_left _ (List.mem_append_left _ (List.mem_map.2 ⟨0,List.mem_range.2 (by decide),rfl⟩)))
 ·rw[hps,s1];exact List.mem_append_left _ (List.mem_append_left _ (List.mem_map.2 ⟨0,List.mem_range.2 (by decide),rfl⟩))
end Go.Proofs.YtleegaihbgbcjabGreatDoor
