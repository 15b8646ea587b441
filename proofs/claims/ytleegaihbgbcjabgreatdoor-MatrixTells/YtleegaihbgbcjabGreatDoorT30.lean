import Derived.Test.YtleegaihbgbcjabGreatDoorT29
set_option linter.unusedVariables false
set_option linter.unusedSimpArgs false
set_option maxRecDepth 100000
set_option maxHeartbeats 16000000
open Go.Proofs.Tryz
namespace Go.Proofs.YtleegaihbgbcjabGreatDoor
open Go.RowKit Num Bit
theorem Kn(k:Int)(ao:Option Addr)(t:List Nat)(cap:Nat)(w:World)(hK:aD k)(hbad:¬(1<=k/\k<=3))(hx:Bd w ao t)(hB:iR t)(hn:t.length<=3000)(G:GV w):
  Qq 8 #[.int .i64 k,.slice ao t.length cap] w (.tuple #[.agg #[.int .i64 0,.int .i64 0,.slice none 0 0,.slice none 0 0],.int .i64 5]):=by
 obtain⟨i0,hi,hz0,hz1,hz2⟩:=info_parts jL;obtain⟨iv,hiv,hzv0,hzv1,hzv2⟩:=info_parts oT;have HG:=ag G;have HX:=ag hx;have g2:=G.two;obtain⟨n,hnn⟩:∃n,Hid (n=t.length):=⟨_,rfl⟩
 have hn2:n<=3000:=by rw[hnn.out];exact hn
 have CR:Hid (∀l so sc gl w0,l<8->Bd w0 so (Mx.sy t l)->aa w0 gl [.int .i64 (l:Int)] 3->Calls prog 27 #[.slice so n sc,.func (.func 24) #[] #[.pointer (some ⟨gl,0,none⟩)]] w0 fun e w'=>∃bo dap,e=.returned (.agg #[.int .i64 (n:Nat),.slice bo (aC (Mx.rw_ t l)).length dap])/\Wd w' bo (aC (Mx.rw_ t l))/\(aC (Mx.rw_ t l)).length<=dap/\Below w0.heap.size w0 w'):=fun l so sc gl w0 hl hb hc=>by
  have:=uQ so (Mx.sy t l) sc l gl w0 hb (Mx.byt_sy hB l) (by rw[Mx.length_sy];omega) hl hc;rw[<-Mx.rw_sy,Mx.length_sy,<-hnn.out]at this;exact this
 have CV:Hid (∀l bo dap w0,Below w.heap.size w w0->Wd w0 bo (aC (Mx.rw_ t l))->(aC (Mx.rw_ t l)).length<=dap->Calls prog 26 #[.int .i64 k,.agg #[.int .i64 (n:Nat),.slice bo (aC (Mx.rw_ t l)).length dap]] w0 fun e w'=>∃cs:List Value,e=.returned (.tuple #[.agg cs.toArray,.int .i64 5])/\KI w' cs (kB k (t.length:Int) (aC (Mx.rw_ t l)))/\Below w0.heap.size w0 w'/\fm w0.heap.size cs):=fun l bo dap w0 hb h1 h2=>by
  have:=xC k (n:Int) bo (aC (Mx.rw_ t l)) dap w0 hK (by unfold aD;omega) h1 (cY _ _) h2 ⟨by omega,by unfold aC;rw[cM,Mx.length_rw];omega⟩ (G.keep hb)
  have e:kE k (n:Int) (aC (Mx.rw_ t l))=5:=by unfold kE;rw[if_neg (by omega),if_neg (by omega),if_neg (by omega)]
  rw[e]at this;rw[<-hnn.out];exact this
 rw[<-hnn.out];have n1:¬(n:Int)>8192:=by omega
 obtain⟨W,hW⟩:∃W,W=w.alloc (.cells #[.int .i64 0,.int .i64 0,.slice none 0 0,.slice none 0 0] 27):=⟨_,rfl⟩;have bW:=ag (show Below w.heap.size w W by rw[hW];exact below_alloc w _)
 have B4:=ag (show aa W w.heap.size [.int .i64 0,.int .i64 0,.slice none 0 0,.slice none 0 0] 27 by rw[hW];exact aa.new w _ _);clear hx G;go_enter func8,ntmps8;go_upto_region 3 with fail
 rw[<-hW];go_cut [6] (fun v6 wx=>QM w k n v6 wx)
 case first=>
  refine ba [7] (fun _=>True) (by kernel_rfl) ?_
  have C4:=ag (B4.out.drew);have HBc:=ag (bW.out.drew);have sY:=C4.out.lt;clear CR CV HG HX hW bW B4;generalize W.drew=Y at *;have hS:True:=trivial;refine aK 0 hS ?_;refine aK 1 hS ?_
  refine aK 2 hS ?_;refine aw.threeM 3 4 6 (by kernel_rfl) rfl rfl rfl ?_ ?_ ?_
  .intro K hK;refine c_ Y.heap.size 63 iv (.agg zv.toArray) 22 underlying24 hiv hzv0 hzv1 8 rfl rfl (by rw[hzv2];omega) (by unfold maxLen;omega) (Nat.le_refl _) ?_;intro YL hown hgr
   have CL:=ag (i_ hown);have bYL:Below Y.heap.size Y YL:=(Below.refl _ _).grown hgr (Nat.le_refl _) (fun k h=>by cases h);clear hown hgr;refine hK.out _ _ (fun _=>trivial) ?_;clear hK K
   try simp only[Act.put,ar,an,am,ah,aj,ai]
   replace C4:=ag (C4.out.kept bYL);replace HBc:=ag (bg HBc.out bYL);have sYL:=CL.out.lt;clear bYL;obtain⟨gL,hgL⟩:∃g,Hid (g=Y.heap.size):=⟨_,rfl⟩;rw[<-hgL.out]at CL sYL⊢
   have loL:Y.heap.size<=gL:=by rw[hgL.out];exact Nat.le_refl _
   clear hgL;refine aw.two 4 6 (by kernel_rfl) rfl rfl ?_ ?_
   .intro K hK;refine c_ YL.heap.size 3 i0 (.int .i64 0) 1 underlying25 hi hz0 hz1 8 rfl rfl (by rw[hz2];omega) (by unfold maxLen;omega) (Nat.le_refl _) ?_;intro YLZ hown hgr
    have CZ:=ag (fi (k:=.i64) (n:=8) hown);have bYLZ:Below YL.heap.size YL YLZ:=(Below.refl _ _).grown hgr (Nat.le_refl _) (fun k h=>by cases h);clear hown hgr;refine hK.out _ _ (fun _=>trivial) ?_
    clear hK K;try simp only[Act.put,ar,an,am,ah,aj,ai]
    replace CL:=ag (CL.out.kept bYLZ);replace C4:=ag (C4.out.kept bYLZ);replace HBc:=ag (bg HBc.out bYLZ);have sYLZ:=CZ.out.lt;clear bYLZ
    obtain⟨gZ,hgZ⟩:∃g,Hid (g=YL.heap.size):=⟨_,rfl⟩;rw[<-hgZ.out]at CZ sYLZ⊢;have loZ:YL.heap.size<=gZ:=by rw[hgZ.out];exact Nat.le_refl _
    clear hgZ;have hS:True:=trivial;refine aK 5 hS ?_;refine aO 6 ?_;intro K hK;go_simp;refine hK.out _ _ (fun _=>trivial) ?_;clear hK K;try simp only[Act.put,ar,an,am,ah,aj,ai]
    obtain⟨YLZX,hYLZX⟩:∃YLZX,YLZX=YLZ.alloc (.cells #[.int .i64 0,.int .i64 0,.slice none 0 0,.slice none 0 0] 27):=⟨_,rfl⟩;have bYLZX:Below YLZ.heap.size YLZ YLZX:=by rw[hYLZX];exact below_alloc _ _
    have CX:=ag (show aa YLZX YLZ.heap.size [.int .i64 0,.int .i64 0,.slice none 0 0,.slice none 0 0] 27 by rw[hYLZX];exact aa.new _ _ _);rw[<-hYLZX];clear hYLZX;replace CL:=ag (CL.out.kept bYLZX)
    replace CZ:=ag (CZ.out.kept bYLZX);replace C4:=ag (C4.out.kept bYLZX);replace HBc:=ag (bg HBc.out bYLZX);have sYLZX:=CX.out.lt;clear bYLZX
    obtain⟨gX,hgX⟩:∃g,Hid (g=YLZ.heap.size):=⟨_,rfl⟩;rw[<-hgX.out]at CX sYLZX⊢;have loX:YLZ.heap.size<=gX:=by rw[hgX.out];exact Nat.le_refl _
    clear hgX;have hS:True:=trivial;refine aO 7 ?_;intro K hK;have X4:=C4.out.lt
    refine iw gX [.int .i64 0,.int .i64 0,.slice none 0 0,.slice none 0 0] [.int .i64 k,.int .i64 (n:Int),.slice (some ⟨gL,0,none⟩) 8 8,.slice (some ⟨gZ,0,none⟩) 8 8] rfl rfl CX.out rfl fD (by simp[Value.oneCell']) ?_
    intro wE CE OE;refine hK.out _ _ (fun h=>absurd (by decide) h) ?_;clear hK K;try simp only[Act.put,ar,an,am,ah,aj,ai]
    refine aw.done (by kernel_rfl) ?_ _
    have hQ:Hid (QM w k n (.pointer (some ⟨gX,0,none⟩)) wE):=⟨gL,gZ,gX,rfl,⟨by omega,by omega,by omega,by omega,by omega,by omega⟩,CE,OE.cel CL.out (by omega),OE.cel CZ.out (by omega),OE.cel C4.out (by omega),HBc.out.trans (OE.below (by omega))⟩
    clear CE OE CL CZ CX C4 HBc;go_wp2_with fail;go_meet;exact hQ.out
   .intro K hK;go_simp;refine hK.out _ _ (fun _=>trivial) ?_;clear hK K;try simp only[Act.put,ar,an,am,ah,aj,ai]
    obtain⟨YLX,hYLX⟩:∃YLX,YLX=YL.alloc (.cells #[.int .i64 0,.int .i64 0,.slice none 0 0,.slice none 0 0] 27):=⟨_,rfl⟩;have bYLX:Below YL.heap.size YL YLX:=by rw[hYLX];exact below_alloc _ _
    have CX:=ag (show aa YLX YL.heap.size [.int .i64 0,.int .i64 0,.slice none 0 0,.slice none 0 0] 27 by rw[hYLX];exact aa.new _ _ _);rw[<-hYLX];clear hYLX;replace CL:=ag (CL.out.kept bYLX)
    replace C4:=ag (C4.out.kept bYLX);replace HBc:=ag (bg HBc.out bYLX);have sYLX:=CX.out.lt;clear bYLX;obtain⟨gX,hgX⟩:∃g,Hid (g=YL.heap.size):=⟨_,rfl⟩;rw[<-hgX.out]at CX sYLX⊢
    have loX:YL.heap.size<=gX:=by rw[hgX.out];exact Nat.le_refl _
    clear hgX;refine aO 4 ?_;intro K hK;refine c_ YLX.heap.size 3 i0 (.int .i64 0) 1 underlying25 hi hz0 hz1 8 rfl rfl (by rw[hz2];omega) (by unfold maxLen;omega) (Nat.le_refl _) ?_;intro YLXZ hown hgr
    have CZ:=ag (fi (k:=.i64) (n:=8) hown);have bYLXZ:Below YLX.heap.size YLX YLXZ:=(Below.refl _ _).grown hgr (Nat.le_refl _) (fun k h=>by cases h);clear hown hgr;refine hK.out _ _ (fun _=>trivial) ?_
    clear hK K;try simp only[Act.put,ar,an,am,ah,aj,ai]
    replace CL:=ag (CL.out.kept bYLXZ);replace CX:=ag (CX.out.kept bYLXZ);replace C4:=ag (C4.out.kept bYLXZ);replace HBc:=ag (bg HBc.out bYLXZ);have sYLXZ:=CZ.out.lt;clear bYLXZ
    obtain⟨gZ,hgZ⟩:∃g,Hid (g=YLX.heap.size):=⟨_,rfl⟩;rw[<-hgZ.out]at CZ sYLXZ⊢;have loZ:YLX.heap.size<=gZ:=by rw[hgZ.out];exact Nat.le_refl _
    clear hgZ;have hS:True:=trivial;refine aK 5 hS ?_;refine aO 7 ?_;intro K hK;have X4:=C4.out.lt
    refine iw gX [.int .i64 0,.int .i64 0,.slice none 0 0,.slice none 0 0] [.int .i64 k,.int .i64 (n:Int),.slice (some ⟨gL,0,none⟩) 8 8,.slice (some ⟨gZ,0,none⟩) 8 8] rfl rfl CX.out rfl fD (by simp[Value.oneCell']) ?_
    intro wE CE OE;refine hK.out _ _ (fun h=>absurd (by decide) h) ?_;clear hK K;try simp only[Act.put,ar,an,am,ah,aj,ai]
    refine aw.done (by kernel_rfl) ?_ _
    have hQ:Hid (QM w k n (.pointer (some ⟨gX,0,none⟩)) wE):=⟨gL,gZ,gX,rfl,⟨by omega,by omega,by omega,by omega,by omega,by omega⟩,CE,OE.cel CL.out (by omega),OE.cel CZ.out (by omega),OE.cel C4.out (by omega),HBc.out.trans (OE.below (by omega))⟩
    clear CE OE CL CZ CX C4 HBc;go_wp2_with fail;go_meet;exact hQ.out
  .intro K hK;refine c_ Y.heap.size 3 i0 (.int .i64 0) 1 underlying25 hi hz0 hz1 8 rfl rfl (by rw[hz2];omega) (by unfold maxLen;omega) (Nat.le_refl _) ?_;intro YZ hown hgr
   have CZ:=ag (fi (k:=.i64) (n:=8) hown);have bYZ:Below Y.heap.size Y YZ:=(Below.refl _ _).grown hgr (Nat.le_refl _) (fun k h=>by cases h);clear hown hgr;refine hK.out _ _ (fun _=>trivial) ?_;clear hK K
   try simp only[Act.put,ar,an,am,ah,aj,ai]
   replace C4:=ag (C4.out.kept bYZ);replace HBc:=ag (bg HBc.out bYZ);have sYZ:=CZ.out.lt;clear bYZ;obtain⟨gZ,hgZ⟩:∃g,Hid (g=Y.heap.size):=⟨_,rfl⟩;rw[<-hgZ.out]at CZ sYZ⊢
   have loZ:Y.heap.size<=gZ:=by rw[hgZ.out];exact Nat.le_refl _
   clear hgZ;refine aw.two 3 6 (by kernel_rfl) rfl rfl ?_ ?_
   .intro K hK;refine c_ YZ.heap.size 63 iv (.agg zv.toArray) 22 underlying24 hiv hzv0 hzv1 8 rfl rfl (by rw[hzv2];omega) (by unfold maxLen;omega) (Nat.le_refl _) ?_;intro YZL hown hgr
    have CL:=ag (i_ hown);have bYZL:Below YZ.heap.size YZ YZL:=(Below.refl _ _).grown hgr (Nat.le_refl _) (fun k h=>by cases h);clear hown hgr;refine hK.out _ _ (fun _=>trivial) ?_;clear hK K
    try simp only[Act.put,ar,an,am,ah,aj,ai]
    replace CZ:=ag (CZ.out.kept bYZL);replace C4:=ag (C4.out.kept bYZL);replace HBc:=ag (bg HBc.out bYZL);have sYZL:=CL.out.lt;clear bYZL
    obtain⟨gL,hgL⟩:∃g,Hid (g=YZ.heap.size):=⟨_,rfl⟩;rw[<-hgL.out]at CL sYZL⊢;have loL:YZ.heap.size<=gL:=by rw[hgL.out];exact Nat.le_refl _
    clear hgL;have hS:True:=trivial;refine aK 5 hS ?_;refine aO 6 ?_;intro K hK;go_simp;refine hK.out _ _ (fun _=>trivial) ?_;clear hK K;try simp only[Act.put,ar,an,am,ah,aj,ai]
    obtain⟨YZLX,hYZLX⟩:∃YZLX,YZLX=YZL.alloc (.cells #[.int .i64 0,.int .i64 0,.slice none 0 0,.slice none 0 0] 27):=⟨_,rfl⟩;have bYZLX:Below YZL.heap.size YZL YZLX:=by rw[hYZLX];exact below_alloc _ _
    have CX:=ag (show aa YZLX YZL.heap.size [.int .i64 0,.int .i64 0,.slice none 0 0,.slice none 0 0] 27 by rw[hYZLX];exact aa.new _ _ _);rw[<-hYZLX];clear hYZLX;replace CZ:=ag (CZ.out.kept bYZLX)
    replace CL:=ag (CL.out.kept bYZLX);replace C4:=ag (C4.out.kept bYZLX);replace HBc:=ag (bg HBc.out bYZLX);have sYZLX:=CX.out.lt;clear bYZLX
    obtain⟨gX,hgX⟩:∃g,Hid (g=YZL.heap.size):=⟨_,rfl⟩;rw[<-hgX.out]at CX sYZLX⊢;have loX:YZL.heap.size<=gX:=by rw[hgX.out];exact Nat.le_refl _
    clear hgX;have hS:True:=trivial;refine aO 7 ?_;intro K hK;have X4:=C4.out.lt
    refine iw gX [.int .i64 0,.int .i64 0,.slice none 0 0,.slice none 0 0] [.int .i64 k,.int .i64 (n:Int),.slice (some ⟨gL,0,none⟩) 8 8,.slice (some ⟨gZ,0,none⟩) 8 8] rfl rfl CX.out rfl fD (by simp[Value.oneCell']) ?_
    intro wE CE OE;refine hK.out _ _ (fun h=>absurd (by decide) h) ?_;clear hK K;try simp only[Act.put,ar,an,am,ah,aj,ai]
    refine aw.done (by kernel_rfl) ?_ _
    have hQ:Hid (QM w k n (.pointer (some ⟨gX,0,none⟩)) wE):=⟨gL,gZ,gX,rfl,⟨by omega,by omega,by omega,by omega,by omega,by omega⟩,CE,OE.cel CL.out (by omega),OE.cel CZ.out (by omega),OE.cel C4.out (by omega),HBc.out.trans (OE.below (by omega))⟩
    clear CE OE CL CZ CX C4 HBc;go_wp2_with fail;go_meet;exact hQ.out
   .intro K hK;go_simp;refine hK.out _ _ (fun _=>trivial) ?_;clear hK K;try simp only[Act.put,ar,an,am,ah,aj,ai]
    obtain⟨YZX,hYZX⟩:∃YZX,YZX=YZ.alloc (.cells #[.int .i64 0,.int .i64 0,.slice none 0 0,.slice none 0 0] 27):=⟨_,rfl⟩;have bYZX:Below YZ.heap.size YZ YZX:=by rw[hYZX];exact below_alloc _ _
    have CX:=ag (show aa YZX YZ.heap.size [.int .i64 0,.int .i64 0,.slice none 0 0,.slice none 0 0] 27 by rw[hYZX];exact aa.new _ _ _);rw[<-hYZX];clear hYZX;replace CZ:=ag (CZ.out.kept bYZX)
    replace C4:=ag (C4.out.kept bYZX);replace HBc:=ag (bg HBc.out bYZX);have sYZX:=CX.out.lt;clear bYZX;obtain⟨gX,hgX⟩:∃g,Hid (g=YZ.heap.size):=⟨_,rfl⟩;rw[<-hgX.out]at CX sYZX⊢
    have loX:YZ.heap.size<=gX:=by rw[hgX.out];exact Nat.le_refl _
    clear hgX;refine aO 3 ?_;intro K hK;refine c_ YZX.heap.size 63 iv (.agg zv.toArray) 22 underlying24 hiv hzv0 hzv1 8 rfl rfl (by rw[hzv2];omega) (by unfold maxLen;omega) (Nat.le_refl _) ?_
    intro YZXL hown hgr;have CL:=ag (i_ hown);have bYZXL:Below YZX.heap.size YZX YZXL:=(Below.refl _ _).grown hgr (Nat.le_refl _) (fun k h=>by cases h);clear hown hgr;refine hK.out _ _ (fun _=>trivial) ?_
    clear hK K;try simp only[Act.put,ar,an,am,ah,aj,ai]
    replace CZ:=ag (CZ.out.kept bYZXL);replace CX:=ag (CX.out.kept bYZXL);replace C4:=ag (C4.out.kept bYZXL);replace HBc:=ag (bg HBc.out bYZXL);have sYZXL:=CL.out.lt;clear bYZXL
    obtain⟨gL,hgL⟩:∃g,Hid (g=YZX.heap.size):=⟨_,rfl⟩;rw[<-hgL.out]at CL sYZXL⊢;have loL:YZX.heap.size<=gL:=by rw[hgL.out];exact Nat.le_refl _
    clear hgL;have hS:True:=trivial;refine aK 5 hS ?_;refine aO 7 ?_;intro K hK;have X4:=C4.out.lt
    refine iw gX [.int .i64 0,.int .i64 0,.slice none 0 0,.slice none 0 0] [.int .i64 k,.int .i64 (n:Int),.slice (some ⟨gL,0,none⟩) 8 8,.slice (some ⟨gZ,0,none⟩) 8 8] rfl rfl CX.out rfl fD (by simp[Value.oneCell']) ?_
    intro wE CE OE;refine hK.out _ _ (fun h=>absurd (by decide) h) ?_;clear hK K;try simp only[Act.put,ar,an,am,ah,aj,ai]
    refine aw.done (by kernel_rfl) ?_ _
    have hQ:Hid (QM w k n (.pointer (some ⟨gX,0,none⟩)) wE):=⟨gL,gZ,gX,rfl,⟨by omega,by omega,by omega,by omega,by omega,by omega⟩,CE,OE.cel CL.out (by omega),OE.cel CZ.out (by omega),OE.cel C4.out (by omega),HBc.out.trans (OE.below (by omega))⟩
    clear CE OE CL CZ CX C4 HBc;go_wp2_with fail;go_meet;exact hQ.out
  .intro K hK;go_simp;refine hK.out _ _ (fun _=>trivial) ?_;clear hK K;try simp only[Act.put,ar,an,am,ah,aj,ai]
   obtain⟨YX,hYX⟩:∃YX,YX=Y.alloc (.cells #[.int .i64 0,.int .i64 0,.slice none 0 0,.slice none 0 0] 27):=⟨_,rfl⟩;have bYX:Below Y.heap.size Y YX:=by rw[hYX];exact below_alloc _ _
   have CX:=ag (show aa YX Y.heap.size [.int .i64 0,.int .i64 0,.slice none 0 0,.slice none 0 0] 27 by rw[hYX];exact aa.new _ _ _);rw[<-hYX];clear hYX;replace C4:=ag (C4.out.kept bYX)
   replace HBc:=ag (bg HBc.out bYX);have sYX:=CX.out.lt;clear bYX;obtain⟨gX,hgX⟩:∃g,Hid (g=Y.heap.size):=⟨_,rfl⟩;rw[<-hgX.out]at CX sYX⊢
   have loX:Y.heap.size<=gX:=by rw[hgX.out];exact Nat.le_refl _
   clear hgX;refine aw.two 3 4 (by kernel_rfl) rfl rfl ?_ ?_
   .intro K hK;refine c_ YX.heap.size 63 iv (.agg zv.toArray) 22 underlying24 hiv hzv0 hzv1 8 rfl rfl (by rw[hzv2];omega) (by unfold maxLen;omega) (Nat.le_refl _) ?_;intro YXL hown hgr
    have CL:=ag (i_ hown);have bYXL:Below YX.heap.size YX YXL:=(Below.refl _ _).grown hgr (Nat.le_refl _) (fun k h=>by cases h);clear hown hgr;refine hK.out _ _ (fun _=>trivial) ?_;clear hK K
    try simp only[Act.put,ar,an,am,ah,aj,ai]
    replace CX:=ag (CX.out.kept bYXL);replace C4:=ag (C4.out.kept bYXL);replace HBc:=ag (bg HBc.out bYXL);have sYXL:=CL.out.lt;clear bYXL
    obtain⟨gL,hgL⟩:∃g,Hid (g=YX.heap.size):=⟨_,rfl⟩;rw[<-hgL.out]at CL sYXL⊢;have loL:YX.heap.size<=gL:=by rw[hgL.out];exact Nat.le_refl _
    clear hgL;refine aO 4 ?_;intro K hK;refine c_ YXL.heap.size 3 i0 (.int .i64 0) 1 underlying25 hi hz0 hz1 8 rfl rfl (by rw[hz2];omega) (by unfold maxLen;omega) (Nat.le_refl _) ?_;intro YXLZ hown hgr
    have CZ:=ag (fi (k:=.i64) (n:=8) hown);have bYXLZ:Below YXL.heap.size YXL YXLZ:=(Below.refl _ _).grown hgr (Nat.le_refl _) (fun k h=>by cases h);clear hown hgr;refine hK.out _ _ (fun _=>trivial) ?_
    clear hK K;try simp only[Act.put,ar,an,am,ah,aj,ai]
    replace CX:=ag (CX.out.kept bYXLZ);replace CL:=ag (CL.out.kept bYXLZ);replace C4:=ag (C4.out.kept bYXLZ);replace HBc:=ag (bg HBc.out bYXLZ);have sYXLZ:=CZ.out.lt;clear bYXLZ
    obtain⟨gZ,hgZ⟩:∃g,Hid (g=YXL.heap.size):=⟨_,rfl⟩;rw[<-hgZ.out]at CZ sYXLZ⊢;have loZ:YXL.heap.size<=gZ:=by rw[hgZ.out];exact Nat.le_refl _
    clear hgZ;have hS:True:=trivial;refine aK 5 hS ?_;refine aO 7 ?_;intro K hK;have X4:=C4.out.lt
    refine iw gX [.int .i64 0,.int .i64 0,.slice none 0 0,.slice none 0 0] [.int .i64 k,.int .i64 (n:Int),.slice (some ⟨gL,0,none⟩) 8 8,.slice (some ⟨gZ,0,none⟩) 8 8] rfl rfl CX.out rfl fD (by simp[Value.oneCell']) ?_
    intro wE CE OE;refine hK.out _ _ (fun h=>absurd (by decide) h) ?_;clear hK K;try simp only[Act.put,ar,an,am,ah,aj,ai]
    refine aw.done (by kernel_rfl) ?_ _
    have hQ:Hid (QM w k n (.pointer (some ⟨gX,0,none⟩)) wE):=⟨gL,gZ,gX,rfl,⟨by omega,by omega,by omega,by omega,by omega,by omega⟩,CE,OE.cel CL.out (by omega),OE.cel CZ.out (by omega),OE.cel C4.out (by omega),HBc.out.trans (OE.below (by omega))⟩
    clear CE OE CL CZ CX C4 HBc;go_wp2_with fail;go_meet;exact hQ.out
   .intro K hK;refine c_ YX.heap.size 3 i0 (.int .i64 0) 1 underlying25 hi hz0 hz1 8 rfl rfl (by rw[hz2];omega) (by unfold maxLen;omega) (Nat.le_refl _) ?_;intro YXZ hown hgr
    have CZ:=ag (fi (k:=.i64) (n:=8) hown);have bYXZ:Below YX.heap.size YX YXZ:=(Below.refl _ _).grown hgr (Nat.le_refl _) (fun k h=>by cases h);clear hown hgr;refine hK.out _ _ (fun _=>trivial) ?_
    clear hK K;try simp only[Act.put,ar,an,am,ah,aj,ai]
    replace CX:=ag (CX.out.kept bYXZ);replace C4:=ag (C4.out.kept bYXZ);replace HBc:=ag (bg HBc.out bYXZ);have sYXZ:=CZ.out.lt;clear bYXZ
    obtain⟨gZ,hgZ⟩:∃g,Hid (g=YX.heap.size):=⟨_,rfl⟩;rw[<-hgZ.out]at CZ sYXZ⊢;have loZ:YX.heap.size<=gZ:=by rw[hgZ.out];exact Nat.le_refl _
    clear hgZ;refine aO 3 ?_;intro K hK;refine c_ YXZ.heap.size 63 iv (.agg zv.toArray) 22 underlying24 hiv hzv0 hzv1 8 rfl rfl (by rw[hzv2];omega) (by unfold maxLen;omega) (Nat.le_refl _) ?_
    intro YXZL hown hgr;have CL:=ag (i_ hown);have bYXZL:Below YXZ.heap.size YXZ YXZL:=(Below.refl _ _).grown hgr (Nat.le_refl _) (fun k h=>by cases h);clear hown hgr;refine hK.out _ _ (fun _=>trivial) ?_
    clear hK K;try simp only[Act.put,ar,an,am,ah,aj,ai]
    replace CX:=ag (CX.out.kept bYXZL);replace CZ:=ag (CZ.out.kept bYXZL);replace C4:=ag (C4.out.kept bYXZL);replace HBc:=ag (bg HBc.out bYXZL);have sYXZL:=CL.out.lt;clear bYXZL
    obtain⟨gL,hgL⟩:∃g,Hid (g=YXZ.heap.size):=⟨_,rfl⟩;rw[<-hgL.out]at CL sYXZL⊢;have loL:YXZ.heap.size<=gL:=by rw[hgL.out];exact Nat.le_refl _
    clear hgL;have hS:True:=trivial;refine aK 5 hS ?_;refine aO 7 ?_;intro K hK;have X4:=C4.out.lt
    refine iw gX [.int .i64 0,.int .i64 0,.slice none 0 0,.slice none 0 0] [.int .i64 k,.int .i64 (n:Int),.slice (some ⟨gL,0,none⟩) 8 8,.slice (some ⟨gZ,0,none⟩) 8 8] rfl rfl CX.out rfl fD (by simp[Value.oneCell']) ?_
    intro wE CE OE;refine hK.out _ _ (fun h=>absurd (by decide) h) ?_;clear hK K;try simp only[Act.put,ar,an,am,ah,aj,ai]
    refine aw.done (by kernel_rfl) ?_ _
    have hQ:Hid (QM w k n (.pointer (some ⟨gX,0,none⟩)) wE):=⟨gL,gZ,gX,rfl,⟨by omega,by omega,by omega,by omega,by omega,by omega⟩,CE,OE.cel CL.out (by omega),OE.cel CZ.out (by omega),OE.cel C4.out (by omega),HBc.out.trans (OE.below (by omega))⟩
    clear CE OE CL CZ CX C4 HBc;go_wp2_with fail;go_meet;exact hQ.out
 case rest=>
  obtain⟨gL,gz,gx,rfl,⟨o1,o2,o3,o4,o5,o6⟩,cx,cl,cz,c4,hbx⟩:=hcut;have C4:=ag c4;have CX:=ag cx;have HBx:=ag hbx;have HZ:=ag (show aa wc gz (vK .i64 (zq t 0)) 3 by rw[sC];exact cz)
  have HRw:=ag (show dP wc gL wc.heap.size (fun l=>kB k (t.length:Int) (aC (Mx.rw_ t l))) []from⟨Nat.zero_le _,by simpa using cl,fun l c e=>by simp at e⟩)
  have HS:=ag (show Bd wc ao (Mx.sy t 0)by rw[Mx.sy_zero];exact HX.out.keep hbx);have bz:=CX.out.lt;have bzL:=cl.lt;have bzZ:=cz.lt;obtain⟨B0,hB0⟩:∃B0,Hid (B0=wc.heap.size):=⟨_,rfl⟩
  have hLB:gL<B0:=by rw[hB0.out];exact bzL
  have hzB:gz<B0:=by rw[hB0.out];exact bzZ
  have hxB:gx<B0:=by rw[hB0.out];exact bz
  have h0B:Hid (B0<=wc.heap.size):=by rw[hB0.out];exact Nat.le_refl _
  rw[<-hB0.out]at HRw
  have HAp:Hid (∀a,ao=some a->0<t.length->a.block<w.heap.size\/B0<=a.block):=fun a ha h0=>by
   obtain⟨b,off,e,hb,_⟩:=HX.out h0;rw[e]at ha;cases ha;exact .inl hb
  clear cx cl cz c4 hbx bz bzL bzZ HX hW bW B4 hi hz0 hz1 hz2 hiv hzv0 hzv1 hzv2 hB0;go_wp2
  go_loopw [7,23] (fun vs vl wr=>vl=.int .i64 0/\vs=.slice ao n cap/\Hid (Bd wr ao (Mx.sy t 0))/\Hid (aa wr w.heap.size [.int .i64 0,.int .i64 0,.slice none 0 0,.slice none 0 0] 27)/\Hid (Below w.heap.size w wr)) (fun _ vl _=>8-(intOf vl).toNat)
  case atStart=>exact⟨rfl,rfl,HS,C4,HBx⟩
  case round=>
   clear HS HAp HRw HZ CX C4 h0B HBx;obtain⟨rfl,rfl,HS,C4,HB⟩:=hrel;obtain⟨W1,hW1⟩:∃W1,W1=wr.alloc (.cells #[.int .i64 0] 3):=⟨_,rfl⟩;have b1:Below wr.heap.size wr W1:=by rw[hW1];exact below_alloc wr _
   have CLb:=ag (show aa W1 wr.heap.size [.int .i64 ((0:Nat):Int)] 3 by rw[hW1];exact aa.new wr _ _);replace HS:=ag (HS.out.keep b1);replace C4:=ag (C4.out.kept b1)
   replace HB:=ag (bg HB.out b1);have CRq:=ag (CR.out 0 ao cap wr.heap.size W1 (by decide) HS.out CLb.out);go_wp2_with fail;rw[<-hW1];clear b1 hW1 CR;refine CRq.out.mono ?_
   rintro e w2 ⟨bo,dap,rfl,x1,x2,hb⟩;replace C4:=ag (C4.out.kept hb);replace HB:=ag (bg HB.out hb);have CVq:=ag (CV.out 0 bo dap w2 HB.out x1 x2);clear hb CRq CV x1 x2 HS CLb
   go_wp2_with fail;refine CVq.out.mono ?_;rintro e w3 ⟨cs,rfl,hki,hb,nf⟩;replace C4:=ag (C4.out.kept hb);replace HB:=ag (bg HB.out hb);have HL:=ag hki.arg.len;have H1:=ag hki.arg.one
   have H22:=ag (lQ.trans hki.arg.nine);have l4:=C4.out.lt;clear hb CVq nf hki;go_wp2_with (refine pF mY ?_);intro w4 B5 hb4 hs4;try simp only[Act.put,ah,List.set]
   have HB4:=ag hb4;clear hb4;go_wp2_with (refine aJ w3.heap.size zv cs rfl rfl B5 H22.out HL.out H1.out ?_);intro w5 B6 hO5;try simp only[Act.put,ah,List.set]
   have b5:Below w3.heap.size w3 w5:=HB4.out.trans (hO5.below (Nat.le_refl _));replace C4:=ag (C4.out.kept b5);replace HB:=ag (bg HB.out b5);have c4:=C4.out;clear b5 HB4 hO5 B5 B6 hs4
   go_wp2_with (refine aJ w.heap.size [.int .i64 0,.int .i64 0,.slice none 0 0,.slice none 0 0] [.int .i64 0,.int .i64 0,.slice none 0 0,.slice none 0 0] rfl rfl c4 rfl fD (by simp[Value.oneCell']) ?_)
   intro w6 c6 o6;try simp only[Act.put,ah,List.set]
   have HC:=ag c6;have HB6:=ag (HB.out.trans (o6.below (Nat.le_refl _)));clear c6 o6 C4 HB c4;go_wp2
   (try simp only[Exit.inBlock,Exit.then]);exact bodyPost_ret (bj rfl w.heap.size _ rfl HC.out underlying27 fD) rfl ⟨rfl,HB6.out⟩
open Go.ChangeShapes Go.WideShapes Go.ChangeAt Go.RowKit Num Bit
theorem Tryz.cells5:prog.cellsOf 5=1:=by kernel_rfl
theorem sU(x:Int)(h:(Lit.int .u8 x).wf=true):0<=x/\x<256:=by
 simp only[Lit.wf,IntKind.min,IntKind.max,IntKind.signed,IntKind.bits,Bool.and_eq_true,decide_eq_true_eq]at h;simp at h;omega
def sB(b:List Nat):Prop:=∀x∈b,x<256
theorem I2{b:List Nat}(h:∀i,i<b.length->gt b i<256):sB b:=by
 intro x hx;obtain⟨i,hi,e⟩:=List.getElem_of_mem hx;have:=h i hi;unfold gt at this;rw[List.getD_eq_getElem?_getD,List.getElem?_eq_getElem hi,Option.getD_some]at this;omega
theorem JO(w:World)(a:Addr)(len:Nat)(zs:List Int)(hl:len<=zs.length)(hc:∀i,i<zs.length->w.cell? (a.add i)=some (.int .u8 (zs.getD i 0)))(hw:∀n∈zs,(Lit.int .u8 n).wf=true):
  ∃xs:List Nat,xs.length=len/\Bd w (some a) xs/\sB xs:=by
 have hb:∀i,i<zs.length->0<=zs.getD i 0/\zs.getD i 0<256:=by
  intro i hi;have:zs.getD i 0=zs[i]:=by rw[List.getD_eq_getElem?_getD,List.getElem?_eq_getElem hi];rfl
  rw[this];exact sU _ (hw _ (List.getElem_mem hi))
 have hg:∀i,i<len->(gt ((zs.take len).map Int.toNat) i:Int)=zs.getD i 0:=by
  intro i hi;have h:=hb i (by omega);unfold gt;rw[List.getD_eq_getElem?_getD,List.getElem?_map,List.getElem?_take_of_lt hi,List.getElem?_eq_getElem (by omega:i<zs.length)]
  rw[List.getD_eq_getElem?_getD,List.getElem?_eq_getElem (by omega:i<zs.length)]at h⊢;simp only[Option.map_some,Option.getD_some]at h⊢;omega
 have hlen:((zs.take len).map Int.toNat).length=len:=by simp;omega
 refine⟨(zs.take len).map Int.toNat,hlen,?_,?_⟩
 .intro h0;obtain⟨b,off,s⟩:=a;have h00:0<zs.length:=by simp at h0;omega
  have c0:=hc 0 h00;have k:=pp (show w.cell? ⟨b,off,s⟩=_ from c0);obtain⟨k1,rfl⟩:=k;refine⟨b,off,rfl,k1,fun i hi=>?_⟩;have hi2:i<len:=by simp at hi;omega
  have ci:=hc i (by omega);rw[hg i hi2,<-ci];unfold Addr.add;split
  .subst_vars;rfl
  .rfl
 .refine I2 fun i hi=>?_;rw[hlen]at hi;have:=hb i (by omega);have:=hg i hi;omega
theorem Km{H:Type}{enc:TypeId×Value->H}{W:World}{base:Nat}{v:Value}{d:DataW H}{p:List MemPlace}(hv:Value.okWide prog W .any base 22 v)(h:DataW.Trod enc prog W 0 (fun _=>true) true 22 v d p):
  ∃ao xs cap,v=.slice ao xs.length cap/\Bd W ao xs/\sB xs/\xs.length<=cap:=by
 obtain⟨a0,len,cap,rfl⟩:=okWide_slice underlying22 hv;obtain⟨fuel,hf⟩:=h;have hf2:DataW.trod enc prog W 0 (fun _=>true) true fuel 22 [.slice a0 len cap]=some (d,p):=by simpa [Value.cells]using hf
 rcases open_ints underlying22 underlying5 Tryz.cells5 hf2 with⟨hcs,_⟩ | ⟨x,l,cp,zs,hcs,_,hl,hm,hz,_,hcell,hwz⟩
 .simp at hcs;obtain⟨rfl,rfl,rfl⟩:=hcs;exact⟨none,[],0,rfl,sj _ _,(by intro x hx;cases hx),by simp⟩
 .simp at hcs;obtain⟨rfl,rfl,rfl⟩:=hcs;have hz2:zs.length=cap:=by simpa using hz
  obtain⟨xs,hx1,hx2,hx3⟩:=JO W x len zs (by omega) hcell hwz;subst hx1;exact⟨some x,xs,cap,rfl,hx2,hx3,hl⟩
end Go.Proofs.YtleegaihbgbcjabGreatDoor
namespace Go.Proofs.YtleegaihbgbcjabGreatDoor
open Go.RowKit Num Bit
theorem J1{a b:Bool}(ha:a=true)(hb:b=true):(a&&b)=true:=by rw[ha,hb];rfl
theorem yQ{W:World}{fuel:Nat}{t:TypeId}{k:IntKind}{cs:List Value}{y:DataW Unit×List MemPlace}(hu:prog.underlying t=some (.int k))(h:DataW.trod (fun _=>()) prog W 0 (fun _=>true) false fuel t cs=some y):∃n,cs=[.int k n]/\y.1=.lit (.int k n):=by
 cases fuel with
 | zero=>simp[DataW.trod]at h
 | succ fuel=>
  unfold DataW.trod at h;rw[hu]at h;match cs,h with
  | [.int k' n],h=>
   dsimp only at h;split at h
   .rename_i hk;obtain⟨rfl,_⟩:=hk;cases h;exact⟨n,rfl,rfl⟩
   .cases h
theorem vh{α β:Type}(f:α->Option β):∀(L:List α) (ys:List β),L.mapM f=some ys->ys.length=L.length/\∀(i:Nat) a y,L[i]?=some a->ys[i]?=some y->f a=some y
 | [],ys,h=>by
  rw[List.mapM_nil]at h;cases h;exact⟨rfl,fun i a y e=>by simp at e⟩
 | b::L,ys,h=>by
  rw[List.mapM_cons]at h;simp only[Option.bind_eq_bind,Option.bind_eq_some_iff,Option.pure_def,Option.some.injEq]at h;obtain⟨z,h1,zs,h2,rfl⟩:=h;obtain⟨e1,e2⟩:=vh f L zs h2
  refine⟨by simp[e1],fun i a y ha hy=>?_⟩;cases i with
  | zero=>simp at ha hy;subst ha;subst hy;exact h1
  | succ i=>exact e2 i a y (by simpa using ha) (by simpa using hy)
theorem sW{W:World}{fuel n:Nat}{t e:TypeId}{k:IntKind}{cs:List Value}{l:List Int}{p:List MemPlace}(hu:prog.underlying t=some (.array n e))(he:prog.underlying e=some (.int k))(ce:prog.cellsOf e=1)(ct:prog.cellsOf t=n)
  (h:DataW.trod (fun _=>()) prog W 0 (fun _=>true) false fuel t cs=some (.agg (l.map fun x=>.lit (.int k x)),p)):cs=l.map fun x=>.int k x:=by
 cases fuel with
 | zero=>simp[DataW.trod]at h
 | succ fuel=>
  unfold DataW.trod at h;rw[hu]at h;dsimp only at h;split at h
  .rename_i hl;rw[Option.map_eq_some_iff]at h;obtain⟨ys,h1,h2⟩:=h;obtain⟨g1,g2⟩:=vh _ _ _ h1;simp only[Prod.mk.injEq,DataW.agg.injEq]at h2;have hy:=h2.1
   have ll:l.length=n:=by
    have:=congrArg List.length hy;simp only[List.length_map]at this;rw[<-this,g1,List.length_range]
   rw[ct]at hl;refine List.ext_getElem? fun i=>?_;by_cases hi:i<n
   .obtain⟨y,ey⟩:∃y,ys[i]?=some y:=⟨_,List.getElem?_eq_getElem (by rw[g1,List.length_range];exact hi)⟩;have e3:=g2 i i y (List.getElem?_range hi) ey;obtain⟨m,e4,e5⟩:=yQ he e3
    have e6:(ys.map (·.1))[i]?=some (.lit (.int k m)):=by rw[List.getElem?_map,ey];exact congrArg some e5
    rw[hy,List.getElem?_map]at e6;obtain⟨x,ex⟩:∃x,l[i]?=some x:=⟨_,List.getElem?_eq_getElem (by omega)⟩;rw[ex]at e6;simp only[Option.map_some,Option.some.injEq,DataW.lit.injEq,Lit.int.injEq,true_and]at e6
    rw[List.getElem?_map,ex,e6];rw[ce,Nat.mul_one]at e4;have e7:=congrArg (·[0]?) e4;simp only[List.getElem?_take_of_lt (Nat.one_pos),List.getElem?_drop,Nat.add_zero]at e7;exact e7
   .rw[List.getElem?_eq_none (by omega),List.getElem?_eq_none (by rw[List.length_map];omega)]
  .cases h
theorem xy{W:World}{g:Nat}{nm:String}{cs:Array Value}{vs:List Value}(hg:prog.globalNamed nm=some g)(hv:W.var? prog nm=some cs)(hc:cs.toList=vs)(hm:∃c t,W.heap[g]?=some (.cells c t (0,0))):Tb W g vs:=by
 obtain⟨c,t,e⟩:=hm;refine⟨t,?_⟩;unfold World.var? at hv;rw[hg]at hv;simp only[Option.bind_some,e,Option.some.injEq]at hv;subst hv;unfold aa;rw[e,<-hc]
def FF:List (String×DataW Unit):=[("errors.errorType",Rows.laid_errors_errorType),("haystack/rrr.ways",Rows.laid_haystack_rrr_ways),("haystack/rrr.widths",Rows.laid_haystack_rrr_widths)]
theorem Gs{W:World}(h:laidMetH prog FF W):GV W:=by
 have h0:laidMet prog [("haystack/rrr.ways",Rows.laid_haystack_rrr_ways),("haystack/rrr.widths",Rows.laid_haystack_rrr_widths)] W:=And.left (show _/\_ from h)
 obtain⟨ps,⟨g,t,cs,fuel,p,q,hg,ht,hv,hd,⟨g2,t2,cs2,fuel2,p2,q2,hg2,ht2,hv2,hd2,hr,hq⟩,hps⟩,_,hm⟩:=h0;obtain rfl:q2=[]:=hr
 obtain rfl:=Option.some.inj ((show prog.globalNamed "haystack/rrr.ways" =some 1 by kernel_rfl).symm.trans hg)
 obtain rfl:=Option.some.inj ((show prog.globalNamed "haystack/rrr.widths" =some 0 by kernel_rfl).symm.trans hg2)
 obtain rfl:=Option.some.inj ((show(prog.globals[1]?).map (·.type)=some 198 by kernel_rfl).symm.trans ht)
 obtain rfl:=Option.some.inj ((show(prog.globals[0]?).map (·.type)=some 191 by kernel_rfl).symm.trans ht2)
 have e1:cs.toList=wv iO:=(sW (l:=[1,15,105,455,1365,3003,5005,6435,6435,5005,3003,1365,455,105,15,1]) underlying198 underlying126 (by kernel_rfl) (by kernel_rfl) hd).trans rfl
 have e2:cs2.toList=vI cm:=(sW (l:=[0,4,7,9,11,12,13,13,13,13,12,11,9,7,4,0]) underlying191 underlying3 (by kernel_rfl) (by kernel_rfl) hd2).trans rfl
 have s1:cs.size=16:=by rw[<-Array.length_toList,e1];rfl
 have s2:cs2.size=16:=by rw[<-Array.length_toList,e2];rfl
 refine⟨xy hg2 hv2 e2 (hm _ 0 ?_).1,xy hg hv e1 (hm _ 0 ?_).1⟩
 .rw[hps,hq,s2];exact List.mem_append_right _ (List.mem_append_left _ (List.mem_append_left _ (List.mem_map.2 ⟨0,List.mem_range.2 (by decide),rfl⟩)))
 .rw[hps,s1];exact List.mem_append_left _ (List.mem_append_left _ (List.mem_map.2 ⟨0,List.mem_range.2 (by decide),rfl⟩))
end Go.Proofs.YtleegaihbgbcjabGreatDoor
