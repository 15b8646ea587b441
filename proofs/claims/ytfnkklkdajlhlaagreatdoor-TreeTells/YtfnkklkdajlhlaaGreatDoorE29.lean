import Derived.Test.YtfnkklkdajlhlaaGreatDoorE28
import Derived.Deep.Slices
set_option linter.unusedVariables false
set_option linter.unusedSimpArgs false
set_option maxRecDepth 100000
set_option maxHeartbeats 16000000
namespace Go.Proofs.YtfnkklkdajlhlaaGreatDoor
open Go.RowKit Num Bit
def smB(a:RA):Bool:=(decide (a.p.N≤3000)&&(decide ((a.p.xs.length:Int)≤3000)&&(decide ((a.p.S.length:Int)≤3000)&&(decide ((a.p.T.length:Int)≤3000)&&(decide (a.r.N≤3000)&&(decide (a.r.k≤3000)&&(decide ((a.r.xs.length:Int)≤3000)&&(decide ((a.r.ys.length:Int)≤3000)&&(decide ((a.r.S.length:Int)≤3000)&&(decide ((a.r.T.length:Int)≤3000)&&(decide (a.f.N≤3000)&&(decide (a.f.M≤3000)&&(decide (a.f.k≤3000)&&(decide ((a.f.xs.length:Int)≤3000)&&decide ((a.f.ys.length:Int)≤3000)))))))))))))))
theorem sm_out(a:RA)(h:smB a=true):a.p.N≤3000∧(a.p.xs.length:Int)≤3000∧(a.p.S.length:Int)≤3000∧(a.p.T.length:Int)≤3000∧a.r.N≤3000∧a.r.k≤3000∧(a.r.xs.length:Int)≤3000∧(a.r.ys.length:Int)≤3000∧(a.r.S.length:Int)≤3000∧(a.r.T.length:Int)≤3000∧a.f.N≤3000∧a.f.M≤3000∧a.f.k≤3000∧(a.f.xs.length:Int)≤3000∧(a.f.ys.length:Int)≤3000:=by
 unfold smB at h;simp only[Bool.and_eq_true,decide_eq_true_eq]at h;exact h
theorem KArg.ki{w:World}{cs:List Value}{a:RA}(h:KArg w cs a)(hs:smB a=true)(G:GV w):KI w cs a:=by
 have:=sm_out a hs;exact⟨h,⟨by omega,by omega,by omega,by omega,by omega,by omega,by omega,by omega,by omega,by omega⟩,G⟩
section
variable {P:Program} {ops:Array Oper} {Q:Exit→Act→World→Prop} {md:Region.Mode} {S:World→Prop} {ns:List Nat}
theorem AnyG.three(i j k:Nat){o p q:Oper}{f:Nat}{l:Array Bool}{a:Act}{w:World}(hr:Region.ready md ops l=[i,j,k])(ho:ops[i]?=some o)(hp:ops[j]?=some p)(hq:ops[k]?=some q)
  (h:∀K:Act→World→Prop,Shut (∀a' w',(i ∉ ns→S w')→AnyG P md ops Q S ns f (l.setIfInBounds i true) a' w'→K a' w')→if Region.wanted o (yielded ops a.tmps)=true then Oper.wp P o a w K Q else K (a.put o.dst undef) w)
  (h2:∀K:Act→World→Prop,Shut (∀a' w',(j ∉ ns→S w')→AnyG P md ops Q S ns f (l.setIfInBounds j true) a' w'→K a' w')→if Region.wanted p (yielded ops a.tmps)=true then Oper.wp P p a w K Q else K (a.put p.dst undef) w)
  (h3:∀K:Act→World→Prop,Shut (∀a' w',(k ∉ ns→S w')→AnyG P md ops Q S ns f (l.setIfInBounds k true) a' w'→K a' w')→if Region.wanted q (yielded ops a.tmps)=true then Oper.wp P q a w K Q else K (a.put q.dst undef) w):
  AnyG P md ops Q S ns (f+1) l a w:=by
 refine⟨fun h0=>absurd (hr.symm.trans h0) (by simp),fun x hx=>?_⟩;rw[hr]at hx;rcases List.mem_cons.1 hx with rfl | hx
 ·exact wpOp_step ho (fun K hK=>h K (fun a' w' hS hW=>hK a' w' ⟨fun n _=>hS n,hW⟩))
 ·rcases List.mem_cons.1 hx with rfl | hx
  ·exact wpOp_step hp (fun K hK=>h2 K (fun a' w' hS hW=>hK a' w' ⟨fun n _=>hS n,hW⟩))
  ·obtain rfl:=List.mem_singleton.1 hx;exact wpOp_step hq (fun K hK=>h3 K (fun a' w' hS hW=>hK a' w' ⟨fun n _=>hS n,hW⟩))
end
theorem vsmall_c(cs:List Value)(a:RA)(w:World)(h:KArg w cs a):
  Qq 44 #[.agg cs.toArray] w (.bool (smB a)):=by
 obtain⟨cp,cr,cf,rfl,hK,h1,h2,h3⟩:=h;have l4:=Hid.mk8 h1.four;have l9:=Hid.mk8 h2.nine;have LP:=Hid.mk8 h1.len;have LR:=Hid.mk8 h2.len;have LF:=Hid.mk8 h3.len;obtain⟨K,p,r,f⟩:=a;dsimp only at *
 have l8:=Hid.mk8 h3.nine;have o7:=Hid.mk8 h1.one;have o8:=Hid.mk8 h2.one;have o9:=Hid.mk8 h3.one;obtain⟨Z,hZ⟩:∃Z,Hid (Z=smB ⟨K,p,r,f⟩):=⟨_,rfl⟩;rw[←hZ.out]
 have B0:Cel (w.alloc (.cells (Value.int .i64 K::(cp++(cr++cf))).toArray 45)) w.heap.size (Value.int .i64 K::(cp++(cr++cf))) 45:=Cel.new w _ _
 have bw:Below w.heap.size w (w.alloc (.cells (Value.int .i64 K::(cp++(cr++cf))).toArray 45)):=below_alloc w _;go_enter Tryz.func44,Tryz.ntmps44;go_upto_region 1 with fail
 go_cut [3,4,5] (fun s3 s4 s5 wx=>∃g3 g4 g5:Nat,s3=.pointer (some ⟨g3,0,none⟩)∧s4=.pointer (some ⟨g4,0,none⟩)∧s5=.pointer (some ⟨g5,0,none⟩)∧Cel wx g3 cp 37∧Cel wx g4 cr 41∧Cel wx g5 cf 43∧Below w.heap.size w wx)
 case first=>
  refine region_g [] (fun w'=>Cel w' w.heap.size (Value.int .i64 K::(cp++(cr++cf))) 45∧Below w.heap.size w w') (by kernel_rfl) ?_
  have hS:=And.intro (B0.kept (Below.refl _ _).drew) bw.drew;clear B0 bw;generalize (w.alloc (.cells (Value.int .i64 K::(cp++(cr++cf))).toArray 45)).drew=wd at *;refine aK 0 hS ?_
  refine aF 1 (v:=.agg cp.toArray) hS rfl (fun w0 h0=>by obtain⟨c0,p1,p2,p3⟩:=parts l4.out l9.out h0.1;exact run_load_part w.heap.size 1 cp rfl p1 Tryz.underlying37 LP.out) ?_;refine aK 2 hS ?_
  refine aF 3 (v:=.agg cr.toArray) hS rfl (fun w0 h0=>by obtain⟨c0,p1,p2,p3⟩:=parts l4.out l9.out h0.1;exact run_load_part w.heap.size 5 cr rfl p2 Tryz.underlying41 LR.out) ?_;refine aK 4 hS ?_
  refine aF 5 (v:=.agg cf.toArray) hS rfl (fun w0 h0=>by obtain⟨c0,p1,p2,p3⟩:=parts l4.out l9.out h0.1;exact run_load_part w.heap.size 14 cf rfl p3 Tryz.underlying43 LF.out) ?_;have z0:=hS.1.lt
  refine AnyG.three 6 7 8 (by kernel_rfl) rfl rfl rfl ?_ ?_ ?_
  ·intro K hK;go_simp;have hb:=below_alloc wd (.cells #[.int .i64 0,.slice none 0 0,.slice none 0 0,.slice none 0 0] 37);have Y6:=Cel.new wd [Value.int .i64 0,.slice none 0 0,.slice none 0 0,.slice none 0 0] 37
   replace hS:=And.intro (hS.1.kept hb) (hS.2.trans (hb.mono hS.2.size));refine hK.out _ _ (fun _=>hS) ?_;clear hK K hb;try simp only[Act.put,yq0,yq1,yq2,yq3,yq4,yq5]
   have zz63:(wd.alloc (.cells #[.int .i64 0,.slice none 0 0,.slice none 0 0,.slice none 0 0] 37)).heap.size=wd.heap.size+1:=by simp
   generalize wd.alloc (.cells #[.int .i64 0,.slice none 0 0,.slice none 0 0,.slice none 0 0] 37)=wn63 at *;refine AnyG.two 7 8 (by kernel_rfl) rfl rfl ?_ ?_
   ·intro K hK;go_simp;have hb:=below_alloc wn63 (.cells #[.int .i64 0,.int .i64 0,.int .i64 0,.int .i64 0,.slice none 0 0,.int .i64 0,.slice none 0 0,.slice none 0 0,.slice none 0 0] 41)
    have Y7:=Cel.new wn63 [Value.int .i64 0,.int .i64 0,.int .i64 0,.int .i64 0,.slice none 0 0,.int .i64 0,.slice none 0 0,.slice none 0 0,.slice none 0 0] 41
    replace hS:=And.intro (hS.1.kept hb) (hS.2.trans (hb.mono hS.2.size));replace Y6:=Y6.kept hb;refine hK.out _ _ (fun _=>hS) ?_;clear hK K hb;try simp only[Act.put,yq0,yq1,yq2,yq3,yq4,yq5]
    have zz72:(wn63.alloc (.cells #[.int .i64 0,.int .i64 0,.int .i64 0,.int .i64 0,.slice none 0 0,.int .i64 0,.slice none 0 0,.slice none 0 0,.slice none 0 0] 41)).heap.size=wn63.heap.size+1:=by simp
    generalize wn63.alloc (.cells #[.int .i64 0,.int .i64 0,.int .i64 0,.int .i64 0,.slice none 0 0,.int .i64 0,.slice none 0 0,.slice none 0 0,.slice none 0 0] 41)=wn72 at *;refine aO 8 ?_;intro K hK;go_simp
    have hb:=below_alloc wn72 (.cells #[.int .i64 0,.int .i64 0,.int .i64 0,.int .i64 0,.int .i64 0,.slice none 0 0,.int .i64 0,.slice none 0 0] 43)
    have Y8:=Cel.new wn72 [Value.int .i64 0,.int .i64 0,.int .i64 0,.int .i64 0,.int .i64 0,.slice none 0 0,.int .i64 0,.slice none 0 0] 43;replace hS:=And.intro (hS.1.kept hb) (hS.2.trans (hb.mono hS.2.size))
    replace Y6:=Y6.kept hb;replace Y7:=Y7.kept hb;refine hK.out _ _ (fun _=>hS) ?_;clear hK K hb;try simp only[Act.put,yq0,yq1,yq2,yq3,yq4,yq5]
    refine aO 9 ?_;intro K hK;refine step_store9 _ _ cp rfl rfl (Y6.at (by omega)) l4.out.symm LP.out o7.out ?_;intro v6 X6 O6;replace Y7:=O6.cel Y7 (by omega);replace Y8:=O6.cel Y8 (by omega)
    replace hS:=And.intro (O6.cel hS.1 (by omega)) (hS.2.trans (O6.below (by omega)));clear O6 Y6;refine hK.out _ _ (fun _=>hS) ?_;clear hK K;try simp only[Act.put,yq0,yq1,yq2,yq3,yq4,yq5]
    refine aO 10 ?_;intro K hK;refine step_store9 _ _ cr rfl rfl (Y7.at (by omega)) l9.out LR.out o8.out ?_;intro v7 X7 O7;replace Y8:=O7.cel Y8 (by omega);replace X6:=O7.cel X6 (by omega)
    replace hS:=And.intro (O7.cel hS.1 (by omega)) (hS.2.trans (O7.below (by omega)));clear O7 Y7;refine hK.out _ _ (fun _=>hS) ?_;clear hK K;try simp only[Act.put,yq0,yq1,yq2,yq3,yq4,yq5]
    refine aO 11 ?_;intro K hK;refine step_store9 _ _ cf rfl rfl (Y8.at (by omega)) l8.out LF.out o9.out ?_;intro v8 X8 O8;replace X6:=O8.cel X6 (by omega);replace X7:=O8.cel X7 (by omega)
    replace hS:=And.intro (O8.cel hS.1 (by omega)) (hS.2.trans (O8.below (by omega)));clear O8 Y8;refine hK.out _ _ (fun _=>hS) ?_;clear hK K;try simp only[Act.put,yq0,yq1,yq2,yq3,yq4,yq5]
    refine AnyG.done (by kernel_rfl) ?_ _;go_wp2_with fail;go_meet;exact⟨_,_,_,rfl,rfl,rfl,X6,X7,X8,hS.2⟩
   ·intro K hK;go_simp;have hb:=below_alloc wn63 (.cells #[.int .i64 0,.int .i64 0,.int .i64 0,.int .i64 0,.int .i64 0,.slice none 0 0,.int .i64 0,.slice none 0 0] 43)
    have Y8:=Cel.new wn63 [Value.int .i64 0,.int .i64 0,.int .i64 0,.int .i64 0,.int .i64 0,.slice none 0 0,.int .i64 0,.slice none 0 0] 43;replace hS:=And.intro (hS.1.kept hb) (hS.2.trans (hb.mono hS.2.size))
    replace Y6:=Y6.kept hb;refine hK.out _ _ (fun _=>hS) ?_;clear hK K hb;try simp only[Act.put,yq0,yq1,yq2,yq3,yq4,yq5]
    have zz82:(wn63.alloc (.cells #[.int .i64 0,.int .i64 0,.int .i64 0,.int .i64 0,.int .i64 0,.slice none 0 0,.int .i64 0,.slice none 0 0] 43)).heap.size=wn63.heap.size+1:=by simp
    generalize wn63.alloc (.cells #[.int .i64 0,.int .i64 0,.int .i64 0,.int .i64 0,.int .i64 0,.slice none 0 0,.int .i64 0,.slice none 0 0] 43)=wn82 at *;refine aO 7 ?_;intro K hK;go_simp
    have hb:=below_alloc wn82 (.cells #[.int .i64 0,.int .i64 0,.int .i64 0,.int .i64 0,.slice none 0 0,.int .i64 0,.slice none 0 0,.slice none 0 0,.slice none 0 0] 41)
    have Y7:=Cel.new wn82 [Value.int .i64 0,.int .i64 0,.int .i64 0,.int .i64 0,.slice none 0 0,.int .i64 0,.slice none 0 0,.slice none 0 0,.slice none 0 0] 41
    replace hS:=And.intro (hS.1.kept hb) (hS.2.trans (hb.mono hS.2.size));replace Y6:=Y6.kept hb;replace Y8:=Y8.kept hb;refine hK.out _ _ (fun _=>hS) ?_;clear hK K hb
    try simp only[Act.put,yq0,yq1,yq2,yq3,yq4,yq5]
    refine aO 9 ?_;intro K hK;refine step_store9 _ _ cp rfl rfl (Y6.at (by omega)) l4.out.symm LP.out o7.out ?_;intro v6 X6 O6;replace Y7:=O6.cel Y7 (by omega);replace Y8:=O6.cel Y8 (by omega)
    replace hS:=And.intro (O6.cel hS.1 (by omega)) (hS.2.trans (O6.below (by omega)));clear O6 Y6;refine hK.out _ _ (fun _=>hS) ?_;clear hK K;try simp only[Act.put,yq0,yq1,yq2,yq3,yq4,yq5]
    refine aO 10 ?_;intro K hK;refine step_store9 _ _ cr rfl rfl (Y7.at (by omega)) l9.out LR.out o8.out ?_;intro v7 X7 O7;replace Y8:=O7.cel Y8 (by omega);replace X6:=O7.cel X6 (by omega)
    replace hS:=And.intro (O7.cel hS.1 (by omega)) (hS.2.trans (O7.below (by omega)));clear O7 Y7;refine hK.out _ _ (fun _=>hS) ?_;clear hK K;try simp only[Act.put,yq0,yq1,yq2,yq3,yq4,yq5]
    refine aO 11 ?_;intro K hK;refine step_store9 _ _ cf rfl rfl (Y8.at (by omega)) l8.out LF.out o9.out ?_;intro v8 X8 O8;replace X6:=O8.cel X6 (by omega);replace X7:=O8.cel X7 (by omega)
    replace hS:=And.intro (O8.cel hS.1 (by omega)) (hS.2.trans (O8.below (by omega)));clear O8 Y8;refine hK.out _ _ (fun _=>hS) ?_;clear hK K;try simp only[Act.put,yq0,yq1,yq2,yq3,yq4,yq5]
    refine AnyG.done (by kernel_rfl) ?_ _;go_wp2_with fail;go_meet;exact⟨_,_,_,rfl,rfl,rfl,X6,X7,X8,hS.2⟩
  ·intro K hK;go_simp;have hb:=below_alloc wd (.cells #[.int .i64 0,.int .i64 0,.int .i64 0,.int .i64 0,.slice none 0 0,.int .i64 0,.slice none 0 0,.slice none 0 0,.slice none 0 0] 41)
   have Y7:=Cel.new wd [Value.int .i64 0,.int .i64 0,.int .i64 0,.int .i64 0,.slice none 0 0,.int .i64 0,.slice none 0 0,.slice none 0 0,.slice none 0 0] 41
   replace hS:=And.intro (hS.1.kept hb) (hS.2.trans (hb.mono hS.2.size));refine hK.out _ _ (fun _=>hS) ?_;clear hK K hb;try simp only[Act.put,yq0,yq1,yq2,yq3,yq4,yq5]
   have zz73:(wd.alloc (.cells #[.int .i64 0,.int .i64 0,.int .i64 0,.int .i64 0,.slice none 0 0,.int .i64 0,.slice none 0 0,.slice none 0 0,.slice none 0 0] 41)).heap.size=wd.heap.size+1:=by simp
   generalize wd.alloc (.cells #[.int .i64 0,.int .i64 0,.int .i64 0,.int .i64 0,.slice none 0 0,.int .i64 0,.slice none 0 0,.slice none 0 0,.slice none 0 0] 41)=wn73 at *
   refine AnyG.two 6 8 (by kernel_rfl) rfl rfl ?_ ?_
   ·intro K hK;go_simp;have hb:=below_alloc wn73 (.cells #[.int .i64 0,.slice none 0 0,.slice none 0 0,.slice none 0 0] 37);have Y6:=Cel.new wn73 [Value.int .i64 0,.slice none 0 0,.slice none 0 0,.slice none 0 0] 37
    replace hS:=And.intro (hS.1.kept hb) (hS.2.trans (hb.mono hS.2.size));replace Y7:=Y7.kept hb;refine hK.out _ _ (fun _=>hS) ?_;clear hK K hb;try simp only[Act.put,yq0,yq1,yq2,yq3,yq4,yq5]
    have zz62:(wn73.alloc (.cells #[.int .i64 0,.slice none 0 0,.slice none 0 0,.slice none 0 0] 37)).heap.size=wn73.heap.size+1:=by simp
    generalize wn73.alloc (.cells #[.int .i64 0,.slice none 0 0,.slice none 0 0,.slice none 0 0] 37)=wn62 at *;refine aO 8 ?_;intro K hK;go_simp
    have hb:=below_alloc wn62 (.cells #[.int .i64 0,.int .i64 0,.int .i64 0,.int .i64 0,.int .i64 0,.slice none 0 0,.int .i64 0,.slice none 0 0] 43)
    have Y8:=Cel.new wn62 [Value.int .i64 0,.int .i64 0,.int .i64 0,.int .i64 0,.int .i64 0,.slice none 0 0,.int .i64 0,.slice none 0 0] 43;replace hS:=And.intro (hS.1.kept hb) (hS.2.trans (hb.mono hS.2.size))
    replace Y7:=Y7.kept hb;replace Y6:=Y6.kept hb;refine hK.out _ _ (fun _=>hS) ?_;clear hK K hb;try simp only[Act.put,yq0,yq1,yq2,yq3,yq4,yq5]
    refine aO 9 ?_;intro K hK;refine step_store9 _ _ cp rfl rfl (Y6.at (by omega)) l4.out.symm LP.out o7.out ?_;intro v6 X6 O6;replace Y7:=O6.cel Y7 (by omega);replace Y8:=O6.cel Y8 (by omega)
    replace hS:=And.intro (O6.cel hS.1 (by omega)) (hS.2.trans (O6.below (by omega)));clear O6 Y6;refine hK.out _ _ (fun _=>hS) ?_;clear hK K;try simp only[Act.put,yq0,yq1,yq2,yq3,yq4,yq5]
    refine aO 10 ?_;intro K hK;refine step_store9 _ _ cr rfl rfl (Y7.at (by omega)) l9.out LR.out o8.out ?_;intro v7 X7 O7;replace Y8:=O7.cel Y8 (by omega);replace X6:=O7.cel X6 (by omega)
    replace hS:=And.intro (O7.cel hS.1 (by omega)) (hS.2.trans (O7.below (by omega)));clear O7 Y7;refine hK.out _ _ (fun _=>hS) ?_;clear hK K;try simp only[Act.put,yq0,yq1,yq2,yq3,yq4,yq5]
    refine aO 11 ?_;intro K hK;refine step_store9 _ _ cf rfl rfl (Y8.at (by omega)) l8.out LF.out o9.out ?_;intro v8 X8 O8;replace X6:=O8.cel X6 (by omega);replace X7:=O8.cel X7 (by omega)
    replace hS:=And.intro (O8.cel hS.1 (by omega)) (hS.2.trans (O8.below (by omega)));clear O8 Y8;refine hK.out _ _ (fun _=>hS) ?_;clear hK K;try simp only[Act.put,yq0,yq1,yq2,yq3,yq4,yq5]
    refine AnyG.done (by kernel_rfl) ?_ _;go_wp2_with fail;go_meet;exact⟨_,_,_,rfl,rfl,rfl,X6,X7,X8,hS.2⟩
   ·intro K hK;go_simp;have hb:=below_alloc wn73 (.cells #[.int .i64 0,.int .i64 0,.int .i64 0,.int .i64 0,.int .i64 0,.slice none 0 0,.int .i64 0,.slice none 0 0] 43)
    have Y8:=Cel.new wn73 [Value.int .i64 0,.int .i64 0,.int .i64 0,.int .i64 0,.int .i64 0,.slice none 0 0,.int .i64 0,.slice none 0 0] 43;replace hS:=And.intro (hS.1.kept hb) (hS.2.trans (hb.mono hS.2.size))
    replace Y7:=Y7.kept hb;refine hK.out _ _ (fun _=>hS) ?_;clear hK K hb;try simp only[Act.put,yq0,yq1,yq2,yq3,yq4,yq5]
    have zz82:(wn73.alloc (.cells #[.int .i64 0,.int .i64 0,.int .i64 0,.int .i64 0,.int .i64 0,.slice none 0 0,.int .i64 0,.slice none 0 0] 43)).heap.size=wn73.heap.size+1:=by simp
    generalize wn73.alloc (.cells #[.int .i64 0,.int .i64 0,.int .i64 0,.int .i64 0,.int .i64 0,.slice none 0 0,.int .i64 0,.slice none 0 0] 43)=wn82 at *;refine aO 6 ?_;intro K hK;go_simp
    have hb:=below_alloc wn82 (.cells #[.int .i64 0,.slice none 0 0,.slice none 0 0,.slice none 0 0] 37);have Y6:=Cel.new wn82 [Value.int .i64 0,.slice none 0 0,.slice none 0 0,.slice none 0 0] 37
    replace hS:=And.intro (hS.1.kept hb) (hS.2.trans (hb.mono hS.2.size));replace Y7:=Y7.kept hb;replace Y8:=Y8.kept hb;refine hK.out _ _ (fun _=>hS) ?_;clear hK K hb
    try simp only[Act.put,yq0,yq1,yq2,yq3,yq4,yq5]
    refine aO 9 ?_;intro K hK;refine step_store9 _ _ cp rfl rfl (Y6.at (by omega)) l4.out.symm LP.out o7.out ?_;intro v6 X6 O6;replace Y7:=O6.cel Y7 (by omega);replace Y8:=O6.cel Y8 (by omega)
    replace hS:=And.intro (O6.cel hS.1 (by omega)) (hS.2.trans (O6.below (by omega)));clear O6 Y6;refine hK.out _ _ (fun _=>hS) ?_;clear hK K;try simp only[Act.put,yq0,yq1,yq2,yq3,yq4,yq5]
    refine aO 10 ?_;intro K hK;refine step_store9 _ _ cr rfl rfl (Y7.at (by omega)) l9.out LR.out o8.out ?_;intro v7 X7 O7;replace Y8:=O7.cel Y8 (by omega);replace X6:=O7.cel X6 (by omega)
    replace hS:=And.intro (O7.cel hS.1 (by omega)) (hS.2.trans (O7.below (by omega)));clear O7 Y7;refine hK.out _ _ (fun _=>hS) ?_;clear hK K;try simp only[Act.put,yq0,yq1,yq2,yq3,yq4,yq5]
    refine aO 11 ?_;intro K hK;refine step_store9 _ _ cf rfl rfl (Y8.at (by omega)) l8.out LF.out o9.out ?_;intro v8 X8 O8;replace X6:=O8.cel X6 (by omega);replace X7:=O8.cel X7 (by omega)
    replace hS:=And.intro (O8.cel hS.1 (by omega)) (hS.2.trans (O8.below (by omega)));clear O8 Y8;refine hK.out _ _ (fun _=>hS) ?_;clear hK K;try simp only[Act.put,yq0,yq1,yq2,yq3,yq4,yq5]
    refine AnyG.done (by kernel_rfl) ?_ _;go_wp2_with fail;go_meet;exact⟨_,_,_,rfl,rfl,rfl,X6,X7,X8,hS.2⟩
  ·intro K hK;go_simp;have hb:=below_alloc wd (.cells #[.int .i64 0,.int .i64 0,.int .i64 0,.int .i64 0,.int .i64 0,.slice none 0 0,.int .i64 0,.slice none 0 0] 43)
   have Y8:=Cel.new wd [Value.int .i64 0,.int .i64 0,.int .i64 0,.int .i64 0,.int .i64 0,.slice none 0 0,.int .i64 0,.slice none 0 0] 43;replace hS:=And.intro (hS.1.kept hb) (hS.2.trans (hb.mono hS.2.size))
   refine hK.out _ _ (fun _=>hS) ?_;clear hK K hb;try simp only[Act.put,yq0,yq1,yq2,yq3,yq4,yq5]
   have zz83:(wd.alloc (.cells #[.int .i64 0,.int .i64 0,.int .i64 0,.int .i64 0,.int .i64 0,.slice none 0 0,.int .i64 0,.slice none 0 0] 43)).heap.size=wd.heap.size+1:=by simp
   generalize wd.alloc (.cells #[.int .i64 0,.int .i64 0,.int .i64 0,.int .i64 0,.int .i64 0,.slice none 0 0,.int .i64 0,.slice none 0 0] 43)=wn83 at *;refine AnyG.two 6 7 (by kernel_rfl) rfl rfl ?_ ?_
   ·intro K hK;go_simp;have hb:=below_alloc wn83 (.cells #[.int .i64 0,.slice none 0 0,.slice none 0 0,.slice none 0 0] 37);have Y6:=Cel.new wn83 [Value.int .i64 0,.slice none 0 0,.slice none 0 0,.slice none 0 0] 37
    replace hS:=And.intro (hS.1.kept hb) (hS.2.trans (hb.mono hS.2.size));replace Y8:=Y8.kept hb;refine hK.out _ _ (fun _=>hS) ?_;clear hK K hb;try simp only[Act.put,yq0,yq1,yq2,yq3,yq4,yq5]
    have zz62:(wn83.alloc (.cells #[.int .i64 0,.slice none 0 0,.slice none 0 0,.slice none 0 0] 37)).heap.size=wn83.heap.size+1:=by simp
    generalize wn83.alloc (.cells #[.int .i64 0,.slice none 0 0,.slice none 0 0,.slice none 0 0] 37)=wn62 at *;refine aO 7 ?_;intro K hK;go_simp
    have hb:=below_alloc wn62 (.cells #[.int .i64 0,.int .i64 0,.int .i64 0,.int .i64 0,.slice none 0 0,.int .i64 0,.slice none 0 0,.slice none 0 0,.slice none 0 0] 41)
    have Y7:=Cel.new wn62 [Value.int .i64 0,.int .i64 0,.int .i64 0,.int .i64 0,.slice none 0 0,.int .i64 0,.slice none 0 0,.slice none 0 0,.slice none 0 0] 41
    replace hS:=And.intro (hS.1.kept hb) (hS.2.trans (hb.mono hS.2.size));replace Y8:=Y8.kept hb;replace Y6:=Y6.kept hb;refine hK.out _ _ (fun _=>hS) ?_;clear hK K hb
    try simp only[Act.put,yq0,yq1,yq2,yq3,yq4,yq5]
    refine aO 9 ?_;intro K hK;refine step_store9 _ _ cp rfl rfl (Y6.at (by omega)) l4.out.symm LP.out o7.out ?_;intro v6 X6 O6;replace Y7:=O6.cel Y7 (by omega);replace Y8:=O6.cel Y8 (by omega)
    replace hS:=And.intro (O6.cel hS.1 (by omega)) (hS.2.trans (O6.below (by omega)));clear O6 Y6;refine hK.out _ _ (fun _=>hS) ?_;clear hK K;try simp only[Act.put,yq0,yq1,yq2,yq3,yq4,yq5]
    refine aO 10 ?_;intro K hK;refine step_store9 _ _ cr rfl rfl (Y7.at (by omega)) l9.out LR.out o8.out ?_;intro v7 X7 O7;replace Y8:=O7.cel Y8 (by omega);replace X6:=O7.cel X6 (by omega)
    replace hS:=And.intro (O7.cel hS.1 (by omega)) (hS.2.trans (O7.below (by omega)));clear O7 Y7;refine hK.out _ _ (fun _=>hS) ?_;clear hK K;try simp only[Act.put,yq0,yq1,yq2,yq3,yq4,yq5]
    refine aO 11 ?_;intro K hK;refine step_store9 _ _ cf rfl rfl (Y8.at (by omega)) l8.out LF.out o9.out ?_;intro v8 X8 O8;replace X6:=O8.cel X6 (by omega);replace X7:=O8.cel X7 (by omega)
    replace hS:=And.intro (O8.cel hS.1 (by omega)) (hS.2.trans (O8.below (by omega)));clear O8 Y8;refine hK.out _ _ (fun _=>hS) ?_;clear hK K;try simp only[Act.put,yq0,yq1,yq2,yq3,yq4,yq5]
    refine AnyG.done (by kernel_rfl) ?_ _;go_wp2_with fail;go_meet;exact⟨_,_,_,rfl,rfl,rfl,X6,X7,X8,hS.2⟩
   ·intro K hK;go_simp;have hb:=below_alloc wn83 (.cells #[.int .i64 0,.int .i64 0,.int .i64 0,.int .i64 0,.slice none 0 0,.int .i64 0,.slice none 0 0,.slice none 0 0,.slice none 0 0] 41)
    have Y7:=Cel.new wn83 [Value.int .i64 0,.int .i64 0,.int .i64 0,.int .i64 0,.slice none 0 0,.int .i64 0,.slice none 0 0,.slice none 0 0,.slice none 0 0] 41
    replace hS:=And.intro (hS.1.kept hb) (hS.2.trans (hb.mono hS.2.size));replace Y8:=Y8.kept hb;refine hK.out _ _ (fun _=>hS) ?_;clear hK K hb;try simp only[Act.put,yq0,yq1,yq2,yq3,yq4,yq5]
    have zz72:(wn83.alloc (.cells #[.int .i64 0,.int .i64 0,.int .i64 0,.int .i64 0,.slice none 0 0,.int .i64 0,.slice none 0 0,.slice none 0 0,.slice none 0 0] 41)).heap.size=wn83.heap.size+1:=by simp
    generalize wn83.alloc (.cells #[.int .i64 0,.int .i64 0,.int .i64 0,.int .i64 0,.slice none 0 0,.int .i64 0,.slice none 0 0,.slice none 0 0,.slice none 0 0] 41)=wn72 at *;refine aO 6 ?_;intro K hK;go_simp
    have hb:=below_alloc wn72 (.cells #[.int .i64 0,.slice none 0 0,.slice none 0 0,.slice none 0 0] 37);have Y6:=Cel.new wn72 [Value.int .i64 0,.slice none 0 0,.slice none 0 0,.slice none 0 0] 37
    replace hS:=And.intro (hS.1.kept hb) (hS.2.trans (hb.mono hS.2.size));replace Y8:=Y8.kept hb;replace Y7:=Y7.kept hb;refine hK.out _ _ (fun _=>hS) ?_;clear hK K hb
    try simp only[Act.put,yq0,yq1,yq2,yq3,yq4,yq5]
    refine aO 9 ?_;intro K hK;refine step_store9 _ _ cp rfl rfl (Y6.at (by omega)) l4.out.symm LP.out o7.out ?_;intro v6 X6 O6;replace Y7:=O6.cel Y7 (by omega);replace Y8:=O6.cel Y8 (by omega)
    replace hS:=And.intro (O6.cel hS.1 (by omega)) (hS.2.trans (O6.below (by omega)));clear O6 Y6;refine hK.out _ _ (fun _=>hS) ?_;clear hK K;try simp only[Act.put,yq0,yq1,yq2,yq3,yq4,yq5]
    refine aO 10 ?_;intro K hK;refine step_store9 _ _ cr rfl rfl (Y7.at (by omega)) l9.out LR.out o8.out ?_;intro v7 X7 O7;replace Y8:=O7.cel Y8 (by omega);replace X6:=O7.cel X6 (by omega)
    replace hS:=And.intro (O7.cel hS.1 (by omega)) (hS.2.trans (O7.below (by omega)));clear O7 Y7;refine hK.out _ _ (fun _=>hS) ?_;clear hK K;try simp only[Act.put,yq0,yq1,yq2,yq3,yq4,yq5]
    refine aO 11 ?_;intro K hK;refine step_store9 _ _ cf rfl rfl (Y8.at (by omega)) l8.out LF.out o9.out ?_;intro v8 X8 O8;replace X6:=O8.cel X6 (by omega);replace X7:=O8.cel X7 (by omega)
    replace hS:=And.intro (O8.cel hS.1 (by omega)) (hS.2.trans (O8.below (by omega)));clear O8 Y8;refine hK.out _ _ (fun _=>hS) ?_;clear hK K;try simp only[Act.put,yq0,yq1,yq2,yq3,yq4,yq5]
    refine AnyG.done (by kernel_rfl) ?_ _;go_wp2_with fail;go_meet;exact⟨_,_,_,rfl,rfl,rfl,X6,X7,X8,hS.2⟩
 case rest=>
 obtain⟨g3,g4,g5,rfl,rfl,rfl,X6,X7,X8,bw1⟩:=hcut;clear B0 bw l4 l9 l8 o7 o8 o9 LP LR LF;obtain⟨ao,cap,so,sc,tO,tc,rfl, -⟩:=h1;obtain⟨b1,b2,b3,b4,b5,b6,b7,b8,rfl, -⟩:=h2
 obtain⟨d1,d2,d3,d4,rfl, -⟩:=h3;obtain⟨N7,x7,s7,u7⟩:=p;obtain⟨N8,k8,V8,M8,x8,L8,y8,s8,u8⟩:=r;obtain⟨N9,M9,k9,V9,L9,x9,H9,y9⟩:=f;dsimp only at *
 have E0:Hid (Z=((decide (N7≤3000)&&(decide ((x7.length:Int)≤3000)&&(decide ((s7.length:Int)≤3000)&&(decide ((u7.length:Int)≤3000)&&(decide (N8≤3000)&&(decide (k8≤3000)&&(decide ((x8.length:Int)≤3000)&&(decide ((y8.length:Int)≤3000)&&(decide ((s8.length:Int)≤3000)&&(decide ((u8.length:Int)≤3000)&&(decide (N9≤3000)&&(decide (M9≤3000)&&(decide (k9≤3000)&&(decide ((x9.length:Int)≤3000)&&decide ((y9.length:Int)≤3000))))))))))))))))):=hZ
 clear hZ;have a0:=X6.cell 0 rfl;have a1:=X6.cell 1 rfl;have a2:=X6.cell 2 rfl;have a3:=X6.cell 3 rfl;have e0:=X7.cell 0 rfl;have e1:=X7.cell 1 rfl;have e4:=X7.cell 4 rfl;have e6:=X7.cell 6 rfl
 have e7:=X7.cell 7 rfl;have e8:=X7.cell 8 rfl;have f0:=X8.cell 0 rfl;have f1:=X8.cell 1 rfl;have f2:=X8.cell 2 rfl;have f5:=X8.cell 5 rfl;have f7:=X8.cell 7 rfl;clear X6 X7 X8;by_cases q0:N7≤3000;rotate_left
 ·have E:Hid (Z=false):=by
   show Z=false;rw[E0.out];simp only[decide_eq_false q0,Bool.true_and,Bool.false_and,Bool.and_false]
  clear E0;have g:3000<N7:=by omega
  go_wp2;go_ret;rw[E.out];exact⟨rfl,bw1⟩
 by_cases q1:(x7.length:Int)≤3000;rotate_left
 ·have E:Hid (Z=false):=by
   show Z=false;rw[E0.out];simp only[decide_eq_true q0,decide_eq_false q1,Bool.true_and,Bool.false_and,Bool.and_false]
  clear E0;have g:3000<(x7.length:Int):=by omega
  go_wp2;go_ret;rw[E.out];exact⟨rfl,bw1⟩
 by_cases q2:(s7.length:Int)≤3000;rotate_left
 ·have E:Hid (Z=false):=by
   show Z=false;rw[E0.out];simp only[decide_eq_true q0,decide_eq_true q1,decide_eq_false q2,Bool.true_and,Bool.false_and,Bool.and_false]
  clear E0;have g:3000<(s7.length:Int):=by omega
  go_wp2;go_ret;rw[E.out];exact⟨rfl,bw1⟩
 by_cases q3:(u7.length:Int)≤3000;rotate_left
 ·have E:Hid (Z=false):=by
   show Z=false;rw[E0.out];simp only[decide_eq_true q0,decide_eq_true q1,decide_eq_true q2,decide_eq_false q3,Bool.true_and,Bool.false_and,Bool.and_false]
  clear E0;have g:3000<(u7.length:Int):=by omega
  go_wp2;go_ret;rw[E.out];exact⟨rfl,bw1⟩
 by_cases q4:N8≤3000;rotate_left
 ·have E:Hid (Z=false):=by
   show Z=false;rw[E0.out];simp only[decide_eq_true q0,decide_eq_true q1,decide_eq_true q2,decide_eq_true q3,decide_eq_false q4,Bool.true_and,Bool.false_and,Bool.and_false]
  clear E0;have g:3000<N8:=by omega
  go_wp2;go_ret;rw[E.out];exact⟨rfl,bw1⟩
 by_cases q5:k8≤3000;rotate_left
 ·have E:Hid (Z=false):=by
   show Z=false;rw[E0.out];simp only[decide_eq_true q0,decide_eq_true q1,decide_eq_true q2,decide_eq_true q3,decide_eq_true q4,decide_eq_false q5,Bool.true_and,Bool.false_and,Bool.and_false]
  clear E0;have g:3000<k8:=by omega
  go_wp2;go_ret;rw[E.out];exact⟨rfl,bw1⟩
 by_cases q6:(x8.length:Int)≤3000;rotate_left
 ·have E:Hid (Z=false):=by
   show Z=false;rw[E0.out];simp only[decide_eq_true q0,decide_eq_true q1,decide_eq_true q2,decide_eq_true q3,decide_eq_true q4,decide_eq_true q5,decide_eq_false q6,Bool.true_and,Bool.false_and,Bool.and_false]
  clear E0;have g:3000<(x8.length:Int):=by omega
  go_wp2;go_ret;rw[E.out];exact⟨rfl,bw1⟩
 by_cases q7:(y8.length:Int)≤3000;rotate_left
 ·have E:Hid (Z=false):=by
   show Z=false;rw[E0.out]
   simp only[decide_eq_true q0,decide_eq_true q1,decide_eq_true q2,decide_eq_true q3,decide_eq_true q4,decide_eq_true q5,decide_eq_true q6,decide_eq_false q7,Bool.true_and,Bool.false_and,Bool.and_false]
  clear E0;have g:3000<(y8.length:Int):=by omega
  go_wp2;go_ret;rw[E.out];exact⟨rfl,bw1⟩
 by_cases q8:(s8.length:Int)≤3000;rotate_left
 ·have E:Hid (Z=false):=by
   show Z=false;rw[E0.out]
   simp only[decide_eq_true q0,decide_eq_true q1,decide_eq_true q2,decide_eq_true q3,decide_eq_true q4,decide_eq_true q5,decide_eq_true q6,decide_eq_true q7,decide_eq_false q8,Bool.true_and,Bool.false_and,Bool.and_false]
  clear E0;have g:3000<(s8.length:Int):=by omega
  go_wp2;go_ret;rw[E.out];exact⟨rfl,bw1⟩
 by_cases q9:(u8.length:Int)≤3000;rotate_left
 ·have E:Hid (Z=false):=by
   show Z=false;rw[E0.out]
   simp only[decide_eq_true q0,decide_eq_true q1,decide_eq_true q2,decide_eq_true q3,decide_eq_true q4,decide_eq_true q5,decide_eq_true q6,decide_eq_true q7,decide_eq_true q8,decide_eq_false q9,Bool.true_and,Bool.false_and,Bool.and_false]
  clear E0;have g:3000<(u8.length:Int):=by omega
  go_wp2;go_ret;rw[E.out];exact⟨rfl,bw1⟩
 by_cases q10:N9≤3000;rotate_left
 ·have E:Hid (Z=false):=by
   show Z=false;rw[E0.out]
   simp only[decide_eq_true q0,decide_eq_true q1,decide_eq_true q2,decide_eq_true q3,decide_eq_true q4,decide_eq_true q5,decide_eq_true q6,decide_eq_true q7,decide_eq_true q8,decide_eq_true q9,decide_eq_false q10,Bool.true_and,Bool.false_and,Bool.and_false]
  clear E0;have g:3000<N9:=by omega
  go_wp2;go_ret;rw[E.out];exact⟨rfl,bw1⟩
 by_cases q11:M9≤3000;rotate_left
 ·have E:Hid (Z=false):=by
   show Z=false;rw[E0.out]
   simp only[decide_eq_true q0,decide_eq_true q1,decide_eq_true q2,decide_eq_true q3,decide_eq_true q4,decide_eq_true q5,decide_eq_true q6,decide_eq_true q7,decide_eq_true q8,decide_eq_true q9,decide_eq_true q10,decide_eq_false q11,Bool.true_and,Bool.false_and,Bool.and_false]
  clear E0;have g:3000<M9:=by omega
  go_wp2;go_ret;rw[E.out];exact⟨rfl,bw1⟩
 by_cases q12:k9≤3000;rotate_left
 ·have E:Hid (Z=false):=by
   show Z=false;rw[E0.out]
   simp only[decide_eq_true q0,decide_eq_true q1,decide_eq_true q2,decide_eq_true q3,decide_eq_true q4,decide_eq_true q5,decide_eq_true q6,decide_eq_true q7,decide_eq_true q8,decide_eq_true q9,decide_eq_true q10,decide_eq_true q11,decide_eq_false q12,Bool.true_and,Bool.false_and,Bool.and_false]
  clear E0;have g:3000<k9:=by omega
  go_wp2;go_ret;rw[E.out];exact⟨rfl,bw1⟩
 by_cases q13:(x9.length:Int)≤3000;rotate_left
 ·have E:Hid (Z=false):=by
   show Z=false;rw[E0.out]
   simp only[decide_eq_true q0,decide_eq_true q1,decide_eq_true q2,decide_eq_true q3,decide_eq_true q4,decide_eq_true q5,decide_eq_true q6,decide_eq_true q7,decide_eq_true q8,decide_eq_true q9,decide_eq_true q10,decide_eq_true q11,decide_eq_true q12,decide_eq_false q13,Bool.true_and,Bool.false_and,Bool.and_false]
  clear E0;have g:3000<(x9.length:Int):=by omega
  go_wp2;go_ret;rw[E.out];exact⟨rfl,bw1⟩
 by_cases q14:(y9.length:Int)≤3000;rotate_left
 ·have E:Hid (Z=false):=by
   show Z=false;rw[E0.out]
   simp only[decide_eq_true q0,decide_eq_true q1,decide_eq_true q2,decide_eq_true q3,decide_eq_true q4,decide_eq_true q5,decide_eq_true q6,decide_eq_true q7,decide_eq_true q8,decide_eq_true q9,decide_eq_true q10,decide_eq_true q11,decide_eq_true q12,decide_eq_true q13,decide_eq_false q14,Bool.true_and,Bool.false_and,Bool.and_false]
  clear E0;have g:3000<(y9.length:Int):=by omega
  go_wp2;go_ret;rw[E.out];exact⟨rfl,bw1⟩
 have E:Hid (Z=true):=by
  show Z=true;rw[E0.out]
  simp only[decide_eq_true q0,decide_eq_true q1,decide_eq_true q2,decide_eq_true q3,decide_eq_true q4,decide_eq_true q5,decide_eq_true q6,decide_eq_true q7,decide_eq_true q8,decide_eq_true q9,decide_eq_true q10,decide_eq_true q11,decide_eq_true q12,decide_eq_true q13,decide_eq_true q14,Bool.and_self]
 clear E0;go_wp2;go_ret;rw[E.out];exact⟨rfl,bw1⟩
end Go.Proofs.YtfnkklkdajlhlaaGreatDoor
namespace Go.Proofs.YtfnkklkdajlhlaaGreatDoor
open Go.ChangeShapes Go.WideShapes Go.ChangeAt Go.RowKit Go.Joins Go.Deep Num Bit
def LvA(w:World)(lo:Option Addr)(av:List RA):Prop:=
 0<av.length→∃b off,lo=some ⟨b,off,none⟩∧b<w.heap.size∧∀l,l<av.length→∃cs,w.rangeAt b (off+l*22) cs∧KArg w cs (av.getD l ra0)
structure TArg (w:World) (lo:Option Addr) (cap:Nat) (x:TR):Prop where
 k:I64 x.K
 n:I64 x.N
 c:x.av.length≤cap
 l:LvA w lo x.av
theorem TArg.ti{w:World}{lo:Option Addr}{cap:Nat}{x:TR}(h:TArg w lo cap x)(hs:∀l,l<x.av.length→smB (lw x l)=true)(G:GV w):TI w lo cap x:=by
 refine⟨h.k,h.n,h.c,fun h0=>?_,G⟩;obtain⟨b,off,e,hb,hc⟩:=h.l h0;refine⟨b,off,e,hb,fun l hl=>?_⟩;obtain⟨cs,h1,h2⟩:=hc l hl;exact⟨cs,h1,h2.ki (hs l hl) G⟩
theorem open_vec{H:Type}{enc:TypeId×Value→H}{W:World}{fuel:Nat}{cs:List Value}{y:DataW H×List MemPlace}(hl:cs.length=22)(hf:DataW.trod enc Tryz.prog W 0 (fun _=>true) true fuel 45 cs=some y):∃a:RA,KArg W cs a:=by
 obtain⟨c0,c1,c2,c3,c4,c5,c6,c7,c8,c9,c10,c11,c12,c13,c14,c15,c16,c17,c18,c19,c20,c21,e⟩:=array22 (cs:=cs.toArray) (by simpa using hl)
 obtain rfl:cs=[c0,c1,c2,c3,c4,c5,c6,c7,c8,c9,c10,c11,c12,c13,c14,c15,c16,c17,c18,c19,c20,c21]:=by simpa using congrArg Array.toList e
 clear e;obtain⟨y0,y1,y2,y3,n,h0,h1,h2,h3⟩:=trod_struct4 Tryz.underlying45 hf;have g0:DataW.trod enc Tryz.prog W 0 (fun _=>true) true n 3 [c0]=some y0:=by simpa [Tryz.cells3]using h0
 have g1:DataW.trod enc Tryz.prog W 0 (fun _=>true) true n 37 [c1,c2,c3,c4]=some y1:=by simpa [Tryz.cells37]using h1
 have g2:DataW.trod enc Tryz.prog W 0 (fun _=>true) true n 41 [c5,c6,c7,c8,c9,c10,c11,c12,c13]=some y2:=by simpa [cells_r9]using h2
 have g3:DataW.trod enc Tryz.prog W 0 (fun _=>true) true n 43 [c14,c15,c16,c17,c18,c19,c20,c21]=some y3:=by simpa [cells_f8']using h3
 obtain⟨K,rfl,hK⟩:=open_i8 g0;obtain⟨p,hp⟩:=open_p7 g1;obtain⟨r,hr⟩:=open_r8 g2;obtain⟨f,hf⟩:=open_f9 g3;exact⟨⟨K,p,r,f⟩,_,_,_,rfl,hK,hp,hr,hf⟩
theorem cells_v22':Tryz.prog.cellsOf 45=22:=by kernel_rfl
theorem cells_tr:Tryz.prog.cellsOf 26=3:=by kernel_rfl
theorem cells_vs:Tryz.prog.cellsOf 24=1:=by kernel_rfl
theorem addr_add(b o i:Nat):Addr.add ⟨b,o,none⟩ i=⟨b,o+i,none⟩:=by
 unfold Addr.add;split
 ·subst_vars;rfl
 ·rfl
theorem open_vecs{H:Type}{enc:TypeId×Value→H}{W:World}{n:Nat}{c:Value}{y:DataW H×List MemPlace}(hf:DataW.trod enc Tryz.prog W 0 (fun _=>true) true n 24 [c]=some y):∃(lo:Option Addr) (av:List RA) (cap:Nat),c=.slice lo av.length cap∧av.length≤cap∧LvA W lo av:=by
 rcases open_slice Tryz.underlying24 hf with⟨e,_⟩ | ⟨a,len,cap,m,k,D,Pl,e,_,hl,_,hm,_,hx⟩
 ·obtain rfl:c=.slice none 0 0:=by simpa using e
  exact⟨none,[],0,rfl,Nat.le_refl _,fun h=>absurd h (by decide)⟩
 ·obtain rfl:c=.slice (some a) len cap:=by simpa using e
  rw[cells_v22']at hx;obtain rfl:m=cap:=by simpa using hm
  have hy:∀i,i<m→∃r:RA,∃cs,W.cells? 0 (a.add (i*22)) 22=some cs∧KArg W cs r:=fun i hi=>by
   obtain⟨cs,h1,h2⟩:=hx i hi;obtain⟨r,hr⟩:=open_vec (World.cells?_some h1).2.1 h2;exact⟨r,cs,h1,hr⟩
  have hz:∀i:Nat,∃r:RA,i<m→∃cs,W.cells? 0 (a.add (i*22)) 22=some cs∧KArg W cs r:=fun i=>by
   by_cases hi:i<m
   ·obtain⟨r,hr⟩:=hy i hi;exact⟨r,fun _=>hr⟩
   ·exact⟨ra0,fun h=>absurd h hi⟩
  obtain⟨f,hf⟩:=Classical.axiomOfChoice hz;refine⟨some a,(List.range len).map f,m,by simp,by simpa using hl,fun h0=>?_⟩;have hlen:((List.range len).map f).length=len:=by simp
  rw[hlen]at h0⊢;obtain⟨b,off,s⟩:=a;obtain⟨cs,h1,_⟩:=hf 0 (by omega);obtain⟨_,hl0,hc0⟩:=World.cells?_some h1;have c0:=hc0 0 (by decide);rw[List.getElem?_eq_getElem (by omega)]at c0
  have e0:(Addr.add ⟨b,off,s⟩ (0*22)).add 0=⟨b,off,s⟩:=by rw[add_add];unfold Addr.add;rfl
  rw[e0]at c0;obtain⟨k1,rfl⟩:=cell_lt c0;refine⟨b,off,rfl,k1,fun l hl2=>?_⟩;obtain⟨cs,h1,h2⟩:=hf l (by omega);refine⟨cs,fun j v hv=>?_,?_⟩
  ·obtain⟨_,hl3,hc3⟩:=World.cells?_some h1
   have hj:j<22:=by
    rw[←hl3];exact(List.getElem?_eq_some_iff.1 hv).1
   have:=hc3 j hj;rw[add_add,addr_add,←Nat.add_assoc]at this;rw[this,hv]
  ·rw[List.getD_eq_getElem?_getD,List.getElem?_map,List.getElem?_range hl2];exact h2
theorem open_tree{H:Type}{enc:TypeId×Value→H}{W:World}{base:Nat}{v:Value}{d:DataW H}{p:List MemPlace}(hv:Value.okWide Tryz.prog W .any base 26 v)(h:DataW.Trod enc Tryz.prog W 0 (fun _=>true) true 26 v d p):
  ∃(lo:Option Addr) (cap:Nat) (x:TR),v=.agg #[.int .i64 x.K,.int .i64 x.N,.slice lo x.av.length cap]∧TArg W lo cap x:=by
 obtain⟨cs,rfl,hsz⟩:=okWide_struct Tryz.underlying26 hv;obtain⟨c0,c1,c2,rfl⟩:=array3 (hsz.trans cells_tr);obtain⟨fuel,hf⟩:=h;obtain⟨y0,y1,y2,n,_,_,h0,h1,h2⟩:=trod_struct3 Tryz.underlying26 hf
 have g0:DataW.trod enc Tryz.prog W 0 (fun _=>true) true n 3 [c0]=some y0:=by simpa [Value.cells,Tryz.cells3]using h0
 have g1:DataW.trod enc Tryz.prog W 0 (fun _=>true) true n 3 [c1]=some y1:=by simpa [Value.cells,Tryz.cells3]using h1
 have g2:DataW.trod enc Tryz.prog W 0 (fun _=>true) true n 24 [c2]=some y2:=by simpa [Value.cells,Tryz.cells3,cells_vs]using h2
 obtain⟨K,rfl,hK⟩:=open_i8 g0;obtain⟨N,rfl,hN⟩:=open_i8 g1;obtain⟨lo,av,cap,rfl,hc,hl⟩:=open_vecs g2;exact⟨lo,cap,⟨K,N,av⟩,rfl,⟨hK,hN,hc,hl⟩⟩
end Go.Proofs.YtfnkklkdajlhlaaGreatDoor
namespace Go.Proofs.YtfnkklkdajlhlaaGreatDoor
open Go.RowKit Num Bit
def tSm(x:TR):Prop:=x.av.length≤20∧x.N≤600∧∀l,l<x.av.length→smB (lw x l)=true
theorem TArg.keep{w w':World}{lo:Option Addr}{cap:Nat}{x:TR}(h:TArg w lo cap x)(hb:Below w.heap.size w w'):TArg w' lo cap x:=by
 refine⟨h.k,h.n,h.c,fun h0=>?_⟩;obtain⟨b,off,e,hbl,hc⟩:=h.l h0;refine⟨b,off,e,Nat.lt_of_lt_of_le hbl hb.size,fun l hl=>?_⟩;obtain⟨cs,h1,h2⟩:=hc l hl;exact⟨cs,range_keep h1 hb hbl,h2.keep hb⟩
section
variable {P:Program} {ops:Array Oper} {Q:Exit→Act→World→Prop} {md:Region.Mode} {S E:World→Prop}
theorem AnyG.more:∀f l a w,S w→E w→AnyG P md ops Q (fun w=>S w∧E w) [] f l a w→AnyG P md ops Q S [] f l a w
 | 0,_,_,_,_,_,h=>h
 | f+1,_,_,_,hs,he,h=>⟨h.1,fun i hi=>wpOp_mono (fun a' w' h'=>⟨fun _ _=>(h'.1 (by simp) ⟨hs,he⟩).1,AnyG.more f _ a' w' (h'.1 (by simp) ⟨hs,he⟩).1 (h'.1 (by simp) ⟨hs,he⟩).2 h'.2⟩) (h.2 i hi)⟩
end
theorem rsmall_x(lo:Option Addr)(cap:Nat)(x:TR)(w:World)(h:TArg w lo cap x)(hN:I64 x.N):
  Calls Tryz.prog 18 #[.agg #[.int .i64 x.K,.int .i64 x.N,.slice lo x.av.length cap]] w fun e w'=>∃B,e=.returned (.bool B)∧(B=true→tSm x)∧Below w.heap.size w w':=by
 show Calls Tryz.prog 18 #[.agg #[.int .i64 x.K,.int .i64 x.N,.slice lo x.av.length cap]] w fun e w'=>∃B,e=.returned (.bool B)∧(B=true→x.av.length≤20∧x.N≤600∧∀l,l<x.av.length→smB (lw x l)=true)∧Below w.heap.size w w'
 have CO:Hid (∀q,q<x.av.length→∃b off cs,lo=some ⟨b,off,none⟩∧b<w.heap.size∧w.rangeAt b (off+q*22) cs∧(Tryz.prog.info? 45).map (·.size)=some cs.length∧Qz w 44 #[.agg cs.toArray] (.bool (smB (lw x q)))):=fun q hq=>by
  obtain⟨b,off,e,hb,hc⟩:=h.l (by omega);obtain⟨cs,h1,h2⟩:=hc q hq;exact⟨b,off,cs,e,hb,h1,h2.len,fun w0 hb=>vsmall_c cs (lw x q) w0 (h2.keep hb)⟩
 have bx:=Cel.new w [.int .i64 x.K,.int .i64 x.N,.slice lo x.av.length cap] 26;have bw:=below_alloc w (.cells #[.int .i64 x.K,.int .i64 x.N,.slice lo x.av.length cap] 26);clear h;generalize x.K=K at *
 generalize x.N=N at *;generalize x.av.length=n at *;by_cases c20:n≤20
 ·have d20:(n:Int)≤20:=by omega
  go_enter Tryz.func18,Tryz.ntmps18;go_wp2
  go_loopw [3] (fun s wr=>∃q:Nat,q≤n∧s=.int .i64 q∧Hid (∀j,j<q→smB (lw x j)=true)∧Cel wr w.heap.size [.int .i64 K,.int .i64 N,.slice lo n cap] 26∧Below w.heap.size w wr) (fun s _=>n-(intOf s).toNat)
  case atStart=>exact⟨0,Nat.zero_le _,rfl,fun j hj=>absurd hj (by omega),bx,bw⟩
  case round=>
   obtain⟨q,hq,rfl,HJ,hx,hb⟩:=hrel;clear bx bw;have x1:=hx.cell 1 rfl;have x2:=hx.cell 2 rfl;by_cases hi:q<n
   ·have hi2:(q:Int)<(n:Int):=by omega
    obtain⟨b,off,cs,rfl,hbl,rg,HL,C⟩:=CO.out q hi;have HL:=Hid.mkt HL;have C:=Hid.mkt C;have rg2:=range_keep rg hb hbl
    have HQ:Hid (smB (lw x q)=true→∀j,j<q+1→smB (lw x j)=true):=fun h j hj=>by
     by_cases e:j=q
     ·rw[e];exact h
     ·exact HJ.out j (by omega)
    generalize smB (lw x q)=Bq at *;go_wp2_with (refine load_part b (off+q*22) cs (by rfl) rfl rg2 Tryz.underlying45 HL.out ?_);refine mr (C.out _ hb) fun w2 hb2=>?_;replace hx:=hx.kept hb2
    replace hb:=bg hb hb2;clear hb2 rg rg2 x1 x2 CO HJ;cases Bq with
    | true=>
     have HF:=Hid.mkt (And.intro hx hb);clear hx hb;go_wp2;exact⟨⟨q+1,by omega,by go_num,HQ.out trivial,HF.out⟩,by simp only[intOf];omega⟩
    | false=>
     go_wp2;go_ret;exact⟨false,rfl,(fun h=>by cases h),hb⟩
   ·obtain rfl:q=n:=by omega
    clear CO;go_wp2;go_ret;refine⟨decide (N≤600),?_,fun h=>⟨c20,by simpa using h,HJ.out⟩,hb⟩;simp
 ·have d20:¬(n:Int)≤20:=by omega
  go_enter Tryz.func18,Tryz.ntmps18;go_wp2;go_loopw [3] (fun s wr=>s=.int .i64 0∧Cel wr w.heap.size [.int .i64 K,.int .i64 N,.slice lo n cap] 26∧Below w.heap.size w wr) (fun s _=>0)
  case atStart=>exact⟨rfl,bx,bw⟩
  case round=>
   obtain⟨rfl,hx,hb⟩:=hrel;clear bx bw CO;have x1:=hx.cell 1 rfl;have x2:=hx.cell 2 rfl;have dn:decide ((0:Int)<(n:Int))=true:=decide_eq_true (by omega);have dn2:(0:Int)<(n:Int):=by omega
   go_wp2;go_ret;exact⟨rfl,hb⟩
theorem and_tt{a b:Bool}(ha:a=true)(hb:b=true):(a&&b)=true:=by rw[ha,hb];rfl
theorem trod_int1{W:World}{fuel:Nat}{t:TypeId}{k:IntKind}{cs:List Value}{y:DataW Unit×List MemPlace}(hu:Tryz.prog.underlying t=some (.int k))(h:DataW.trod (fun _=>()) Tryz.prog W 0 (fun _=>true) false fuel t cs=some y):∃n,cs=[.int k n]∧y.1=.lit (.int k n):=by
 cases fuel with
 | zero=>simp[DataW.trod]at h
 | succ fuel=>
  unfold DataW.trod at h;rw[hu]at h;match cs,h with
  | [.int k' n],h=>
   dsimp only at h;split at h
   ·rename_i hk;obtain⟨rfl,_⟩:=hk;cases h;exact⟨n,rfl,rfl⟩
   ·cases h
theorem mapM_get{α β:Type}(f:α→Option β):∀(L:List α) (ys:List β),L.mapM f=some ys→ys.length=L.length∧∀(i:Nat) a y,L[i]?=some a→ys[i]?=some y→f a=some y
 | [],ys,h=>by
  rw[List.mapM_nil]at h;cases h;exact⟨rfl,fun i a y e=>by simp at e⟩
 | b::L,ys,h=>by
  rw[List.mapM_cons]at h;simp only[Option.bind_eq_bind,Option.bind_eq_some_iff,Option.pure_def,Option.some.injEq]at h;obtain⟨z,h1,zs,h2,rfl⟩:=h;obtain⟨e1,e2⟩:=mapM_get f L zs h2
  refine⟨by simp[e1],fun i a y ha hy=>?_⟩;cases i with
  | zero=>simp at ha hy;subst ha;subst hy;exact h1
  | succ i=>exact e2 i a y (by simpa using ha) (by simpa using hy)
theorem trod_arr{W:World}{fuel n:Nat}{t e:TypeId}{k:IntKind}{cs:List Value}{l:List Int}{p:List MemPlace}(hu:Tryz.prog.underlying t=some (.array n e))(he:Tryz.prog.underlying e=some (.int k))(ce:Tryz.prog.cellsOf e=1)(ct:Tryz.prog.cellsOf t=n)
  (h:DataW.trod (fun _=>()) Tryz.prog W 0 (fun _=>true) false fuel t cs=some (.agg (l.map fun x=>.lit (.int k x)),p)):cs=l.map fun x=>.int k x:=by
 cases fuel with
 | zero=>simp[DataW.trod]at h
 | succ fuel=>
  unfold DataW.trod at h;rw[hu]at h;dsimp only at h;split at h
  ·rename_i hl;rw[Option.map_eq_some_iff]at h;obtain⟨ys,h1,h2⟩:=h;obtain⟨g1,g2⟩:=mapM_get _ _ _ h1;simp only[Prod.mk.injEq,DataW.agg.injEq]at h2;have hy:=h2.1
   have ll:l.length=n:=by
    have:=congrArg List.length hy;simp only[List.length_map]at this;rw[←this,g1,List.length_range]
   rw[ct]at hl;refine List.ext_getElem? fun i=>?_;by_cases hi:i<n
   ·obtain⟨y,ey⟩:∃y,ys[i]?=some y:=⟨_,List.getElem?_eq_getElem (by rw[g1,List.length_range];exact hi)⟩;have e3:=g2 i i y (List.getElem?_range hi) ey;obtain⟨m,e4,e5⟩:=trod_int1 he e3
    have e6:(ys.map (·.1))[i]?=some (.lit (.int k m)):=by rw[List.getElem?_map,ey];exact congrArg some e5
    rw[hy,List.getElem?_map]at e6;obtain⟨x,ex⟩:∃x,l[i]?=some x:=⟨_,List.getElem?_eq_getElem (by omega)⟩;rw[ex]at e6;simp only[Option.map_some,Option.some.injEq,DataW.lit.injEq,Lit.int.injEq,true_and]at e6
    rw[List.getElem?_map,ex,e6];rw[ce,Nat.mul_one]at e4;have e7:=congrArg (·[0]?) e4;simp only[List.getElem?_take_of_lt (Nat.one_pos),List.getElem?_drop,Nat.add_zero]at e7;exact e7
   ·rw[List.getElem?_eq_none (by omega),List.getElem?_eq_none (by rw[List.length_map];omega)]
  ·cases h
theorem cel_laid{W:World}{g:Nat}{nm:String}{cs:Array Value}{vs:List Value}(hg:Tryz.prog.globalNamed nm=some g)(hv:W.var? Tryz.prog nm=some cs)(hc:cs.toList=vs)(hm:∃c t,W.heap[g]?=some (.cells c t (0,0))):Tb W g vs:=by
 obtain⟨c,t,e⟩:=hm;refine⟨t,?_⟩;unfold World.var? at hv;rw[hg]at hv;simp only[Option.bind_some,e,Option.some.injEq]at hv;subst hv;unfold Cel;rw[e,←hc]
def laidL:List (String×DataW Unit):=[("errors.errorType",Rows.laid_errors_errorType),("haystack/rrr.ways",Rows.laid_haystack_rrr_ways),("haystack/rrr.widths",Rows.laid_haystack_rrr_widths)]
theorem gv_of_laid{W:World}(h:laidMetH Tryz.prog laidL W):GV W:=by
 have h0:laidMet Tryz.prog [("haystack/rrr.ways",Rows.laid_haystack_rrr_ways),("haystack/rrr.widths",Rows.laid_haystack_rrr_widths)] W:=And.left (show _∧_ from h)
 obtain⟨ps,⟨g,t,cs,fuel,p,q,hg,ht,hv,hd,⟨g2,t2,cs2,fuel2,p2,q2,hg2,ht2,hv2,hd2,hr,hq⟩,hps⟩,_,hm⟩:=h0;obtain rfl:q2=[]:=hr
 obtain rfl:=Option.some.inj ((show Tryz.prog.globalNamed "haystack/rrr.ways" =some 0 by kernel_rfl).symm.trans hg)
 obtain rfl:=Option.some.inj ((show Tryz.prog.globalNamed "haystack/rrr.widths" =some 1 by kernel_rfl).symm.trans hg2)
 obtain rfl:=Option.some.inj ((show(Tryz.prog.globals[0]?).map (·.type)=some 187 by kernel_rfl).symm.trans ht)
 obtain rfl:=Option.some.inj ((show(Tryz.prog.globals[1]?).map (·.type)=some 202 by kernel_rfl).symm.trans ht2)
 have e1:cs.toList=wv chL:=(trod_arr (l:=[1,15,105,455,1365,3003,5005,6435,6435,5005,3003,1365,455,105,15,1]) Tryz.underlying187 Tryz.underlying110 (by kernel_rfl) (by kernel_rfl) hd).trans rfl
 have e2:cs2.toList=vI wdL:=(trod_arr (l:=[0,4,7,9,11,12,13,13,13,13,12,11,9,7,4,0]) Tryz.underlying202 Tryz.underlying3 (by kernel_rfl) (by kernel_rfl) hd2).trans rfl
 have s1:cs.size=16:=by rw[←Array.length_toList,e1];rfl
 have s2:cs2.size=16:=by rw[←Array.length_toList,e2];rfl
 refine⟨cel_laid hg2 hv2 e2 (hm _ 0 ?_).1,cel_laid hg hv e1 (hm _ 0 ?_).1⟩
 ·rw[hps,hq,s2];exact List.mem_append_right _ (List.mem_append_left _ (List.mem_append_left _ (List.mem_map.2 ⟨0,List.mem_range.2 (by decide),rfl⟩)))
 ·rw[hps,s1];exact List.mem_append_left _ (List.mem_append_left _ (List.mem_map.2 ⟨0,List.mem_range.2 (by decide),rfl⟩))
end Go.Proofs.YtfnkklkdajlhlaaGreatDoor
