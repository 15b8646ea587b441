/-
  The contracts of the document's Small, and of small: whether one is not long. What the row says of the two tables: they lie where the program lays them.
-/
import Derived.Test.YtpeecabfcgijhaaGreatDoorT13
import Derived.Test.YtpeecabfcgijhaaGreatDoorT35
import Derived.Deep.DeepCutAuto
import Derived.Test.YtpeecabfcgijhaaGreatDoorT09
import Derived.Test.YtpeecabfcgijhaaGreatDoorRows
set_option linter.unusedVariables false
set_option linter.unusedSimpArgs false
set_option maxRecDepth 100000
set_option maxHeartbeats 16000000
namespace Go.Proofs.YtpeecabfcgijhaaGreatDoor
open Go.RowKit Num Bit
def smB (a : RA) : Bool := (decide (a.p.N ≤ 3000) && (decide ((a.p.xs.length : Int) ≤ 3000) && (decide ((a.p.S.length : Int) ≤ 3000) && (decide ((a.p.T.length : Int) ≤ 3000) && (decide (a.r.N ≤ 3000) && (decide (a.r.k ≤ 3000) && (decide ((a.r.xs.length : Int) ≤ 3000) && (decide ((a.r.ys.length : Int) ≤ 3000) && (decide ((a.r.S.length : Int) ≤ 3000) && (decide ((a.r.T.length : Int) ≤ 3000) && (decide (a.f.N ≤ 3000) && (decide (a.f.M ≤ 3000) && (decide (a.f.k ≤ 3000) && (decide ((a.f.xs.length : Int) ≤ 3000) && decide ((a.f.ys.length : Int) ≤ 3000)))))))))))))))
theorem sm_out (a : RA) (h : smB a = true) : a.p.N ≤ 3000 ∧ (a.p.xs.length : Int) ≤ 3000 ∧ (a.p.S.length : Int) ≤ 3000 ∧ (a.p.T.length : Int) ≤ 3000 ∧ a.r.N ≤ 3000 ∧ a.r.k ≤ 3000 ∧ (a.r.xs.length : Int) ≤ 3000 ∧ (a.r.ys.length : Int) ≤ 3000 ∧ (a.r.S.length : Int) ≤ 3000 ∧ (a.r.T.length : Int) ≤ 3000 ∧ a.f.N ≤ 3000 ∧ a.f.M ≤ 3000 ∧ a.f.k ≤ 3000 ∧ (a.f.xs.length : Int) ≤ 3000 ∧ (a.f.ys.length : Int) ≤ 3000 := by
 unfold smB at h
 simp only [Bool.and_eq_true, decide_eq_true_eq] at h
 exact h
theorem KArg.ki {w : World} {cs : List Value} {a : RA} (h : KArg w cs a) (hs : smB a = true) (G : GV w) : KI w cs a := by
 have := sm_out a hs
 exact ⟨h, ⟨by omega, by omega, by omega, by omega, by omega, by omega, by omega, by omega, by omega, by omega⟩, G⟩
section
variable {P : Program} {ops : Array Oper} {Q : Exit → Act → World → Prop} {md : Region.Mode} {S : World → Prop} {ns : List Nat}
theorem AnyG.three (i j k : Nat) {o p q : Oper} {f : Nat} {l : Array Bool} {a : Act} {w : World} (hr : Region.ready md ops l = [i, j, k]) (ho : ops[i]? = some o) (hp : ops[j]? = some p) (hq : ops[k]? = some q)
  (h : ∀ K : Act → World → Prop, Shut (∀ a' w', (i ∉ ns → S w') → AnyG P md ops Q S ns f (l.setIfInBounds i true) a' w' → K a' w') → if Region.wanted o (yielded ops a.tmps) = true then Oper.wp P o a w K Q else K (a.put o.dst undef) w)
  (h2 : ∀ K : Act → World → Prop, Shut (∀ a' w', (j ∉ ns → S w') → AnyG P md ops Q S ns f (l.setIfInBounds j true) a' w' → K a' w') → if Region.wanted p (yielded ops a.tmps) = true then Oper.wp P p a w K Q else K (a.put p.dst undef) w)
  (h3 : ∀ K : Act → World → Prop, Shut (∀ a' w', (k ∉ ns → S w') → AnyG P md ops Q S ns f (l.setIfInBounds k true) a' w' → K a' w') → if Region.wanted q (yielded ops a.tmps) = true then Oper.wp P q a w K Q else K (a.put q.dst undef) w) :
  AnyG P md ops Q S ns (f + 1) l a w := by
 refine ⟨fun h0 => absurd (hr.symm.trans h0) (by simp), fun x hx => ?_⟩
 rw [hr] at hx
 rcases List.mem_cons.1 hx with rfl | hx
 ·exact wpOp_step ho (fun K hK => h K (fun a' w' hS hW => hK a' w' ⟨fun n _ => hS n, hW⟩))
 ·rcases List.mem_cons.1 hx with rfl | hx
  ·exact wpOp_step hp (fun K hK => h2 K (fun a' w' hS hW => hK a' w' ⟨fun n _ => hS n, hW⟩))
  ·obtain rfl := List.mem_singleton.1 hx
   exact wpOp_step hq (fun K hK => h3 K (fun a' w' hS hW => hK a' w' ⟨fun n _ => hS n, hW⟩))
end
theorem run_load_part {T : TypeId} {w : World} {x : Operand} {ρ : Operand → Value} {d : Option Tmp} {ty : TypeId} {ps : String} {af : Array Edge} {gd : Option (Nat × Bool)}
  (g o : Nat) (cs : List Value) {fs : Array Field} (hx : ρ x = .pointer (some ⟨g, o, none⟩)) (hc : w.rangeAt g o cs) (hu : Tryz.prog.underlying T = some (.struct fs)) (hi : (Tryz.prog.info? T).map (·.size) = some cs.length) :
  (execOp ρ (⟨d, .load T x, ty, ps, af, gd⟩ : Oper)).run Tryz.prog w = .ok (.value (.agg cs.toArray)) w := by
 have hl := run_loadVar_mid (P := Tryz.prog) w g o T cs _ hc hu rfl hi
 unfold execOp
 simp only [hx, Instr.loadAt, Instr.sureAddr, Sem.run_bind, Sem.run_pure, Result.andThen_ok, hl]
theorem vsmall_c (cs : List Value) (a : RA) (w : World) (h : KArg w cs a) :
  Calls Tryz.prog 53 #[.agg cs.toArray] w fun e w' => e = .returned (.bool (smB a)) ∧ Below w.heap.size w w' := by
 obtain ⟨cp, cr, cf, rfl, hK, h1, h2, h3⟩ := h
 have l4 := Hid.mk8 h1.four
 have l9 := Hid.mk8 h2.nine
 have LP := Hid.mk8 h1.len
 have LR := Hid.mk8 h2.len
 have LF := Hid.mk8 h3.len
 obtain ⟨K, p, r, f⟩ := a
 dsimp only at *
 have l8 := Hid.mk8 h3.nine
 have o7 := Hid.mk8 h1.one
 have o8 := Hid.mk8 h2.one
 have o9 := Hid.mk8 h3.one
 obtain ⟨Z, hZ⟩ : ∃ Z, Hid (Z = smB ⟨K, p, r, f⟩) := ⟨_, rfl⟩
 rw [← hZ.out]
 have B0 : Cel (w.alloc (.cells (Value.int .i64 K :: (cp ++ (cr ++ cf))).toArray 37)) w.heap.size (Value.int .i64 K :: (cp ++ (cr ++ cf))) 37 := Cel.new w _ _
 have bw : Below w.heap.size w (w.alloc (.cells (Value.int .i64 K :: (cp ++ (cr ++ cf))).toArray 37)) := below_alloc w _
 go_enter Tryz.func53, Tryz.ntmps53
 go_upto_region 1 with fail
 go_cut [3, 4, 5] (fun s3 s4 s5 wx => ∃ g3 g4 g5 : Nat, s3 = .pointer (some ⟨g3, 0, none⟩) ∧ s4 = .pointer (some ⟨g4, 0, none⟩) ∧ s5 = .pointer (some ⟨g5, 0, none⟩) ∧ Cel wx g3 cp 29 ∧ Cel wx g4 cr 33 ∧ Cel wx g5 cf 35 ∧ Below w.heap.size w wx)
 case first =>
  refine region_g [] (fun w' => Cel w' w.heap.size (Value.int .i64 K :: (cp ++ (cr ++ cf))) 37 ∧ Below w.heap.size w w') (by kernel_rfl) ?_
  have hS := And.intro (B0.kept (Below.refl _ _).drew) bw.drew
  clear B0 bw
  generalize (w.alloc (.cells (Value.int .i64 K :: (cp ++ (cr ++ cf))).toArray 37)).drew = wd at *
  refine AnyG.tk 0 hS ?_
  refine AnyG.tf 1 (v := .agg cp.toArray) hS rfl (fun w0 h0 => by obtain ⟨c0, p1, p2, p3⟩ := parts l4.out l9.out h0.1; exact run_load_part w.heap.size 1 cp rfl p1 Tryz.underlying29 LP.out) ?_
  refine AnyG.tk 2 hS ?_
  refine AnyG.tf 3 (v := .agg cr.toArray) hS rfl (fun w0 h0 => by obtain ⟨c0, p1, p2, p3⟩ := parts l4.out l9.out h0.1; exact run_load_part w.heap.size 5 cr rfl p2 Tryz.underlying33 LR.out) ?_
  refine AnyG.tk 4 hS ?_
  refine AnyG.tf 5 (v := .agg cf.toArray) hS rfl (fun w0 h0 => by obtain ⟨c0, p1, p2, p3⟩ := parts l4.out l9.out h0.1; exact run_load_part w.heap.size 14 cf rfl p3 Tryz.underlying35 LF.out) ?_
  have z0 := hS.1.lt
  refine AnyG.three 6 7 8 (by kernel_rfl) rfl rfl rfl ?_ ?_ ?_
  ·intro K hK
   go_simp
   have hb := below_alloc wd (.cells #[.int .i64 0, .slice none 0 0, .slice none 0 0, .slice none 0 0] 29)
   have Y6 := Cel.new wd [Value.int .i64 0, .slice none 0 0, .slice none 0 0, .slice none 0 0] 29
   replace hS := And.intro (hS.1.kept hb) (hS.2.trans (hb.mono hS.2.size))
   refine hK.out _ _ (fun _ => hS) ?_
   clear hK K hb
   try simp only [Act.put, yq0, yq1, yq2, yq3, yq4, yq5]
   have zz63 : (wd.alloc (.cells #[.int .i64 0, .slice none 0 0, .slice none 0 0, .slice none 0 0] 29)).heap.size = wd.heap.size + 1 := by simp
   generalize wd.alloc (.cells #[.int .i64 0, .slice none 0 0, .slice none 0 0, .slice none 0 0] 29) = wn63 at *
   refine AnyG.two 7 8 (by kernel_rfl) rfl rfl ?_ ?_
   ·intro K hK
    go_simp
    have hb := below_alloc wn63 (.cells #[.int .i64 0, .int .i64 0, .int .i64 0, .int .i64 0, .slice none 0 0, .int .i64 0, .slice none 0 0, .slice none 0 0, .slice none 0 0] 33)
    have Y7 := Cel.new wn63 [Value.int .i64 0, .int .i64 0, .int .i64 0, .int .i64 0, .slice none 0 0, .int .i64 0, .slice none 0 0, .slice none 0 0, .slice none 0 0] 33
    replace hS := And.intro (hS.1.kept hb) (hS.2.trans (hb.mono hS.2.size))
    replace Y6 := Y6.kept hb
    refine hK.out _ _ (fun _ => hS) ?_
    clear hK K hb
    try simp only [Act.put, yq0, yq1, yq2, yq3, yq4, yq5]
    have zz72 : (wn63.alloc (.cells #[.int .i64 0, .int .i64 0, .int .i64 0, .int .i64 0, .slice none 0 0, .int .i64 0, .slice none 0 0, .slice none 0 0, .slice none 0 0] 33)).heap.size = wn63.heap.size + 1 := by simp
    generalize wn63.alloc (.cells #[.int .i64 0, .int .i64 0, .int .i64 0, .int .i64 0, .slice none 0 0, .int .i64 0, .slice none 0 0, .slice none 0 0, .slice none 0 0] 33) = wn72 at *
    refine AnyG.o1 8 ?_
    intro K hK
    go_simp
    have hb := below_alloc wn72 (.cells #[.int .i64 0, .int .i64 0, .int .i64 0, .int .i64 0, .int .i64 0, .slice none 0 0, .int .i64 0, .slice none 0 0] 35)
    have Y8 := Cel.new wn72 [Value.int .i64 0, .int .i64 0, .int .i64 0, .int .i64 0, .int .i64 0, .slice none 0 0, .int .i64 0, .slice none 0 0] 35
    replace hS := And.intro (hS.1.kept hb) (hS.2.trans (hb.mono hS.2.size))
    replace Y6 := Y6.kept hb
    replace Y7 := Y7.kept hb
    refine hK.out _ _ (fun _ => hS) ?_
    clear hK K hb
    try simp only [Act.put, yq0, yq1, yq2, yq3, yq4, yq5]
    refine AnyG.o1 9 ?_
    intro K hK
    refine step_store9 _ _ cp rfl rfl (Y6.at (by omega)) l4.out.symm LP.out o7.out ?_
    intro v6 X6 O6
    replace Y7 := O6.cel Y7 (by omega)
    replace Y8 := O6.cel Y8 (by omega)
    replace hS := And.intro (O6.cel hS.1 (by omega)) (hS.2.trans (O6.below (by omega)))
    clear O6 Y6
    refine hK.out _ _ (fun _ => hS) ?_
    clear hK K
    try simp only [Act.put, yq0, yq1, yq2, yq3, yq4, yq5]
    refine AnyG.o1 10 ?_
    intro K hK
    refine step_store9 _ _ cr rfl rfl (Y7.at (by omega)) l9.out LR.out o8.out ?_
    intro v7 X7 O7
    replace Y8 := O7.cel Y8 (by omega)
    replace X6 := O7.cel X6 (by omega)
    replace hS := And.intro (O7.cel hS.1 (by omega)) (hS.2.trans (O7.below (by omega)))
    clear O7 Y7
    refine hK.out _ _ (fun _ => hS) ?_
    clear hK K
    try simp only [Act.put, yq0, yq1, yq2, yq3, yq4, yq5]
    refine AnyG.o1 11 ?_
    intro K hK
    refine step_store9 _ _ cf rfl rfl (Y8.at (by omega)) l8.out LF.out o9.out ?_
    intro v8 X8 O8
    replace X6 := O8.cel X6 (by omega)
    replace X7 := O8.cel X7 (by omega)
    replace hS := And.intro (O8.cel hS.1 (by omega)) (hS.2.trans (O8.below (by omega)))
    clear O8 Y8
    refine hK.out _ _ (fun _ => hS) ?_
    clear hK K
    try simp only [Act.put, yq0, yq1, yq2, yq3, yq4, yq5]
    refine AnyG.done (by kernel_rfl) ?_ _
    go_wp2_with fail
    go_meet
    exact ⟨_, _, _, rfl, rfl, rfl, X6, X7, X8, hS.2⟩
   ·intro K hK
    go_simp
    have hb := below_alloc wn63 (.cells #[.int .i64 0, .int .i64 0, .int .i64 0, .int .i64 0, .int .i64 0, .slice none 0 0, .int .i64 0, .slice none 0 0] 35)
    have Y8 := Cel.new wn63 [Value.int .i64 0, .int .i64 0, .int .i64 0, .int .i64 0, .int .i64 0, .slice none 0 0, .int .i64 0, .slice none 0 0] 35
    replace hS := And.intro (hS.1.kept hb) (hS.2.trans (hb.mono hS.2.size))
    replace Y6 := Y6.kept hb
    refine hK.out _ _ (fun _ => hS) ?_
    clear hK K hb
    try simp only [Act.put, yq0, yq1, yq2, yq3, yq4, yq5]
    have zz82 : (wn63.alloc (.cells #[.int .i64 0, .int .i64 0, .int .i64 0, .int .i64 0, .int .i64 0, .slice none 0 0, .int .i64 0, .slice none 0 0] 35)).heap.size = wn63.heap.size + 1 := by simp
    generalize wn63.alloc (.cells #[.int .i64 0, .int .i64 0, .int .i64 0, .int .i64 0, .int .i64 0, .slice none 0 0, .int .i64 0, .slice none 0 0] 35) = wn82 at *
    refine AnyG.o1 7 ?_
    intro K hK
    go_simp
    have hb := below_alloc wn82 (.cells #[.int .i64 0, .int .i64 0, .int .i64 0, .int .i64 0, .slice none 0 0, .int .i64 0, .slice none 0 0, .slice none 0 0, .slice none 0 0] 33)
    have Y7 := Cel.new wn82 [Value.int .i64 0, .int .i64 0, .int .i64 0, .int .i64 0, .slice none 0 0, .int .i64 0, .slice none 0 0, .slice none 0 0, .slice none 0 0] 33
    replace hS := And.intro (hS.1.kept hb) (hS.2.trans (hb.mono hS.2.size))
    replace Y6 := Y6.kept hb
    replace Y8 := Y8.kept hb
    refine hK.out _ _ (fun _ => hS) ?_
    clear hK K hb
    try simp only [Act.put, yq0, yq1, yq2, yq3, yq4, yq5]
    refine AnyG.o1 9 ?_
    intro K hK
    refine step_store9 _ _ cp rfl rfl (Y6.at (by omega)) l4.out.symm LP.out o7.out ?_
    intro v6 X6 O6
    replace Y7 := O6.cel Y7 (by omega)
    replace Y8 := O6.cel Y8 (by omega)
    replace hS := And.intro (O6.cel hS.1 (by omega)) (hS.2.trans (O6.below (by omega)))
    clear O6 Y6
    refine hK.out _ _ (fun _ => hS) ?_
    clear hK K
    try simp only [Act.put, yq0, yq1, yq2, yq3, yq4, yq5]
    refine AnyG.o1 10 ?_
    intro K hK
    refine step_store9 _ _ cr rfl rfl (Y7.at (by omega)) l9.out LR.out o8.out ?_
    intro v7 X7 O7
    replace Y8 := O7.cel Y8 (by omega)
    replace X6 := O7.cel X6 (by omega)
    replace hS := And.intro (O7.cel hS.1 (by omega)) (hS.2.trans (O7.below (by omega)))
    clear O7 Y7
    refine hK.out _ _ (fun _ => hS) ?_
    clear hK K
    try simp only [Act.put, yq0, yq1, yq2, yq3, yq4, yq5]
    refine AnyG.o1 11 ?_
    intro K hK
    refine step_store9 _ _ cf rfl rfl (Y8.at (by omega)) l8.out LF.out o9.out ?_
    intro v8 X8 O8
    replace X6 := O8.cel X6 (by omega)
    replace X7 := O8.cel X7 (by omega)
    replace hS := And.intro (O8.cel hS.1 (by omega)) (hS.2.trans (O8.below (by omega)))
    clear O8 Y8
    refine hK.out _ _ (fun _ => hS) ?_
    clear hK K
    try simp only [Act.put, yq0, yq1, yq2, yq3, yq4, yq5]
    refine AnyG.done (by kernel_rfl) ?_ _
    go_wp2_with fail
    go_meet
    exact ⟨_, _, _, rfl, rfl, rfl, X6, X7, X8, hS.2⟩
  ·intro K hK
   go_simp
   have hb := below_alloc wd (.cells #[.int .i64 0, .int .i64 0, .int .i64 0, .int .i64 0, .slice none 0 0, .int .i64 0, .slice none 0 0, .slice none 0 0, .slice none 0 0] 33)
   have Y7 := Cel.new wd [Value.int .i64 0, .int .i64 0, .int .i64 0, .int .i64 0, .slice none 0 0, .int .i64 0, .slice none 0 0, .slice none 0 0, .slice none 0 0] 33
   replace hS := And.intro (hS.1.kept hb) (hS.2.trans (hb.mono hS.2.size))
   refine hK.out _ _ (fun _ => hS) ?_
   clear hK K hb
   try simp only [Act.put, yq0, yq1, yq2, yq3, yq4, yq5]
   have zz73 : (wd.alloc (.cells #[.int .i64 0, .int .i64 0, .int .i64 0, .int .i64 0, .slice none 0 0, .int .i64 0, .slice none 0 0, .slice none 0 0, .slice none 0 0] 33)).heap.size = wd.heap.size + 1 := by simp
   generalize wd.alloc (.cells #[.int .i64 0, .int .i64 0, .int .i64 0, .int .i64 0, .slice none 0 0, .int .i64 0, .slice none 0 0, .slice none 0 0, .slice none 0 0] 33) = wn73 at *
   refine AnyG.two 6 8 (by kernel_rfl) rfl rfl ?_ ?_
   ·intro K hK
    go_simp
    have hb := below_alloc wn73 (.cells #[.int .i64 0, .slice none 0 0, .slice none 0 0, .slice none 0 0] 29)
    have Y6 := Cel.new wn73 [Value.int .i64 0, .slice none 0 0, .slice none 0 0, .slice none 0 0] 29
    replace hS := And.intro (hS.1.kept hb) (hS.2.trans (hb.mono hS.2.size))
    replace Y7 := Y7.kept hb
    refine hK.out _ _ (fun _ => hS) ?_
    clear hK K hb
    try simp only [Act.put, yq0, yq1, yq2, yq3, yq4, yq5]
    have zz62 : (wn73.alloc (.cells #[.int .i64 0, .slice none 0 0, .slice none 0 0, .slice none 0 0] 29)).heap.size = wn73.heap.size + 1 := by simp
    generalize wn73.alloc (.cells #[.int .i64 0, .slice none 0 0, .slice none 0 0, .slice none 0 0] 29) = wn62 at *
    refine AnyG.o1 8 ?_
    intro K hK
    go_simp
    have hb := below_alloc wn62 (.cells #[.int .i64 0, .int .i64 0, .int .i64 0, .int .i64 0, .int .i64 0, .slice none 0 0, .int .i64 0, .slice none 0 0] 35)
    have Y8 := Cel.new wn62 [Value.int .i64 0, .int .i64 0, .int .i64 0, .int .i64 0, .int .i64 0, .slice none 0 0, .int .i64 0, .slice none 0 0] 35
    replace hS := And.intro (hS.1.kept hb) (hS.2.trans (hb.mono hS.2.size))
    replace Y7 := Y7.kept hb
    replace Y6 := Y6.kept hb
    refine hK.out _ _ (fun _ => hS) ?_
    clear hK K hb
    try simp only [Act.put, yq0, yq1, yq2, yq3, yq4, yq5]
    refine AnyG.o1 9 ?_
    intro K hK
    refine step_store9 _ _ cp rfl rfl (Y6.at (by omega)) l4.out.symm LP.out o7.out ?_
    intro v6 X6 O6
    replace Y7 := O6.cel Y7 (by omega)
    replace Y8 := O6.cel Y8 (by omega)
    replace hS := And.intro (O6.cel hS.1 (by omega)) (hS.2.trans (O6.below (by omega)))
    clear O6 Y6
    refine hK.out _ _ (fun _ => hS) ?_
    clear hK K
    try simp only [Act.put, yq0, yq1, yq2, yq3, yq4, yq5]
    refine AnyG.o1 10 ?_
    intro K hK
    refine step_store9 _ _ cr rfl rfl (Y7.at (by omega)) l9.out LR.out o8.out ?_
    intro v7 X7 O7
    replace Y8 := O7.cel Y8 (by omega)
    replace X6 := O7.cel X6 (by omega)
    replace hS := And.intro (O7.cel hS.1 (by omega)) (hS.2.trans (O7.below (by omega)))
    clear O7 Y7
    refine hK.out _ _ (fun _ => hS) ?_
    clear hK K
    try simp only [Act.put, yq0, yq1, yq2, yq3, yq4, yq5]
    refine AnyG.o1 11 ?_
    intro K hK
    refine step_store9 _ _ cf rfl rfl (Y8.at (by omega)) l8.out LF.out o9.out ?_
    intro v8 X8 O8
    replace X6 := O8.cel X6 (by omega)
    replace X7 := O8.cel X7 (by omega)
    replace hS := And.intro (O8.cel hS.1 (by omega)) (hS.2.trans (O8.below (by omega)))
    clear O8 Y8
    refine hK.out _ _ (fun _ => hS) ?_
    clear hK K
    try simp only [Act.put, yq0, yq1, yq2, yq3, yq4, yq5]
    refine AnyG.done (by kernel_rfl) ?_ _
    go_wp2_with fail
    go_meet
    exact ⟨_, _, _, rfl, rfl, rfl, X6, X7, X8, hS.2⟩
   ·intro K hK
    go_simp
    have hb := below_alloc wn73 (.cells #[.int .i64 0, .int .i64 0, .int .i64 0, .int .i64 0, .int .i64 0, .slice none 0 0, .int .i64 0, .slice none 0 0] 35)
    have Y8 := Cel.new wn73 [Value.int .i64 0, .int .i64 0, .int .i64 0, .int .i64 0, .int .i64 0, .slice none 0 0, .int .i64 0, .slice none 0 0] 35
    replace hS := And.intro (hS.1.kept hb) (hS.2.trans (hb.mono hS.2.size))
    replace Y7 := Y7.kept hb
    refine hK.out _ _ (fun _ => hS) ?_
    clear hK K hb
    try simp only [Act.put, yq0, yq1, yq2, yq3, yq4, yq5]
    have zz82 : (wn73.alloc (.cells #[.int .i64 0, .int .i64 0, .int .i64 0, .int .i64 0, .int .i64 0, .slice none 0 0, .int .i64 0, .slice none 0 0] 35)).heap.size = wn73.heap.size + 1 := by simp
    generalize wn73.alloc (.cells #[.int .i64 0, .int .i64 0, .int .i64 0, .int .i64 0, .int .i64 0, .slice none 0 0, .int .i64 0, .slice none 0 0] 35) = wn82 at *
    refine AnyG.o1 6 ?_
    intro K hK
    go_simp
    have hb := below_alloc wn82 (.cells #[.int .i64 0, .slice none 0 0, .slice none 0 0, .slice none 0 0] 29)
    have Y6 := Cel.new wn82 [Value.int .i64 0, .slice none 0 0, .slice none 0 0, .slice none 0 0] 29
    replace hS := And.intro (hS.1.kept hb) (hS.2.trans (hb.mono hS.2.size))
    replace Y7 := Y7.kept hb
    replace Y8 := Y8.kept hb
    refine hK.out _ _ (fun _ => hS) ?_
    clear hK K hb
    try simp only [Act.put, yq0, yq1, yq2, yq3, yq4, yq5]
    refine AnyG.o1 9 ?_
    intro K hK
    refine step_store9 _ _ cp rfl rfl (Y6.at (by omega)) l4.out.symm LP.out o7.out ?_
    intro v6 X6 O6
    replace Y7 := O6.cel Y7 (by omega)
    replace Y8 := O6.cel Y8 (by omega)
    replace hS := And.intro (O6.cel hS.1 (by omega)) (hS.2.trans (O6.below (by omega)))
    clear O6 Y6
    refine hK.out _ _ (fun _ => hS) ?_
    clear hK K
    try simp only [Act.put, yq0, yq1, yq2, yq3, yq4, yq5]
    refine AnyG.o1 10 ?_
    intro K hK
    refine step_store9 _ _ cr rfl rfl (Y7.at (by omega)) l9.out LR.out o8.out ?_
    intro v7 X7 O7
    replace Y8 := O7.cel Y8 (by omega)
    replace X6 := O7.cel X6 (by omega)
    replace hS := And.intro (O7.cel hS.1 (by omega)) (hS.2.trans (O7.below (by omega)))
    clear O7 Y7
    refine hK.out _ _ (fun _ => hS) ?_
    clear hK K
    try simp only [Act.put, yq0, yq1, yq2, yq3, yq4, yq5]
    refine AnyG.o1 11 ?_
    intro K hK
    refine step_store9 _ _ cf rfl rfl (Y8.at (by omega)) l8.out LF.out o9.out ?_
    intro v8 X8 O8
    replace X6 := O8.cel X6 (by omega)
    replace X7 := O8.cel X7 (by omega)
    replace hS := And.intro (O8.cel hS.1 (by omega)) (hS.2.trans (O8.below (by omega)))
    clear O8 Y8
    refine hK.out _ _ (fun _ => hS) ?_
    clear hK K
    try simp only [Act.put, yq0, yq1, yq2, yq3, yq4, yq5]
    refine AnyG.done (by kernel_rfl) ?_ _
    go_wp2_with fail
    go_meet
    exact ⟨_, _, _, rfl, rfl, rfl, X6, X7, X8, hS.2⟩
  ·intro K hK
   go_simp
   have hb := below_alloc wd (.cells #[.int .i64 0, .int .i64 0, .int .i64 0, .int .i64 0, .int .i64 0, .slice none 0 0, .int .i64 0, .slice none 0 0] 35)
   have Y8 := Cel.new wd [Value.int .i64 0, .int .i64 0, .int .i64 0, .int .i64 0, .int .i64 0, .slice none 0 0, .int .i64 0, .slice none 0 0] 35
   replace hS := And.intro (hS.1.kept hb) (hS.2.trans (hb.mono hS.2.size))
   refine hK.out _ _ (fun _ => hS) ?_
   clear hK K hb
   try simp only [Act.put, yq0, yq1, yq2, yq3, yq4, yq5]
   have zz83 : (wd.alloc (.cells #[.int .i64 0, .int .i64 0, .int .i64 0, .int .i64 0, .int .i64 0, .slice none 0 0, .int .i64 0, .slice none 0 0] 35)).heap.size = wd.heap.size + 1 := by simp
   generalize wd.alloc (.cells #[.int .i64 0, .int .i64 0, .int .i64 0, .int .i64 0, .int .i64 0, .slice none 0 0, .int .i64 0, .slice none 0 0] 35) = wn83 at *
   refine AnyG.two 6 7 (by kernel_rfl) rfl rfl ?_ ?_
   ·intro K hK
    go_simp
    have hb := below_alloc wn83 (.cells #[.int .i64 0, .slice none 0 0, .slice none 0 0, .slice none 0 0] 29)
    have Y6 := Cel.new wn83 [Value.int .i64 0, .slice none 0 0, .slice none 0 0, .slice none 0 0] 29
    replace hS := And.intro (hS.1.kept hb) (hS.2.trans (hb.mono hS.2.size))
    replace Y8 := Y8.kept hb
    refine hK.out _ _ (fun _ => hS) ?_
    clear hK K hb
    try simp only [Act.put, yq0, yq1, yq2, yq3, yq4, yq5]
    have zz62 : (wn83.alloc (.cells #[.int .i64 0, .slice none 0 0, .slice none 0 0, .slice none 0 0] 29)).heap.size = wn83.heap.size + 1 := by simp
    generalize wn83.alloc (.cells #[.int .i64 0, .slice none 0 0, .slice none 0 0, .slice none 0 0] 29) = wn62 at *
    refine AnyG.o1 7 ?_
    intro K hK
    go_simp
    have hb := below_alloc wn62 (.cells #[.int .i64 0, .int .i64 0, .int .i64 0, .int .i64 0, .slice none 0 0, .int .i64 0, .slice none 0 0, .slice none 0 0, .slice none 0 0] 33)
    have Y7 := Cel.new wn62 [Value.int .i64 0, .int .i64 0, .int .i64 0, .int .i64 0, .slice none 0 0, .int .i64 0, .slice none 0 0, .slice none 0 0, .slice none 0 0] 33
    replace hS := And.intro (hS.1.kept hb) (hS.2.trans (hb.mono hS.2.size))
    replace Y8 := Y8.kept hb
    replace Y6 := Y6.kept hb
    refine hK.out _ _ (fun _ => hS) ?_
    clear hK K hb
    try simp only [Act.put, yq0, yq1, yq2, yq3, yq4, yq5]
    refine AnyG.o1 9 ?_
    intro K hK
    refine step_store9 _ _ cp rfl rfl (Y6.at (by omega)) l4.out.symm LP.out o7.out ?_
    intro v6 X6 O6
    replace Y7 := O6.cel Y7 (by omega)
    replace Y8 := O6.cel Y8 (by omega)
    replace hS := And.intro (O6.cel hS.1 (by omega)) (hS.2.trans (O6.below (by omega)))
    clear O6 Y6
    refine hK.out _ _ (fun _ => hS) ?_
    clear hK K
    try simp only [Act.put, yq0, yq1, yq2, yq3, yq4, yq5]
    refine AnyG.o1 10 ?_
    intro K hK
    refine step_store9 _ _ cr rfl rfl (Y7.at (by omega)) l9.out LR.out o8.out ?_
    intro v7 X7 O7
    replace Y8 := O7.cel Y8 (by omega)
    replace X6 := O7.cel X6 (by omega)
    replace hS := And.intro (O7.cel hS.1 (by omega)) (hS.2.trans (O7.below (by omega)))
    clear O7 Y7
    refine hK.out _ _ (fun _ => hS) ?_
    clear hK K
    try simp only [Act.put, yq0, yq1, yq2, yq3, yq4, yq5]
    refine AnyG.o1 11 ?_
    intro K hK
    refine step_store9 _ _ cf rfl rfl (Y8.at (by omega)) l8.out LF.out o9.out ?_
    intro v8 X8 O8
    replace X6 := O8.cel X6 (by omega)
    replace X7 := O8.cel X7 (by omega)
    replace hS := And.intro (O8.cel hS.1 (by omega)) (hS.2.trans (O8.below (by omega)))
    clear O8 Y8
    refine hK.out _ _ (fun _ => hS) ?_
    clear hK K
    try simp only [Act.put, yq0, yq1, yq2, yq3, yq4, yq5]
    refine AnyG.done (by kernel_rfl) ?_ _
    go_wp2_with fail
    go_meet
    exact ⟨_, _, _, rfl, rfl, rfl, X6, X7, X8, hS.2⟩
   ·intro K hK
    go_simp
    have hb := below_alloc wn83 (.cells #[.int .i64 0, .int .i64 0, .int .i64 0, .int .i64 0, .slice none 0 0, .int .i64 0, .slice none 0 0, .slice none 0 0, .slice none 0 0] 33)
    have Y7 := Cel.new wn83 [Value.int .i64 0, .int .i64 0, .int .i64 0, .int .i64 0, .slice none 0 0, .int .i64 0, .slice none 0 0, .slice none 0 0, .slice none 0 0] 33
    replace hS := And.intro (hS.1.kept hb) (hS.2.trans (hb.mono hS.2.size))
    replace Y8 := Y8.kept hb
    refine hK.out _ _ (fun _ => hS) ?_
    clear hK K hb
    try simp only [Act.put, yq0, yq1, yq2, yq3, yq4, yq5]
    have zz72 : (wn83.alloc (.cells #[.int .i64 0, .int .i64 0, .int .i64 0, .int .i64 0, .slice none 0 0, .int .i64 0, .slice none 0 0, .slice none 0 0, .slice none 0 0] 33)).heap.size = wn83.heap.size + 1 := by simp
    generalize wn83.alloc (.cells #[.int .i64 0, .int .i64 0, .int .i64 0, .int .i64 0, .slice none 0 0, .int .i64 0, .slice none 0 0, .slice none 0 0, .slice none 0 0] 33) = wn72 at *
    refine AnyG.o1 6 ?_
    intro K hK
    go_simp
    have hb := below_alloc wn72 (.cells #[.int .i64 0, .slice none 0 0, .slice none 0 0, .slice none 0 0] 29)
    have Y6 := Cel.new wn72 [Value.int .i64 0, .slice none 0 0, .slice none 0 0, .slice none 0 0] 29
    replace hS := And.intro (hS.1.kept hb) (hS.2.trans (hb.mono hS.2.size))
    replace Y8 := Y8.kept hb
    replace Y7 := Y7.kept hb
    refine hK.out _ _ (fun _ => hS) ?_
    clear hK K hb
    try simp only [Act.put, yq0, yq1, yq2, yq3, yq4, yq5]
    refine AnyG.o1 9 ?_
    intro K hK
    refine step_store9 _ _ cp rfl rfl (Y6.at (by omega)) l4.out.symm LP.out o7.out ?_
    intro v6 X6 O6
    replace Y7 := O6.cel Y7 (by omega)
    replace Y8 := O6.cel Y8 (by omega)
    replace hS := And.intro (O6.cel hS.1 (by omega)) (hS.2.trans (O6.below (by omega)))
    clear O6 Y6
    refine hK.out _ _ (fun _ => hS) ?_
    clear hK K
    try simp only [Act.put, yq0, yq1, yq2, yq3, yq4, yq5]
    refine AnyG.o1 10 ?_
    intro K hK
    refine step_store9 _ _ cr rfl rfl (Y7.at (by omega)) l9.out LR.out o8.out ?_
    intro v7 X7 O7
    replace Y8 := O7.cel Y8 (by omega)
    replace X6 := O7.cel X6 (by omega)
    replace hS := And.intro (O7.cel hS.1 (by omega)) (hS.2.trans (O7.below (by omega)))
    clear O7 Y7
    refine hK.out _ _ (fun _ => hS) ?_
    clear hK K
    try simp only [Act.put, yq0, yq1, yq2, yq3, yq4, yq5]
    refine AnyG.o1 11 ?_
    intro K hK
    refine step_store9 _ _ cf rfl rfl (Y8.at (by omega)) l8.out LF.out o9.out ?_
    intro v8 X8 O8
    replace X6 := O8.cel X6 (by omega)
    replace X7 := O8.cel X7 (by omega)
    replace hS := And.intro (O8.cel hS.1 (by omega)) (hS.2.trans (O8.below (by omega)))
    clear O8 Y8
    refine hK.out _ _ (fun _ => hS) ?_
    clear hK K
    try simp only [Act.put, yq0, yq1, yq2, yq3, yq4, yq5]
    refine AnyG.done (by kernel_rfl) ?_ _
    go_wp2_with fail
    go_meet
    exact ⟨_, _, _, rfl, rfl, rfl, X6, X7, X8, hS.2⟩
 case rest =>
 obtain ⟨g3, g4, g5, rfl, rfl, rfl, X6, X7, X8, bw1⟩ := hcut
 clear B0 bw l4 l9 l8 o7 o8 o9 LP LR LF
 obtain ⟨ao, cap, so, sc, tO, tc, rfl, -⟩ := h1
 obtain ⟨b1, b2, b3, b4, b5, b6, b7, b8, rfl, -⟩ := h2
 obtain ⟨d1, d2, d3, d4, rfl, -⟩ := h3
 obtain ⟨N7, x7, s7, u7⟩ := p
 obtain ⟨N8, k8, V8, M8, x8, L8, y8, s8, u8⟩ := r
 obtain ⟨N9, M9, k9, V9, L9, x9, H9, y9⟩ := f
 dsimp only at *
 have E0 : Hid (Z = ((decide (N7 ≤ 3000) && (decide ((x7.length : Int) ≤ 3000) && (decide ((s7.length : Int) ≤ 3000) && (decide ((u7.length : Int) ≤ 3000) && (decide (N8 ≤ 3000) && (decide (k8 ≤ 3000) && (decide ((x8.length : Int) ≤ 3000) && (decide ((y8.length : Int) ≤ 3000) && (decide ((s8.length : Int) ≤ 3000) && (decide ((u8.length : Int) ≤ 3000) && (decide (N9 ≤ 3000) && (decide (M9 ≤ 3000) && (decide (k9 ≤ 3000) && (decide ((x9.length : Int) ≤ 3000) && decide ((y9.length : Int) ≤ 3000))))))))))))))))) := hZ
 clear hZ
 have a0 := X6.cell 0 rfl
 have a1 := X6.cell 1 rfl
 have a2 := X6.cell 2 rfl
 have a3 := X6.cell 3 rfl
 have e0 := X7.cell 0 rfl
 have e1 := X7.cell 1 rfl
 have e4 := X7.cell 4 rfl
 have e6 := X7.cell 6 rfl
 have e7 := X7.cell 7 rfl
 have e8 := X7.cell 8 rfl
 have f0 := X8.cell 0 rfl
 have f1 := X8.cell 1 rfl
 have f2 := X8.cell 2 rfl
 have f5 := X8.cell 5 rfl
 have f7 := X8.cell 7 rfl
 clear X6 X7 X8
 by_cases q0 : N7 ≤ 3000
 rotate_left
 ·have E : Hid (Z = false) := by
   show Z = false
   rw [E0.out]
   simp only [decide_eq_false q0, Bool.true_and, Bool.false_and, Bool.and_false]
  clear E0
  have g : 3000 < N7 := by omega
  go_wp2
  go_ret
  rw [E.out]
  exact ⟨rfl, bw1⟩
 by_cases q1 : (x7.length : Int) ≤ 3000
 rotate_left
 ·have E : Hid (Z = false) := by
   show Z = false
   rw [E0.out]
   simp only [decide_eq_true q0, decide_eq_false q1, Bool.true_and, Bool.false_and, Bool.and_false]
  clear E0
  have g : 3000 < (x7.length : Int) := by omega
  go_wp2
  go_ret
  rw [E.out]
  exact ⟨rfl, bw1⟩
 by_cases q2 : (s7.length : Int) ≤ 3000
 rotate_left
 ·have E : Hid (Z = false) := by
   show Z = false
   rw [E0.out]
   simp only [decide_eq_true q0, decide_eq_true q1, decide_eq_false q2, Bool.true_and, Bool.false_and, Bool.and_false]
  clear E0
  have g : 3000 < (s7.length : Int) := by omega
  go_wp2
  go_ret
  rw [E.out]
  exact ⟨rfl, bw1⟩
 by_cases q3 : (u7.length : Int) ≤ 3000
 rotate_left
 ·have E : Hid (Z = false) := by
   show Z = false
   rw [E0.out]
   simp only [decide_eq_true q0, decide_eq_true q1, decide_eq_true q2, decide_eq_false q3, Bool.true_and, Bool.false_and, Bool.and_false]
  clear E0
  have g : 3000 < (u7.length : Int) := by omega
  go_wp2
  go_ret
  rw [E.out]
  exact ⟨rfl, bw1⟩
 by_cases q4 : N8 ≤ 3000
 rotate_left
 ·have E : Hid (Z = false) := by
   show Z = false
   rw [E0.out]
   simp only [decide_eq_true q0, decide_eq_true q1, decide_eq_true q2, decide_eq_true q3, decide_eq_false q4, Bool.true_and, Bool.false_and, Bool.and_false]
  clear E0
  have g : 3000 < N8 := by omega
  go_wp2
  go_ret
  rw [E.out]
  exact ⟨rfl, bw1⟩
 by_cases q5 : k8 ≤ 3000
 rotate_left
 ·have E : Hid (Z = false) := by
   show Z = false
   rw [E0.out]
   simp only [decide_eq_true q0, decide_eq_true q1, decide_eq_true q2, decide_eq_true q3, decide_eq_true q4, decide_eq_false q5, Bool.true_and, Bool.false_and, Bool.and_false]
  clear E0
  have g : 3000 < k8 := by omega
  go_wp2
  go_ret
  rw [E.out]
  exact ⟨rfl, bw1⟩
 by_cases q6 : (x8.length : Int) ≤ 3000
 rotate_left
 ·have E : Hid (Z = false) := by
   show Z = false
   rw [E0.out]
   simp only [decide_eq_true q0, decide_eq_true q1, decide_eq_true q2, decide_eq_true q3, decide_eq_true q4, decide_eq_true q5, decide_eq_false q6, Bool.true_and, Bool.false_and, Bool.and_false]
  clear E0
  have g : 3000 < (x8.length : Int) := by omega
  go_wp2
  go_ret
  rw [E.out]
  exact ⟨rfl, bw1⟩
 by_cases q7 : (y8.length : Int) ≤ 3000
 rotate_left
 ·have E : Hid (Z = false) := by
   show Z = false
   rw [E0.out]
   simp only [decide_eq_true q0, decide_eq_true q1, decide_eq_true q2, decide_eq_true q3, decide_eq_true q4, decide_eq_true q5, decide_eq_true q6, decide_eq_false q7, Bool.true_and, Bool.false_and, Bool.and_false]
  clear E0
  have g : 3000 < (y8.length : Int) := by omega
  go_wp2
  go_ret
  rw [E.out]
  exact ⟨rfl, bw1⟩
 by_cases q8 : (s8.length : Int) ≤ 3000
 rotate_left
 ·have E : Hid (Z = false) := by
   show Z = false
   rw [E0.out]
   simp only [decide_eq_true q0, decide_eq_true q1, decide_eq_true q2, decide_eq_true q3, decide_eq_true q4, decide_eq_true q5, decide_eq_true q6, decide_eq_true q7, decide_eq_false q8, Bool.true_and, Bool.false_and, Bool.and_false]
  clear E0
  have g : 3000 < (s8.length : Int) := by omega
  go_wp2
  go_ret
  rw [E.out]
  exact ⟨rfl, bw1⟩
 by_cases q9 : (u8.length : Int) ≤ 3000
 rotate_left
 ·have E : Hid (Z = false) := by
   show Z = false
   rw [E0.out]
   simp only [decide_eq_true q0, decide_eq_true q1, decide_eq_true q2, decide_eq_true q3, decide_eq_true q4, decide_eq_true q5, decide_eq_true q6, decide_eq_true q7, decide_eq_true q8, decide_eq_false q9, Bool.true_and, Bool.false_and, Bool.and_false]
  clear E0
  have g : 3000 < (u8.length : Int) := by omega
  go_wp2
  go_ret
  rw [E.out]
  exact ⟨rfl, bw1⟩
 by_cases q10 : N9 ≤ 3000
 rotate_left
 ·have E : Hid (Z = false) := by
   show Z = false
   rw [E0.out]
   simp only [decide_eq_true q0, decide_eq_true q1, decide_eq_true q2, decide_eq_true q3, decide_eq_true q4, decide_eq_true q5, decide_eq_true q6, decide_eq_true q7, decide_eq_true q8, decide_eq_true q9, decide_eq_false q10, Bool.true_and, Bool.false_and, Bool.and_false]
  clear E0
  have g : 3000 < N9 := by omega
  go_wp2
  go_ret
  rw [E.out]
  exact ⟨rfl, bw1⟩
 by_cases q11 : M9 ≤ 3000
 rotate_left
 ·have E : Hid (Z = false) := by
   show Z = false
   rw [E0.out]
   simp only [decide_eq_true q0, decide_eq_true q1, decide_eq_true q2, decide_eq_true q3, decide_eq_true q4, decide_eq_true q5, decide_eq_true q6, decide_eq_true q7, decide_eq_true q8, decide_eq_true q9, decide_eq_true q10, decide_eq_false q11, Bool.true_and, Bool.false_and, Bool.and_false]
  clear E0
  have g : 3000 < M9 := by omega
  go_wp2
  go_ret
  rw [E.out]
  exact ⟨rfl, bw1⟩
 by_cases q12 : k9 ≤ 3000
 rotate_left
 ·have E : Hid (Z = false) := by
   show Z = false
   rw [E0.out]
   simp only [decide_eq_true q0, decide_eq_true q1, decide_eq_true q2, decide_eq_true q3, decide_eq_true q4, decide_eq_true q5, decide_eq_true q6, decide_eq_true q7, decide_eq_true q8, decide_eq_true q9, decide_eq_true q10, decide_eq_true q11, decide_eq_false q12, Bool.true_and, Bool.false_and, Bool.and_false]
  clear E0
  have g : 3000 < k9 := by omega
  go_wp2
  go_ret
  rw [E.out]
  exact ⟨rfl, bw1⟩
 by_cases q13 : (x9.length : Int) ≤ 3000
 rotate_left
 ·have E : Hid (Z = false) := by
   show Z = false
   rw [E0.out]
   simp only [decide_eq_true q0, decide_eq_true q1, decide_eq_true q2, decide_eq_true q3, decide_eq_true q4, decide_eq_true q5, decide_eq_true q6, decide_eq_true q7, decide_eq_true q8, decide_eq_true q9, decide_eq_true q10, decide_eq_true q11, decide_eq_true q12, decide_eq_false q13, Bool.true_and, Bool.false_and, Bool.and_false]
  clear E0
  have g : 3000 < (x9.length : Int) := by omega
  go_wp2
  go_ret
  rw [E.out]
  exact ⟨rfl, bw1⟩
 by_cases q14 : (y9.length : Int) ≤ 3000
 rotate_left
 ·have E : Hid (Z = false) := by
   show Z = false
   rw [E0.out]
   simp only [decide_eq_true q0, decide_eq_true q1, decide_eq_true q2, decide_eq_true q3, decide_eq_true q4, decide_eq_true q5, decide_eq_true q6, decide_eq_true q7, decide_eq_true q8, decide_eq_true q9, decide_eq_true q10, decide_eq_true q11, decide_eq_true q12, decide_eq_true q13, decide_eq_false q14, Bool.true_and, Bool.false_and, Bool.and_false]
  clear E0
  have g : 3000 < (y9.length : Int) := by omega
  go_wp2
  go_ret
  rw [E.out]
  exact ⟨rfl, bw1⟩
 have E : Hid (Z = true) := by
  show Z = true
  rw [E0.out]
  simp only [decide_eq_true q0, decide_eq_true q1, decide_eq_true q2, decide_eq_true q3, decide_eq_true q4, decide_eq_true q5, decide_eq_true q6, decide_eq_true q7, decide_eq_true q8, decide_eq_true q9, decide_eq_true q10, decide_eq_true q11, decide_eq_true q12, decide_eq_true q13, decide_eq_true q14, Bool.and_self]
 clear E0
 go_wp2
 go_ret
 rw [E.out]
 exact ⟨rfl, bw1⟩
theorem small_k (cs : List Value) (a : RA) (w : World) (h : KArg w cs a) :
  Calls Tryz.prog 17 #[.agg cs.toArray] w fun e w' => e = .returned (.bool (smB a)) ∧ Below w.heap.size w w' := by
 have HL := Hid.mk8 h.len
 have B0 := Cel.new w cs 37
 have C : Hid (∀ w0, Below w.heap.size w w0 → Calls Tryz.prog 53 #[.agg cs.toArray] w0 fun e w' => e = .returned (.bool (smB a)) ∧ Below w0.heap.size w0 w') := fun w0 hb => vsmall_c cs a w0 (h.keep hb)
 go_enter Tryz.func17, Tryz.ntmps17
 go_wp2_with (refine load_obj w.heap.size cs (by rfl) rfl B0 Tryz.underlying37 HL.out ?_)
 refine (C.out _ (below_alloc w _)).mono ?_
 rintro e w1 ⟨rfl, hb⟩
 have bw := (below_alloc w (.cells cs.toArray 37)).trans (hb.mono (by simp))
 go_wp2
 go_ret
 exact ⟨rfl, bw⟩
theorem and_tt {a b : Bool} (ha : a = true) (hb : b = true) : (a && b) = true := by rw [ha, hb]; rfl
theorem trod_int1 {W : World} {fuel : Nat} {t : TypeId} {k : IntKind} {cs : List Value} {y : DataW Unit × List MemPlace} (hu : Tryz.prog.underlying t = some (.int k)) (h : DataW.trod (fun _ => ()) Tryz.prog W 0 (fun _ => true) false fuel t cs = some y) : ∃ n, cs = [.int k n] ∧ y.1 = .lit (.int k n) := by
 cases fuel with
 | zero => simp [DataW.trod] at h
 | succ fuel =>
  unfold DataW.trod at h
  rw [hu] at h
  match cs, h with
  | [.int k' n], h =>
   dsimp only at h
   split at h
   ·rename_i hk
    obtain ⟨rfl, _⟩ := hk
    cases h
    exact ⟨n, rfl, rfl⟩
   ·cases h
theorem mapM_get {α β : Type} (f : α → Option β) : ∀ (L : List α) (ys : List β), L.mapM f = some ys → ys.length = L.length ∧ ∀ (i : Nat) a y, L[i]? = some a → ys[i]? = some y → f a = some y
 | [], ys, h => by
  rw [List.mapM_nil] at h
  cases h
  exact ⟨rfl, fun i a y e => by simp at e⟩
 | b :: L, ys, h => by
  rw [List.mapM_cons] at h
  simp only [Option.bind_eq_bind, Option.bind_eq_some_iff, Option.pure_def, Option.some.injEq] at h
  obtain ⟨z, h1, zs, h2, rfl⟩ := h
  obtain ⟨e1, e2⟩ := mapM_get f L zs h2
  refine ⟨by simp [e1], fun i a y ha hy => ?_⟩
  cases i with
  | zero => simp at ha hy; subst ha; subst hy; exact h1
  | succ i => exact e2 i a y (by simpa using ha) (by simpa using hy)
theorem trod_arr {W : World} {fuel n : Nat} {t e : TypeId} {k : IntKind} {cs : List Value} {l : List Int} {p : List MemPlace} (hu : Tryz.prog.underlying t = some (.array n e)) (he : Tryz.prog.underlying e = some (.int k)) (ce : Tryz.prog.cellsOf e = 1) (ct : Tryz.prog.cellsOf t = n)
  (h : DataW.trod (fun _ => ()) Tryz.prog W 0 (fun _ => true) false fuel t cs = some (.agg (l.map fun x => .lit (.int k x)), p)) : cs = l.map fun x => .int k x := by
 cases fuel with
 | zero => simp [DataW.trod] at h
 | succ fuel =>
  unfold DataW.trod at h
  rw [hu] at h
  dsimp only at h
  split at h
  ·rename_i hl
   rw [Option.map_eq_some_iff] at h
   obtain ⟨ys, h1, h2⟩ := h
   obtain ⟨g1, g2⟩ := mapM_get _ _ _ h1
   simp only [Prod.mk.injEq, DataW.agg.injEq] at h2
   have hy := h2.1
   have ll : l.length = n := by
    have := congrArg List.length hy
    simp only [List.length_map] at this
    rw [← this, g1, List.length_range]
   rw [ct] at hl
   refine List.ext_getElem? fun i => ?_
   by_cases hi : i < n
   ·obtain ⟨y, ey⟩ : ∃ y, ys[i]? = some y := ⟨_, List.getElem?_eq_getElem (by rw [g1, List.length_range]; exact hi)⟩
    have e3 := g2 i i y (List.getElem?_range hi) ey
    obtain ⟨m, e4, e5⟩ := trod_int1 he e3
    have e6 : (ys.map (·.1))[i]? = some (.lit (.int k m)) := by rw [List.getElem?_map, ey]; exact congrArg some e5
    rw [hy, List.getElem?_map] at e6
    obtain ⟨x, ex⟩ : ∃ x, l[i]? = some x := ⟨_, List.getElem?_eq_getElem (by omega)⟩
    rw [ex] at e6
    simp only [Option.map_some, Option.some.injEq, DataW.lit.injEq, Lit.int.injEq, true_and] at e6
    rw [List.getElem?_map, ex, e6]
    rw [ce, Nat.mul_one] at e4
    have e7 := congrArg (·[0]?) e4
    simp only [List.getElem?_take_of_lt (Nat.one_pos), List.getElem?_drop, Nat.add_zero] at e7
    exact e7
   ·rw [List.getElem?_eq_none (by omega), List.getElem?_eq_none (by rw [List.length_map]; omega)]
  ·cases h
theorem cel_laid {W : World} {g : Nat} {nm : String} {cs : Array Value} {vs : List Value} (hg : Tryz.prog.globalNamed nm = some g) (hv : W.var? Tryz.prog nm = some cs) (hc : cs.toList = vs) (hm : ∃ c t, W.heap[g]? = some (.cells c t (0, 0))) : Tb W g vs := by
 obtain ⟨c, t, e⟩ := hm
 refine ⟨t, ?_⟩
 unfold World.var? at hv
 rw [hg] at hv
 simp only [Option.bind_some, e, Option.some.injEq] at hv
 subst hv
 unfold Cel
 rw [e, ← hc]
def laidL : List (String × DataW Unit) := [("errors.errorType", Rows.laid_errors_errorType), ("haystack/rrr.ways", Rows.laid_haystack_rrr_ways), ("haystack/rrr.widths", Rows.laid_haystack_rrr_widths)]
theorem gv_of_laid {W : World} (h : laidMetH Tryz.prog laidL W) : GV W := by
 have h0 : laidMet Tryz.prog [("haystack/rrr.ways", Rows.laid_haystack_rrr_ways), ("haystack/rrr.widths", Rows.laid_haystack_rrr_widths)] W := And.left (show _ ∧ _ from h)
 obtain ⟨ps, ⟨g, t, cs, fuel, p, q, hg, ht, hv, hd, ⟨g2, t2, cs2, fuel2, p2, q2, hg2, ht2, hv2, hd2, hr, hq⟩, hps⟩, _, hm⟩ := h0
 obtain rfl : q2 = [] := hr
 obtain rfl := Option.some.inj ((show Tryz.prog.globalNamed "haystack/rrr.ways" = some 0 by kernel_rfl).symm.trans hg)
 obtain rfl := Option.some.inj ((show Tryz.prog.globalNamed "haystack/rrr.widths" = some 1 by kernel_rfl).symm.trans hg2)
 obtain rfl := Option.some.inj ((show (Tryz.prog.globals[0]?).map (·.type) = some 150 by kernel_rfl).symm.trans ht)
 obtain rfl := Option.some.inj ((show (Tryz.prog.globals[1]?).map (·.type) = some 166 by kernel_rfl).symm.trans ht2)
 have e1 : cs.toList = wv chL := (trod_arr (l := [1, 15, 105, 455, 1365, 3003, 5005, 6435, 6435, 5005, 3003, 1365, 455, 105, 15, 1]) Tryz.underlying150 Tryz.underlying61 (by kernel_rfl) (by kernel_rfl) hd).trans rfl
 have e2 : cs2.toList = vI wdL := (trod_arr (l := [0, 4, 7, 9, 11, 12, 13, 13, 13, 13, 12, 11, 9, 7, 4, 0]) Tryz.underlying166 Tryz.underlying3 (by kernel_rfl) (by kernel_rfl) hd2).trans rfl
 have s1 : cs.size = 16 := by rw [← Array.length_toList, e1]; rfl
 have s2 : cs2.size = 16 := by rw [← Array.length_toList, e2]; rfl
 refine ⟨cel_laid hg2 hv2 e2 (hm _ 0 ?_).1, cel_laid hg hv e1 (hm _ 0 ?_).1⟩
 ·rw [hps, hq, s2]
  exact List.mem_append_right _ (List.mem_append_left _ (List.mem_append_left _ (List.mem_map.2 ⟨0, List.mem_range.2 (by decide), rfl⟩)))
 ·rw [hps, s1]
  exact List.mem_append_left _ (List.mem_append_left _ (List.mem_map.2 ⟨0, List.mem_range.2 (by decide), rfl⟩))
end Go.Proofs.YtpeecabfcgijhaaGreatDoor
