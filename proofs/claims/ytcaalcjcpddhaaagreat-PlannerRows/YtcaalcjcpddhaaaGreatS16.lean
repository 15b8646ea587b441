/-
  The contract of the program's join: all things become one.
-/
import Derived.Test.YtcaalcjcpddhaaaGreatS15
set_option linter.unusedVariables false
set_option linter.unusedSimpArgs false
set_option maxRecDepth 100000
namespace Go.Proofs.YtcaalcjcpddhaaaGreat.Zz
open Go.RowKit Num Ji Hp Ho
section
variable {P : Program} {ops : Array Oper} {Q : Exit → Act → World → Prop} {md : Region.Mode} {S : World → Prop} {ns : List Nat}
theorem AnyG.three (i j k : Nat) {o p q : Oper} {f : Nat} {l : Array Bool} {a : Act} {w : World} (hr : Region.ready md ops l = [i, j, k]) (ho : ops[i]? = some o) (hp : ops[j]? = some p) (hq : ops[k]? = some q)
  (h : ∀ K : Act → World → Prop, Shut (∀ a' w', (i ∉ ns → S w') → AnyG P md ops Q S ns f (l.setIfInBounds i true) a' w' → K a' w') → if Region.wanted o (yielded ops a.tmps) = true then Oper.wp P o a w K Q else K (a.put o.dst undef) w)
  (h2 : ∀ K : Act → World → Prop, Shut (∀ a' w', (j ∉ ns → S w') → AnyG P md ops Q S ns f (l.setIfInBounds j true) a' w' → K a' w') → if Region.wanted p (yielded ops a.tmps) = true then Oper.wp P p a w K Q else K (a.put p.dst undef) w)
  (h3 : ∀ K : Act → World → Prop, Shut (∀ a' w', (k ∉ ns → S w') → AnyG P md ops Q S ns f (l.setIfInBounds k true) a' w' → K a' w') → if Region.wanted q (yielded ops a.tmps) = true then Oper.wp P q a w K Q else K (a.put q.dst undef) w) :
  AnyG P md ops Q S ns (f + 1) l a w := by
 refine ⟨fun h0 => absurd (hr.symm.trans h0) (by simp), fun x hx => ?_⟩
 rw [hr] at hx
 rcases List.mem_cons.1 hx with rfl | hx
 ·exact wpOp_step ho (fun K hK => h K (fun a' w' hS hW => hK a' w' ⟨fun n _ => hS n, hW⟩))
 ·rcases List.mem_cons.1 hx with rfl | hx
  ·exact wpOp_step hp (fun K hK => h2 K (fun a' w' hS hW => hK a' w' ⟨fun n _ => hS n, hW⟩))
  ·obtain rfl := List.mem_singleton.1 hx
   exact wpOp_step hq (fun K hK => h3 K (fun a' w' hS hW => hK a' w' ⟨fun n _ => hS n, hW⟩))
end
def JP (n : Nat) (cnt : Nat → Nat) (f f' : Nat → T4) : Prop := (n ≤ 1 ∧ f' = f) ∨ (2 ≤ n ∧ (∀ k, k < n → (f' k).sy = (f k).sy) ∧ ∃ S hh, Tree n (run 256 256 (things cnt 256) (fun _ => 0)) f' S hh)
structure JB (g gn ga gs gm ge n s m e : Nat) (F : Nat → T4) (w wx : World) : Prop where
 th : TH wx g F
 cs : Cel wx gs [.int .i64 (s : Nat)] 3
 cm : Cel wx gm [.int .i64 (m : Nat)] 3
 ce : Cel wx ge [.int .i64 (e : Nat)] 3
 cn : Cel wx gn [.int .i64 (n : Nat)] 3
 ca : Cel wx ga [.pointer (some ⟨g, 0, none⟩)] 152
 lo : g < w.heap.size ∧ w.heap.size ≤ gn ∧ w.heap.size ≤ ga ∧ w.heap.size ≤ gs ∧ w.heap.size ≤ gm ∧ w.heap.size ≤ ge
 dif : gs ≠ gm ∧ gs ≠ ge ∧ gm ≠ ge ∧ gn ≠ gs ∧ gn ≠ gm ∧ gn ≠ ge ∧ ga ≠ gs ∧ ga ≠ gm ∧ ga ≠ ge ∧ ga ≠ gn
 bar : Bar g w wx
def QJ (g gn ga n : Nat) (F : Nat → T4) (w : World) (v4 v5 v6 : Value) (wx : World) : Prop := ∃ gs gm ge, v4 = .pointer (some ⟨gs, 0, none⟩) ∧ v5 = .pointer (some ⟨gm, 0, none⟩) ∧ v6 = .pointer (some ⟨ge, 0, none⟩) ∧ JB g gn ga gs gm ge n 0 n n F w wx
theorem JB.two {g gn ga gs gm ge n s m e s1 m1 : Nat} {F : Nat → T4} {w wx w1 : World} (J : JB g gn ga gs gm ge n s m e F w wx) (cm : Cel w1 gm [.int .i64 (m1 : Nat)] 3) (cs : Cel w1 gs [.int .i64 (s1 : Nat)] 3) (t : Two gm gs wx w1) : JB g gn ga gs gm ge n s1 m1 e F w w1 := by
 have hl := J.lo
 have hd := J.dif
 exact ⟨(t.block g (by omega) (by omega)).trans J.th, cs, cm, t.cel J.ce (by omega) (by omega), t.cel J.cn (by omega) (by omega), t.cel J.ca (by omega) (by omega), hl, hd, ⟨t.os.trans J.bar.os, t.tape.trans J.bar.tape, t.output.trans J.bar.output, by rw [t.size]; exact J.bar.size, fun k hk hne => (t.block k (by omega) (by omega)).trans (J.bar.block k hk hne)⟩⟩
theorem JB.set {g gn ga gs gm ge n s m e : Nat} {F F' : Nat → T4} {w wx w1 : World} (J : JB g gn ga gs gm ge n s m e F w wx) (h : TH w1 g F') (o : Bar g wx w1) : JB g gn ga gs gm ge n s m e F' w w1 := by
 have hl := J.lo
 exact ⟨h, o.cel J.cs (by omega), o.cel J.cm (by omega), o.cel J.ce (by omega), o.cel J.cn (by omega), o.cel J.ca (by omega), hl, J.dif, J.bar.trans o⟩
theorem JB.end {g gn ga gs gm ge n s m e e' : Nat} {F : Nat → T4} {w wx w1 : World} (J : JB g gn ga gs gm ge n s m e F w wx) (h : Cel w1 ge [.int .i64 (e' : Nat)] 3) (o : Only ge wx w1) : JB g gn ga gs gm ge n s m e' F w w1 := by
 have hl := J.lo
 have hd := J.dif
 exact ⟨(o.block g (by omega)).trans J.th, o.cel J.cs (by omega), o.cel J.cm (by omega), h, o.cel J.cn (by omega), o.cel J.ca (by omega), hl, hd, ⟨o.os.trans J.bar.os, o.tape.trans J.bar.tape, o.output.trans J.bar.output, by rw [o.size]; exact J.bar.size, fun k hk hne => (o.block k (by omega)).trans (J.bar.block k hk hne)⟩⟩
theorem pick_le {n : Nat} {f : Nat → T4} {s m e a s' m' : Nat} (h : Pick n f s m e a s' m') (h1 : s ≤ n) (h2 : n ≤ m) (h3 : m ≤ e) : s' ≤ n ∧ n ≤ m' ∧ m' ≤ e ∧ (n - s') + (e - m') + 1 = (n - s) + (e - m) ∧ a ≤ e ∧ (a < n ∨ a < e) := by
 rcases h with ⟨rfl, g1, rfl, rfl, g2⟩ | ⟨rfl, g1, rfl, rfl, g2⟩ <;> omega
theorem ct_sum {n : Nat} {D : Nat → Nat} {f : Nat → T4} {s m e r : Nat} {S : Nat → List Nat} {hh : Nat → Nat → Nat} {d : Nat → Nat} {Y a s1 m1 b s2 m2 : Nat} (J : JS n D f s m e r S hh d Y) (P1 : Pick n f s m e a s1 m1) (P2 : Pick n f s1 m1 e b s2 m2) : (f a).ct + (f b).ct ≤ 268435456 := by
 obtain ⟨_, a2, a3, _, _, _⟩ := pick_fst (S := S) J.O J.dif P1
 obtain ⟨_, b2, _, _, _, _⟩ := pick_fst (S := S) a3 J.dif P2
 have P := a2.trans (List.Perm.cons _ b2)
 have e := (P.map Hn.Tg.wt).sum_nat
 have := J.sum
 unfold wts at this
 rw [e] at this
 simp only [List.map_cons, List.sum_cons] at this
 have x1 : (tgo n f S a).wt = (f a).ct := rfl
 have x2 : (tgo n f S b).wt = (f b).ct := rfl
 omega
theorem upd_ct (F : Nat → T4) (a k v : Nat) : (upd F a { F a with it := v } k).ct = (F k).ct := by
 unfold upd
 split
 ·rename_i h; rw [h]
 ·rfl
set_option maxHeartbeats 8000000 in
theorem jjoin_c (g n : Nat) (cnt : Nat → Nat) (f : Nat → T4) (w : World) (hT : TH w g f) (hS : Srt cnt n f) (hB : ∀ c, cnt c ≤ 1048576) :
  Calls Tryz.prog 76 #[.pointer (some ⟨g, 0, none⟩), .int .i64 (n : Nat)] w fun e w' => e = .returned (.tuple #[]) ∧ SO g w (fun f' => JP n cnt f f') w' := by
 have n256 : n ≤ 256 := by rw [hS.nu]; exact used_len cnt 256
 have HJ0 : Hid (n = 0 ∨ ∃ S hh d Y, JS n (run 256 256 (things cnt 256) (fun _ => 0)) f 0 n n 0 S hh d Y) := by
  by_cases c : n = 0
  ·exact .inl c
  ·exact .inr ⟨_, _, _, _, js_start hB hS (by omega)⟩
 obtain ⟨W, hW⟩ : ∃ W, W = (w.alloc (.cells #[.pointer (some ⟨g, 0, none⟩)] 152)).alloc (.cells #[.int .i64 (n : Nat)] 3) := ⟨_, rfl⟩
 have bW : Below w.heap.size w W := by rw [hW]; exact (below_alloc w _).alloc (by simp) _
 have zW : Hid (W.heap.size = w.heap.size + 2) := by show _ = _; rw [hW]; simp
 have B1 : Cel W w.heap.size [.pointer (some ⟨g, 0, none⟩)] 152 := by rw [hW]; exact (Cel.new w _ _).alloc _
 have B2 : Cel W (w.heap.size + 1) [.int .i64 (n : Nat)] 3 := by rw [hW]; exact Cel.new2 w _ _ _
 have hg := hT.lt
 have HT := hide (hT.kept bW)
 have HB := hide bW
 clear hT bW hS
 go_enter Tryz.func76, Tryz.ntmps76
 go_upto_region 1 with fail
 rw [← hW]
 go_cut [4, 5, 6] (fun v4 v5 v6 wx => QJ g (w.heap.size + 1) w.heap.size n f w v4 v5 v6 wx)
 case first =>
  refine region_g [] (fun w' => Cel w' (w.heap.size + 1) [.int .i64 (n : Nat)] 3) (by kernel_rfl) ?_
  have hS : Cel W.drew (w.heap.size + 1) [.int .i64 (n : Nat)] 3 := B2
  have bY : Below W.heap.size W W.drew := (Below.refl _ _).drew
  have zY : Hid (W.drew.heap.size = W.heap.size) := rfl
  generalize W.drew = Y at *
  clear hW HJ0 hB
  refine AnyG.take 0 (v := ?vv1) rfl (by kernel_rfl) (by kernel_rfl) (by kernel_rfl) (by kernel_rfl) (fun _ _ _ h => h) hS ?hy1 (by rfl) ?rest1
  case hy1 =>
   intro w0 h0
   have k0 := h0.cell 0 rfl
   go_simp
   try with_reducible rfl
  simp only [Act.put, yq0, yq1, yq2, yq3, yq4, yq5]
  refine AnyG.take 1 (v := ?vv2) rfl (by kernel_rfl) (by kernel_rfl) (by kernel_rfl) (by kernel_rfl) (fun _ _ _ h => h) hS ?hy2 (by rfl) ?rest2
  case hy2 =>
   intro w0 h0
   have k0 := h0.cell 0 rfl
   go_simp
   try with_reducible rfl
  simp only [Act.put, yq0, yq1, yq2, yq3, yq4, yq5]
  refine AnyG.three 2 3 4 (by kernel_rfl) rfl rfl rfl ?_ ?_ ?_
  ·intro K hK
   go_simp
   refine hK.out _ _ (fun _ => hS.alloc _) ?_
   clear hK K
   try simp only [Act.put, yq0, yq1, yq2, yq3, yq4, yq5]
   have C2 : Cel (Y.alloc (.cells #[.int .i64 0] 3)) Y.heap.size [.int .i64 0] 3 := Cel.new _ _ _
   have zY1 : Hid ((Y.alloc (.cells #[.int .i64 0] 3)).heap.size = Y.heap.size + 1) := by show _ = _; simp
   have bY1 := bY.alloc (by have e0 := zW.out; have e1 := zY.out; omega) (.cells #[.int .i64 0] 3)
   replace hS := hS.alloc (.cells #[.int .i64 0] 3)
   generalize Y.alloc (.cells #[.int .i64 0] 3) = Y1 at *
   refine AnyG.two 3 4 (by kernel_rfl) rfl rfl ?_ ?_
   ·intro K hK
    go_simp
    refine hK.out _ _ (fun _ => hS.alloc _) ?_
    clear hK K
    try simp only [Act.put, yq0, yq1, yq2, yq3, yq4, yq5]
    replace C2 := C2.alloc (.cells #[.int .i64 0] 3)
    have C3 : Cel (Y1.alloc (.cells #[.int .i64 0] 3)) Y1.heap.size [.int .i64 0] 3 := Cel.new _ _ _
    have zY2 : Hid ((Y1.alloc (.cells #[.int .i64 0] 3)).heap.size = Y1.heap.size + 1) := by show _ = _; simp
    have bY2 := bY1.alloc (by have e0 := zW.out; have e1 := zY.out; have e2 := zY1.out; omega) (.cells #[.int .i64 0] 3)
    replace hS := hS.alloc (.cells #[.int .i64 0] 3)
    generalize Y1.alloc (.cells #[.int .i64 0] 3) = Y2 at *
    refine AnyG.one 4 (by kernel_rfl) rfl ?_
    intro K hK
    go_simp
    refine hK.out _ _ (fun _ => hS.alloc _) ?_
    clear hK K
    try simp only [Act.put, yq0, yq1, yq2, yq3, yq4, yq5]
    replace C2 := C2.alloc (.cells #[.int .i64 0] 3)
    replace C3 := C3.alloc (.cells #[.int .i64 0] 3)
    have C4 : Cel (Y2.alloc (.cells #[.int .i64 0] 3)) Y2.heap.size [.int .i64 0] 3 := Cel.new _ _ _
    have zY3 : Hid ((Y2.alloc (.cells #[.int .i64 0] 3)).heap.size = Y2.heap.size + 1) := by show _ = _; simp
    have bY3 := bY2.alloc (by have e0 := zW.out; have e1 := zY.out; have e2 := zY1.out; have e3 := zY2.out; omega) (.cells #[.int .i64 0] 3)
    replace hS := hS.alloc (.cells #[.int .i64 0] 3)
    generalize Y2.alloc (.cells #[.int .i64 0] 3) = Y3 at *
    refine AnyG.one 5 (by kernel_rfl) rfl ?_
    intro K hK
    have n0 := C2.cell 0 rfl
    have f0 := C2.frozen 0
    go_simp
    refine hK.out _ _ (fun _ => hS.other (by show w.heap.size + 1 ≠ Y.heap.size; have e0 := zW.out; have e1 := zY.out; have e2 := zY1.out; have e3 := zY2.out; have e4 := zY3.out; omega) _) ?_
    clear hK K n0 f0
    try simp only [Act.put, yq0, yq1, yq2, yq3, yq4, yq5]
    replace hS := hS.other (a := ⟨Y.heap.size, 0, none⟩) (by show w.heap.size + 1 ≠ Y.heap.size; have e0 := zW.out; have e1 := zY.out; have e2 := zY1.out; have e3 := zY2.out; have e4 := zY3.out; omega) (.int .i64 0)
    replace C3 := C3.other (a := ⟨Y.heap.size, 0, none⟩) (by show Y1.heap.size ≠ Y.heap.size; have e0 := zW.out; have e1 := zY.out; have e2 := zY1.out; have e3 := zY2.out; have e4 := zY3.out; omega) (.int .i64 0)
    replace C4 := C4.other (a := ⟨Y.heap.size, 0, none⟩) (by show Y2.heap.size ≠ Y.heap.size; have e0 := zW.out; have e1 := zY.out; have e2 := zY1.out; have e3 := zY2.out; have e4 := zY3.out; omega) (.int .i64 0)
    replace C2 : Cel (Y3.setCell ⟨Y.heap.size, 0, none⟩ (.int .i64 0)) Y.heap.size [(.int .i64 0)] 3 := C2.set 0 (.int .i64 0)
    have bY4 : Below W.heap.size W (Y3.setCell ⟨Y.heap.size, 0, none⟩ (.int .i64 0)) := bY3.setCell (by show W.heap.size ≤ Y.heap.size; have e0 := zW.out; have e1 := zY.out; have e2 := zY1.out; have e3 := zY2.out; have e4 := zY3.out; omega) (.int .i64 0)
    generalize (Y3.setCell ⟨Y.heap.size, 0, none⟩ (.int .i64 0)) = Y4 at *
    refine AnyG.one 6 (by kernel_rfl) rfl ?_
    intro K hK
    have n0 := C3.cell 0 rfl
    have f0 := C3.frozen 0
    go_simp
    refine hK.out _ _ (fun _ => hS.other (by show w.heap.size + 1 ≠ Y1.heap.size; have e0 := zW.out; have e1 := zY.out; have e2 := zY1.out; have e3 := zY2.out; have e4 := zY3.out; omega) _) ?_
    clear hK K n0 f0
    try simp only [Act.put, yq0, yq1, yq2, yq3, yq4, yq5]
    replace hS := hS.other (a := ⟨Y1.heap.size, 0, none⟩) (by show w.heap.size + 1 ≠ Y1.heap.size; have e0 := zW.out; have e1 := zY.out; have e2 := zY1.out; have e3 := zY2.out; have e4 := zY3.out; omega) (.int .i64 (n : Nat))
    replace C2 := C2.other (a := ⟨Y1.heap.size, 0, none⟩) (by show Y.heap.size ≠ Y1.heap.size; have e0 := zW.out; have e1 := zY.out; have e2 := zY1.out; have e3 := zY2.out; have e4 := zY3.out; omega) (.int .i64 (n : Nat))
    replace C4 := C4.other (a := ⟨Y1.heap.size, 0, none⟩) (by show Y2.heap.size ≠ Y1.heap.size; have e0 := zW.out; have e1 := zY.out; have e2 := zY1.out; have e3 := zY2.out; have e4 := zY3.out; omega) (.int .i64 (n : Nat))
    replace C3 : Cel (Y4.setCell ⟨Y1.heap.size, 0, none⟩ (.int .i64 (n : Nat))) Y1.heap.size [(.int .i64 (n : Nat))] 3 := C3.set 0 (.int .i64 (n : Nat))
    have bY5 : Below W.heap.size W (Y4.setCell ⟨Y1.heap.size, 0, none⟩ (.int .i64 (n : Nat))) := bY4.setCell (by show W.heap.size ≤ Y1.heap.size; have e0 := zW.out; have e1 := zY.out; have e2 := zY1.out; have e3 := zY2.out; have e4 := zY3.out; omega) (.int .i64 (n : Nat))
    generalize (Y4.setCell ⟨Y1.heap.size, 0, none⟩ (.int .i64 (n : Nat))) = Y5 at *
    refine AnyG.one 7 (by kernel_rfl) rfl ?_
    intro K hK
    have n0 := C4.cell 0 rfl
    have f0 := C4.frozen 0
    go_simp
    refine hK.out _ _ (fun _ => hS.other (by show w.heap.size + 1 ≠ Y2.heap.size; have e0 := zW.out; have e1 := zY.out; have e2 := zY1.out; have e3 := zY2.out; have e4 := zY3.out; omega) _) ?_
    clear hK K n0 f0
    try simp only [Act.put, yq0, yq1, yq2, yq3, yq4, yq5]
    replace hS := hS.other (a := ⟨Y2.heap.size, 0, none⟩) (by show w.heap.size + 1 ≠ Y2.heap.size; have e0 := zW.out; have e1 := zY.out; have e2 := zY1.out; have e3 := zY2.out; have e4 := zY3.out; omega) (.int .i64 (n : Nat))
    replace C2 := C2.other (a := ⟨Y2.heap.size, 0, none⟩) (by show Y.heap.size ≠ Y2.heap.size; have e0 := zW.out; have e1 := zY.out; have e2 := zY1.out; have e3 := zY2.out; have e4 := zY3.out; omega) (.int .i64 (n : Nat))
    replace C3 := C3.other (a := ⟨Y2.heap.size, 0, none⟩) (by show Y1.heap.size ≠ Y2.heap.size; have e0 := zW.out; have e1 := zY.out; have e2 := zY1.out; have e3 := zY2.out; have e4 := zY3.out; omega) (.int .i64 (n : Nat))
    replace C4 : Cel (Y5.setCell ⟨Y2.heap.size, 0, none⟩ (.int .i64 (n : Nat))) Y2.heap.size [(.int .i64 (n : Nat))] 3 := C4.set 0 (.int .i64 (n : Nat))
    have bY6 : Below W.heap.size W (Y5.setCell ⟨Y2.heap.size, 0, none⟩ (.int .i64 (n : Nat))) := bY5.setCell (by show W.heap.size ≤ Y2.heap.size; have e0 := zW.out; have e1 := zY.out; have e2 := zY1.out; have e3 := zY2.out; have e4 := zY3.out; omega) (.int .i64 (n : Nat))
    generalize (Y5.setCell ⟨Y2.heap.size, 0, none⟩ (.int .i64 (n : Nat))) = Y6 at *
    refine AnyG.done (by kernel_rfl) ?_ _
    have HQ : Hid (QJ g (w.heap.size + 1) w.heap.size n f w (.pointer (some ⟨Y.heap.size, 0, none⟩)) (.pointer (some ⟨Y1.heap.size, 0, none⟩)) (.pointer (some ⟨Y2.heap.size, 0, none⟩)) Y6) := ⟨_, _, _, rfl, rfl, rfl, ⟨HT.out.kept bY6, C2, C3, C4, B2.kept bY6, B1.kept bY6, by have e0 := zW.out; have e1 := zY.out; have e2 := zY1.out; have e3 := zY2.out; have e4 := zY3.out; omega, by have e0 := zW.out; have e1 := zY.out; have e2 := zY1.out; have e3 := zY2.out; have e4 := zY3.out; omega, Bar.of (HB.out.trans (bY6.mono (by have e0 := zW.out; have e1 := zY.out; have e2 := zY1.out; have e3 := zY2.out; have e4 := zY3.out; omega)))⟩⟩
    clear C2 C3 C4 bY bY1 bY2 bY3 bY4 bY5 bY6 hS HB HT B1 B2
    go_wp2_with fail
    go_meet
    exact HQ.out
   ·intro K hK
    go_simp
    refine hK.out _ _ (fun _ => hS.alloc _) ?_
    clear hK K
    try simp only [Act.put, yq0, yq1, yq2, yq3, yq4, yq5]
    replace C2 := C2.alloc (.cells #[.int .i64 0] 3)
    have C4 : Cel (Y1.alloc (.cells #[.int .i64 0] 3)) Y1.heap.size [.int .i64 0] 3 := Cel.new _ _ _
    have zY2 : Hid ((Y1.alloc (.cells #[.int .i64 0] 3)).heap.size = Y1.heap.size + 1) := by show _ = _; simp
    have bY2 := bY1.alloc (by have e0 := zW.out; have e1 := zY.out; have e2 := zY1.out; omega) (.cells #[.int .i64 0] 3)
    replace hS := hS.alloc (.cells #[.int .i64 0] 3)
    generalize Y1.alloc (.cells #[.int .i64 0] 3) = Y2 at *
    refine AnyG.one 3 (by kernel_rfl) rfl ?_
    intro K hK
    go_simp
    refine hK.out _ _ (fun _ => hS.alloc _) ?_
    clear hK K
    try simp only [Act.put, yq0, yq1, yq2, yq3, yq4, yq5]
    replace C2 := C2.alloc (.cells #[.int .i64 0] 3)
    replace C4 := C4.alloc (.cells #[.int .i64 0] 3)
    have C3 : Cel (Y2.alloc (.cells #[.int .i64 0] 3)) Y2.heap.size [.int .i64 0] 3 := Cel.new _ _ _
    have zY3 : Hid ((Y2.alloc (.cells #[.int .i64 0] 3)).heap.size = Y2.heap.size + 1) := by show _ = _; simp
    have bY3 := bY2.alloc (by have e0 := zW.out; have e1 := zY.out; have e2 := zY1.out; have e3 := zY2.out; omega) (.cells #[.int .i64 0] 3)
    replace hS := hS.alloc (.cells #[.int .i64 0] 3)
    generalize Y2.alloc (.cells #[.int .i64 0] 3) = Y3 at *
    refine AnyG.one 5 (by kernel_rfl) rfl ?_
    intro K hK
    have n0 := C2.cell 0 rfl
    have f0 := C2.frozen 0
    go_simp
    refine hK.out _ _ (fun _ => hS.other (by show w.heap.size + 1 ≠ Y.heap.size; have e0 := zW.out; have e1 := zY.out; have e2 := zY1.out; have e3 := zY2.out; have e4 := zY3.out; omega) _) ?_
    clear hK K n0 f0
    try simp only [Act.put, yq0, yq1, yq2, yq3, yq4, yq5]
    replace hS := hS.other (a := ⟨Y.heap.size, 0, none⟩) (by show w.heap.size + 1 ≠ Y.heap.size; have e0 := zW.out; have e1 := zY.out; have e2 := zY1.out; have e3 := zY2.out; have e4 := zY3.out; omega) (.int .i64 0)
    replace C3 := C3.other (a := ⟨Y.heap.size, 0, none⟩) (by show Y2.heap.size ≠ Y.heap.size; have e0 := zW.out; have e1 := zY.out; have e2 := zY1.out; have e3 := zY2.out; have e4 := zY3.out; omega) (.int .i64 0)
    replace C4 := C4.other (a := ⟨Y.heap.size, 0, none⟩) (by show Y1.heap.size ≠ Y.heap.size; have e0 := zW.out; have e1 := zY.out; have e2 := zY1.out; have e3 := zY2.out; have e4 := zY3.out; omega) (.int .i64 0)
    replace C2 : Cel (Y3.setCell ⟨Y.heap.size, 0, none⟩ (.int .i64 0)) Y.heap.size [(.int .i64 0)] 3 := C2.set 0 (.int .i64 0)
    have bY4 : Below W.heap.size W (Y3.setCell ⟨Y.heap.size, 0, none⟩ (.int .i64 0)) := bY3.setCell (by show W.heap.size ≤ Y.heap.size; have e0 := zW.out; have e1 := zY.out; have e2 := zY1.out; have e3 := zY2.out; have e4 := zY3.out; omega) (.int .i64 0)
    generalize (Y3.setCell ⟨Y.heap.size, 0, none⟩ (.int .i64 0)) = Y4 at *
    refine AnyG.one 6 (by kernel_rfl) rfl ?_
    intro K hK
    have n0 := C3.cell 0 rfl
    have f0 := C3.frozen 0
    go_simp
    refine hK.out _ _ (fun _ => hS.other (by show w.heap.size + 1 ≠ Y2.heap.size; have e0 := zW.out; have e1 := zY.out; have e2 := zY1.out; have e3 := zY2.out; have e4 := zY3.out; omega) _) ?_
    clear hK K n0 f0
    try simp only [Act.put, yq0, yq1, yq2, yq3, yq4, yq5]
    replace hS := hS.other (a := ⟨Y2.heap.size, 0, none⟩) (by show w.heap.size + 1 ≠ Y2.heap.size; have e0 := zW.out; have e1 := zY.out; have e2 := zY1.out; have e3 := zY2.out; have e4 := zY3.out; omega) (.int .i64 (n : Nat))
    replace C2 := C2.other (a := ⟨Y2.heap.size, 0, none⟩) (by show Y.heap.size ≠ Y2.heap.size; have e0 := zW.out; have e1 := zY.out; have e2 := zY1.out; have e3 := zY2.out; have e4 := zY3.out; omega) (.int .i64 (n : Nat))
    replace C4 := C4.other (a := ⟨Y2.heap.size, 0, none⟩) (by show Y1.heap.size ≠ Y2.heap.size; have e0 := zW.out; have e1 := zY.out; have e2 := zY1.out; have e3 := zY2.out; have e4 := zY3.out; omega) (.int .i64 (n : Nat))
    replace C3 : Cel (Y4.setCell ⟨Y2.heap.size, 0, none⟩ (.int .i64 (n : Nat))) Y2.heap.size [(.int .i64 (n : Nat))] 3 := C3.set 0 (.int .i64 (n : Nat))
    have bY5 : Below W.heap.size W (Y4.setCell ⟨Y2.heap.size, 0, none⟩ (.int .i64 (n : Nat))) := bY4.setCell (by show W.heap.size ≤ Y2.heap.size; have e0 := zW.out; have e1 := zY.out; have e2 := zY1.out; have e3 := zY2.out; have e4 := zY3.out; omega) (.int .i64 (n : Nat))
    generalize (Y4.setCell ⟨Y2.heap.size, 0, none⟩ (.int .i64 (n : Nat))) = Y5 at *
    refine AnyG.one 7 (by kernel_rfl) rfl ?_
    intro K hK
    have n0 := C4.cell 0 rfl
    have f0 := C4.frozen 0
    go_simp
    refine hK.out _ _ (fun _ => hS.other (by show w.heap.size + 1 ≠ Y1.heap.size; have e0 := zW.out; have e1 := zY.out; have e2 := zY1.out; have e3 := zY2.out; have e4 := zY3.out; omega) _) ?_
    clear hK K n0 f0
    try simp only [Act.put, yq0, yq1, yq2, yq3, yq4, yq5]
    replace hS := hS.other (a := ⟨Y1.heap.size, 0, none⟩) (by show w.heap.size + 1 ≠ Y1.heap.size; have e0 := zW.out; have e1 := zY.out; have e2 := zY1.out; have e3 := zY2.out; have e4 := zY3.out; omega) (.int .i64 (n : Nat))
    replace C2 := C2.other (a := ⟨Y1.heap.size, 0, none⟩) (by show Y.heap.size ≠ Y1.heap.size; have e0 := zW.out; have e1 := zY.out; have e2 := zY1.out; have e3 := zY2.out; have e4 := zY3.out; omega) (.int .i64 (n : Nat))
    replace C3 := C3.other (a := ⟨Y1.heap.size, 0, none⟩) (by show Y2.heap.size ≠ Y1.heap.size; have e0 := zW.out; have e1 := zY.out; have e2 := zY1.out; have e3 := zY2.out; have e4 := zY3.out; omega) (.int .i64 (n : Nat))
    replace C4 : Cel (Y5.setCell ⟨Y1.heap.size, 0, none⟩ (.int .i64 (n : Nat))) Y1.heap.size [(.int .i64 (n : Nat))] 3 := C4.set 0 (.int .i64 (n : Nat))
    have bY6 : Below W.heap.size W (Y5.setCell ⟨Y1.heap.size, 0, none⟩ (.int .i64 (n : Nat))) := bY5.setCell (by show W.heap.size ≤ Y1.heap.size; have e0 := zW.out; have e1 := zY.out; have e2 := zY1.out; have e3 := zY2.out; have e4 := zY3.out; omega) (.int .i64 (n : Nat))
    generalize (Y5.setCell ⟨Y1.heap.size, 0, none⟩ (.int .i64 (n : Nat))) = Y6 at *
    refine AnyG.done (by kernel_rfl) ?_ _
    have HQ : Hid (QJ g (w.heap.size + 1) w.heap.size n f w (.pointer (some ⟨Y.heap.size, 0, none⟩)) (.pointer (some ⟨Y2.heap.size, 0, none⟩)) (.pointer (some ⟨Y1.heap.size, 0, none⟩)) Y6) := ⟨_, _, _, rfl, rfl, rfl, ⟨HT.out.kept bY6, C2, C3, C4, B2.kept bY6, B1.kept bY6, by have e0 := zW.out; have e1 := zY.out; have e2 := zY1.out; have e3 := zY2.out; have e4 := zY3.out; omega, by have e0 := zW.out; have e1 := zY.out; have e2 := zY1.out; have e3 := zY2.out; have e4 := zY3.out; omega, Bar.of (HB.out.trans (bY6.mono (by have e0 := zW.out; have e1 := zY.out; have e2 := zY1.out; have e3 := zY2.out; have e4 := zY3.out; omega)))⟩⟩
    clear C2 C3 C4 bY bY1 bY2 bY3 bY4 bY5 bY6 hS HB HT B1 B2
    go_wp2_with fail
    go_meet
    exact HQ.out
  ·intro K hK
   go_simp
   refine hK.out _ _ (fun _ => hS.alloc _) ?_
   clear hK K
   try simp only [Act.put, yq0, yq1, yq2, yq3, yq4, yq5]
   have C3 : Cel (Y.alloc (.cells #[.int .i64 0] 3)) Y.heap.size [.int .i64 0] 3 := Cel.new _ _ _
   have zY1 : Hid ((Y.alloc (.cells #[.int .i64 0] 3)).heap.size = Y.heap.size + 1) := by show _ = _; simp
   have bY1 := bY.alloc (by have e0 := zW.out; have e1 := zY.out; omega) (.cells #[.int .i64 0] 3)
   replace hS := hS.alloc (.cells #[.int .i64 0] 3)
   generalize Y.alloc (.cells #[.int .i64 0] 3) = Y1 at *
   refine AnyG.two 2 4 (by kernel_rfl) rfl rfl ?_ ?_
   ·intro K hK
    go_simp
    refine hK.out _ _ (fun _ => hS.alloc _) ?_
    clear hK K
    try simp only [Act.put, yq0, yq1, yq2, yq3, yq4, yq5]
    replace C3 := C3.alloc (.cells #[.int .i64 0] 3)
    have C2 : Cel (Y1.alloc (.cells #[.int .i64 0] 3)) Y1.heap.size [.int .i64 0] 3 := Cel.new _ _ _
    have zY2 : Hid ((Y1.alloc (.cells #[.int .i64 0] 3)).heap.size = Y1.heap.size + 1) := by show _ = _; simp
    have bY2 := bY1.alloc (by have e0 := zW.out; have e1 := zY.out; have e2 := zY1.out; omega) (.cells #[.int .i64 0] 3)
    replace hS := hS.alloc (.cells #[.int .i64 0] 3)
    generalize Y1.alloc (.cells #[.int .i64 0] 3) = Y2 at *
    refine AnyG.one 4 (by kernel_rfl) rfl ?_
    intro K hK
    go_simp
    refine hK.out _ _ (fun _ => hS.alloc _) ?_
    clear hK K
    try simp only [Act.put, yq0, yq1, yq2, yq3, yq4, yq5]
    replace C3 := C3.alloc (.cells #[.int .i64 0] 3)
    replace C2 := C2.alloc (.cells #[.int .i64 0] 3)
    have C4 : Cel (Y2.alloc (.cells #[.int .i64 0] 3)) Y2.heap.size [.int .i64 0] 3 := Cel.new _ _ _
    have zY3 : Hid ((Y2.alloc (.cells #[.int .i64 0] 3)).heap.size = Y2.heap.size + 1) := by show _ = _; simp
    have bY3 := bY2.alloc (by have e0 := zW.out; have e1 := zY.out; have e2 := zY1.out; have e3 := zY2.out; omega) (.cells #[.int .i64 0] 3)
    replace hS := hS.alloc (.cells #[.int .i64 0] 3)
    generalize Y2.alloc (.cells #[.int .i64 0] 3) = Y3 at *
    refine AnyG.one 5 (by kernel_rfl) rfl ?_
    intro K hK
    have n0 := C2.cell 0 rfl
    have f0 := C2.frozen 0
    go_simp
    refine hK.out _ _ (fun _ => hS.other (by show w.heap.size + 1 ≠ Y1.heap.size; have e0 := zW.out; have e1 := zY.out; have e2 := zY1.out; have e3 := zY2.out; have e4 := zY3.out; omega) _) ?_
    clear hK K n0 f0
    try simp only [Act.put, yq0, yq1, yq2, yq3, yq4, yq5]
    replace hS := hS.other (a := ⟨Y1.heap.size, 0, none⟩) (by show w.heap.size + 1 ≠ Y1.heap.size; have e0 := zW.out; have e1 := zY.out; have e2 := zY1.out; have e3 := zY2.out; have e4 := zY3.out; omega) (.int .i64 0)
    replace C3 := C3.other (a := ⟨Y1.heap.size, 0, none⟩) (by show Y.heap.size ≠ Y1.heap.size; have e0 := zW.out; have e1 := zY.out; have e2 := zY1.out; have e3 := zY2.out; have e4 := zY3.out; omega) (.int .i64 0)
    replace C4 := C4.other (a := ⟨Y1.heap.size, 0, none⟩) (by show Y2.heap.size ≠ Y1.heap.size; have e0 := zW.out; have e1 := zY.out; have e2 := zY1.out; have e3 := zY2.out; have e4 := zY3.out; omega) (.int .i64 0)
    replace C2 : Cel (Y3.setCell ⟨Y1.heap.size, 0, none⟩ (.int .i64 0)) Y1.heap.size [(.int .i64 0)] 3 := C2.set 0 (.int .i64 0)
    have bY4 : Below W.heap.size W (Y3.setCell ⟨Y1.heap.size, 0, none⟩ (.int .i64 0)) := bY3.setCell (by show W.heap.size ≤ Y1.heap.size; have e0 := zW.out; have e1 := zY.out; have e2 := zY1.out; have e3 := zY2.out; have e4 := zY3.out; omega) (.int .i64 0)
    generalize (Y3.setCell ⟨Y1.heap.size, 0, none⟩ (.int .i64 0)) = Y4 at *
    refine AnyG.one 6 (by kernel_rfl) rfl ?_
    intro K hK
    have n0 := C3.cell 0 rfl
    have f0 := C3.frozen 0
    go_simp
    refine hK.out _ _ (fun _ => hS.other (by show w.heap.size + 1 ≠ Y.heap.size; have e0 := zW.out; have e1 := zY.out; have e2 := zY1.out; have e3 := zY2.out; have e4 := zY3.out; omega) _) ?_
    clear hK K n0 f0
    try simp only [Act.put, yq0, yq1, yq2, yq3, yq4, yq5]
    replace hS := hS.other (a := ⟨Y.heap.size, 0, none⟩) (by show w.heap.size + 1 ≠ Y.heap.size; have e0 := zW.out; have e1 := zY.out; have e2 := zY1.out; have e3 := zY2.out; have e4 := zY3.out; omega) (.int .i64 (n : Nat))
    replace C2 := C2.other (a := ⟨Y.heap.size, 0, none⟩) (by show Y1.heap.size ≠ Y.heap.size; have e0 := zW.out; have e1 := zY.out; have e2 := zY1.out; have e3 := zY2.out; have e4 := zY3.out; omega) (.int .i64 (n : Nat))
    replace C4 := C4.other (a := ⟨Y.heap.size, 0, none⟩) (by show Y2.heap.size ≠ Y.heap.size; have e0 := zW.out; have e1 := zY.out; have e2 := zY1.out; have e3 := zY2.out; have e4 := zY3.out; omega) (.int .i64 (n : Nat))
    replace C3 : Cel (Y4.setCell ⟨Y.heap.size, 0, none⟩ (.int .i64 (n : Nat))) Y.heap.size [(.int .i64 (n : Nat))] 3 := C3.set 0 (.int .i64 (n : Nat))
    have bY5 : Below W.heap.size W (Y4.setCell ⟨Y.heap.size, 0, none⟩ (.int .i64 (n : Nat))) := bY4.setCell (by show W.heap.size ≤ Y.heap.size; have e0 := zW.out; have e1 := zY.out; have e2 := zY1.out; have e3 := zY2.out; have e4 := zY3.out; omega) (.int .i64 (n : Nat))
    generalize (Y4.setCell ⟨Y.heap.size, 0, none⟩ (.int .i64 (n : Nat))) = Y5 at *
    refine AnyG.one 7 (by kernel_rfl) rfl ?_
    intro K hK
    have n0 := C4.cell 0 rfl
    have f0 := C4.frozen 0
    go_simp
    refine hK.out _ _ (fun _ => hS.other (by show w.heap.size + 1 ≠ Y2.heap.size; have e0 := zW.out; have e1 := zY.out; have e2 := zY1.out; have e3 := zY2.out; have e4 := zY3.out; omega) _) ?_
    clear hK K n0 f0
    try simp only [Act.put, yq0, yq1, yq2, yq3, yq4, yq5]
    replace hS := hS.other (a := ⟨Y2.heap.size, 0, none⟩) (by show w.heap.size + 1 ≠ Y2.heap.size; have e0 := zW.out; have e1 := zY.out; have e2 := zY1.out; have e3 := zY2.out; have e4 := zY3.out; omega) (.int .i64 (n : Nat))
    replace C2 := C2.other (a := ⟨Y2.heap.size, 0, none⟩) (by show Y1.heap.size ≠ Y2.heap.size; have e0 := zW.out; have e1 := zY.out; have e2 := zY1.out; have e3 := zY2.out; have e4 := zY3.out; omega) (.int .i64 (n : Nat))
    replace C3 := C3.other (a := ⟨Y2.heap.size, 0, none⟩) (by show Y.heap.size ≠ Y2.heap.size; have e0 := zW.out; have e1 := zY.out; have e2 := zY1.out; have e3 := zY2.out; have e4 := zY3.out; omega) (.int .i64 (n : Nat))
    replace C4 : Cel (Y5.setCell ⟨Y2.heap.size, 0, none⟩ (.int .i64 (n : Nat))) Y2.heap.size [(.int .i64 (n : Nat))] 3 := C4.set 0 (.int .i64 (n : Nat))
    have bY6 : Below W.heap.size W (Y5.setCell ⟨Y2.heap.size, 0, none⟩ (.int .i64 (n : Nat))) := bY5.setCell (by show W.heap.size ≤ Y2.heap.size; have e0 := zW.out; have e1 := zY.out; have e2 := zY1.out; have e3 := zY2.out; have e4 := zY3.out; omega) (.int .i64 (n : Nat))
    generalize (Y5.setCell ⟨Y2.heap.size, 0, none⟩ (.int .i64 (n : Nat))) = Y6 at *
    refine AnyG.done (by kernel_rfl) ?_ _
    have HQ : Hid (QJ g (w.heap.size + 1) w.heap.size n f w (.pointer (some ⟨Y1.heap.size, 0, none⟩)) (.pointer (some ⟨Y.heap.size, 0, none⟩)) (.pointer (some ⟨Y2.heap.size, 0, none⟩)) Y6) := ⟨_, _, _, rfl, rfl, rfl, ⟨HT.out.kept bY6, C2, C3, C4, B2.kept bY6, B1.kept bY6, by have e0 := zW.out; have e1 := zY.out; have e2 := zY1.out; have e3 := zY2.out; have e4 := zY3.out; omega, by have e0 := zW.out; have e1 := zY.out; have e2 := zY1.out; have e3 := zY2.out; have e4 := zY3.out; omega, Bar.of (HB.out.trans (bY6.mono (by have e0 := zW.out; have e1 := zY.out; have e2 := zY1.out; have e3 := zY2.out; have e4 := zY3.out; omega)))⟩⟩
    clear C2 C3 C4 bY bY1 bY2 bY3 bY4 bY5 bY6 hS HB HT B1 B2
    go_wp2_with fail
    go_meet
    exact HQ.out
   ·intro K hK
    go_simp
    refine hK.out _ _ (fun _ => hS.alloc _) ?_
    clear hK K
    try simp only [Act.put, yq0, yq1, yq2, yq3, yq4, yq5]
    replace C3 := C3.alloc (.cells #[.int .i64 0] 3)
    have C4 : Cel (Y1.alloc (.cells #[.int .i64 0] 3)) Y1.heap.size [.int .i64 0] 3 := Cel.new _ _ _
    have zY2 : Hid ((Y1.alloc (.cells #[.int .i64 0] 3)).heap.size = Y1.heap.size + 1) := by show _ = _; simp
    have bY2 := bY1.alloc (by have e0 := zW.out; have e1 := zY.out; have e2 := zY1.out; omega) (.cells #[.int .i64 0] 3)
    replace hS := hS.alloc (.cells #[.int .i64 0] 3)
    generalize Y1.alloc (.cells #[.int .i64 0] 3) = Y2 at *
    refine AnyG.one 2 (by kernel_rfl) rfl ?_
    intro K hK
    go_simp
    refine hK.out _ _ (fun _ => hS.alloc _) ?_
    clear hK K
    try simp only [Act.put, yq0, yq1, yq2, yq3, yq4, yq5]
    replace C3 := C3.alloc (.cells #[.int .i64 0] 3)
    replace C4 := C4.alloc (.cells #[.int .i64 0] 3)
    have C2 : Cel (Y2.alloc (.cells #[.int .i64 0] 3)) Y2.heap.size [.int .i64 0] 3 := Cel.new _ _ _
    have zY3 : Hid ((Y2.alloc (.cells #[.int .i64 0] 3)).heap.size = Y2.heap.size + 1) := by show _ = _; simp
    have bY3 := bY2.alloc (by have e0 := zW.out; have e1 := zY.out; have e2 := zY1.out; have e3 := zY2.out; omega) (.cells #[.int .i64 0] 3)
    replace hS := hS.alloc (.cells #[.int .i64 0] 3)
    generalize Y2.alloc (.cells #[.int .i64 0] 3) = Y3 at *
    refine AnyG.one 5 (by kernel_rfl) rfl ?_
    intro K hK
    have n0 := C2.cell 0 rfl
    have f0 := C2.frozen 0
    go_simp
    refine hK.out _ _ (fun _ => hS.other (by show w.heap.size + 1 ≠ Y2.heap.size; have e0 := zW.out; have e1 := zY.out; have e2 := zY1.out; have e3 := zY2.out; have e4 := zY3.out; omega) _) ?_
    clear hK K n0 f0
    try simp only [Act.put, yq0, yq1, yq2, yq3, yq4, yq5]
    replace hS := hS.other (a := ⟨Y2.heap.size, 0, none⟩) (by show w.heap.size + 1 ≠ Y2.heap.size; have e0 := zW.out; have e1 := zY.out; have e2 := zY1.out; have e3 := zY2.out; have e4 := zY3.out; omega) (.int .i64 0)
    replace C3 := C3.other (a := ⟨Y2.heap.size, 0, none⟩) (by show Y.heap.size ≠ Y2.heap.size; have e0 := zW.out; have e1 := zY.out; have e2 := zY1.out; have e3 := zY2.out; have e4 := zY3.out; omega) (.int .i64 0)
    replace C4 := C4.other (a := ⟨Y2.heap.size, 0, none⟩) (by show Y1.heap.size ≠ Y2.heap.size; have e0 := zW.out; have e1 := zY.out; have e2 := zY1.out; have e3 := zY2.out; have e4 := zY3.out; omega) (.int .i64 0)
    replace C2 : Cel (Y3.setCell ⟨Y2.heap.size, 0, none⟩ (.int .i64 0)) Y2.heap.size [(.int .i64 0)] 3 := C2.set 0 (.int .i64 0)
    have bY4 : Below W.heap.size W (Y3.setCell ⟨Y2.heap.size, 0, none⟩ (.int .i64 0)) := bY3.setCell (by show W.heap.size ≤ Y2.heap.size; have e0 := zW.out; have e1 := zY.out; have e2 := zY1.out; have e3 := zY2.out; have e4 := zY3.out; omega) (.int .i64 0)
    generalize (Y3.setCell ⟨Y2.heap.size, 0, none⟩ (.int .i64 0)) = Y4 at *
    refine AnyG.one 6 (by kernel_rfl) rfl ?_
    intro K hK
    have n0 := C3.cell 0 rfl
    have f0 := C3.frozen 0
    go_simp
    refine hK.out _ _ (fun _ => hS.other (by show w.heap.size + 1 ≠ Y.heap.size; have e0 := zW.out; have e1 := zY.out; have e2 := zY1.out; have e3 := zY2.out; have e4 := zY3.out; omega) _) ?_
    clear hK K n0 f0
    try simp only [Act.put, yq0, yq1, yq2, yq3, yq4, yq5]
    replace hS := hS.other (a := ⟨Y.heap.size, 0, none⟩) (by show w.heap.size + 1 ≠ Y.heap.size; have e0 := zW.out; have e1 := zY.out; have e2 := zY1.out; have e3 := zY2.out; have e4 := zY3.out; omega) (.int .i64 (n : Nat))
    replace C2 := C2.other (a := ⟨Y.heap.size, 0, none⟩) (by show Y2.heap.size ≠ Y.heap.size; have e0 := zW.out; have e1 := zY.out; have e2 := zY1.out; have e3 := zY2.out; have e4 := zY3.out; omega) (.int .i64 (n : Nat))
    replace C4 := C4.other (a := ⟨Y.heap.size, 0, none⟩) (by show Y1.heap.size ≠ Y.heap.size; have e0 := zW.out; have e1 := zY.out; have e2 := zY1.out; have e3 := zY2.out; have e4 := zY3.out; omega) (.int .i64 (n : Nat))
    replace C3 : Cel (Y4.setCell ⟨Y.heap.size, 0, none⟩ (.int .i64 (n : Nat))) Y.heap.size [(.int .i64 (n : Nat))] 3 := C3.set 0 (.int .i64 (n : Nat))
    have bY5 : Below W.heap.size W (Y4.setCell ⟨Y.heap.size, 0, none⟩ (.int .i64 (n : Nat))) := bY4.setCell (by show W.heap.size ≤ Y.heap.size; have e0 := zW.out; have e1 := zY.out; have e2 := zY1.out; have e3 := zY2.out; have e4 := zY3.out; omega) (.int .i64 (n : Nat))
    generalize (Y4.setCell ⟨Y.heap.size, 0, none⟩ (.int .i64 (n : Nat))) = Y5 at *
    refine AnyG.one 7 (by kernel_rfl) rfl ?_
    intro K hK
    have n0 := C4.cell 0 rfl
    have f0 := C4.frozen 0
    go_simp
    refine hK.out _ _ (fun _ => hS.other (by show w.heap.size + 1 ≠ Y1.heap.size; have e0 := zW.out; have e1 := zY.out; have e2 := zY1.out; have e3 := zY2.out; have e4 := zY3.out; omega) _) ?_
    clear hK K n0 f0
    try simp only [Act.put, yq0, yq1, yq2, yq3, yq4, yq5]
    replace hS := hS.other (a := ⟨Y1.heap.size, 0, none⟩) (by show w.heap.size + 1 ≠ Y1.heap.size; have e0 := zW.out; have e1 := zY.out; have e2 := zY1.out; have e3 := zY2.out; have e4 := zY3.out; omega) (.int .i64 (n : Nat))
    replace C2 := C2.other (a := ⟨Y1.heap.size, 0, none⟩) (by show Y2.heap.size ≠ Y1.heap.size; have e0 := zW.out; have e1 := zY.out; have e2 := zY1.out; have e3 := zY2.out; have e4 := zY3.out; omega) (.int .i64 (n : Nat))
    replace C3 := C3.other (a := ⟨Y1.heap.size, 0, none⟩) (by show Y.heap.size ≠ Y1.heap.size; have e0 := zW.out; have e1 := zY.out; have e2 := zY1.out; have e3 := zY2.out; have e4 := zY3.out; omega) (.int .i64 (n : Nat))
    replace C4 : Cel (Y5.setCell ⟨Y1.heap.size, 0, none⟩ (.int .i64 (n : Nat))) Y1.heap.size [(.int .i64 (n : Nat))] 3 := C4.set 0 (.int .i64 (n : Nat))
    have bY6 : Below W.heap.size W (Y5.setCell ⟨Y1.heap.size, 0, none⟩ (.int .i64 (n : Nat))) := bY5.setCell (by show W.heap.size ≤ Y1.heap.size; have e0 := zW.out; have e1 := zY.out; have e2 := zY1.out; have e3 := zY2.out; have e4 := zY3.out; omega) (.int .i64 (n : Nat))
    generalize (Y5.setCell ⟨Y1.heap.size, 0, none⟩ (.int .i64 (n : Nat))) = Y6 at *
    refine AnyG.done (by kernel_rfl) ?_ _
    have HQ : Hid (QJ g (w.heap.size + 1) w.heap.size n f w (.pointer (some ⟨Y2.heap.size, 0, none⟩)) (.pointer (some ⟨Y.heap.size, 0, none⟩)) (.pointer (some ⟨Y1.heap.size, 0, none⟩)) Y6) := ⟨_, _, _, rfl, rfl, rfl, ⟨HT.out.kept bY6, C2, C3, C4, B2.kept bY6, B1.kept bY6, by have e0 := zW.out; have e1 := zY.out; have e2 := zY1.out; have e3 := zY2.out; have e4 := zY3.out; omega, by have e0 := zW.out; have e1 := zY.out; have e2 := zY1.out; have e3 := zY2.out; have e4 := zY3.out; omega, Bar.of (HB.out.trans (bY6.mono (by have e0 := zW.out; have e1 := zY.out; have e2 := zY1.out; have e3 := zY2.out; have e4 := zY3.out; omega)))⟩⟩
    clear C2 C3 C4 bY bY1 bY2 bY3 bY4 bY5 bY6 hS HB HT B1 B2
    go_wp2_with fail
    go_meet
    exact HQ.out
  ·intro K hK
   go_simp
   refine hK.out _ _ (fun _ => hS.alloc _) ?_
   clear hK K
   try simp only [Act.put, yq0, yq1, yq2, yq3, yq4, yq5]
   have C4 : Cel (Y.alloc (.cells #[.int .i64 0] 3)) Y.heap.size [.int .i64 0] 3 := Cel.new _ _ _
   have zY1 : Hid ((Y.alloc (.cells #[.int .i64 0] 3)).heap.size = Y.heap.size + 1) := by show _ = _; simp
   have bY1 := bY.alloc (by have e0 := zW.out; have e1 := zY.out; omega) (.cells #[.int .i64 0] 3)
   replace hS := hS.alloc (.cells #[.int .i64 0] 3)
   generalize Y.alloc (.cells #[.int .i64 0] 3) = Y1 at *
   refine AnyG.two 2 3 (by kernel_rfl) rfl rfl ?_ ?_
   ·intro K hK
    go_simp
    refine hK.out _ _ (fun _ => hS.alloc _) ?_
    clear hK K
    try simp only [Act.put, yq0, yq1, yq2, yq3, yq4, yq5]
    replace C4 := C4.alloc (.cells #[.int .i64 0] 3)
    have C2 : Cel (Y1.alloc (.cells #[.int .i64 0] 3)) Y1.heap.size [.int .i64 0] 3 := Cel.new _ _ _
    have zY2 : Hid ((Y1.alloc (.cells #[.int .i64 0] 3)).heap.size = Y1.heap.size + 1) := by show _ = _; simp
    have bY2 := bY1.alloc (by have e0 := zW.out; have e1 := zY.out; have e2 := zY1.out; omega) (.cells #[.int .i64 0] 3)
    replace hS := hS.alloc (.cells #[.int .i64 0] 3)
    generalize Y1.alloc (.cells #[.int .i64 0] 3) = Y2 at *
    refine AnyG.one 3 (by kernel_rfl) rfl ?_
    intro K hK
    go_simp
    refine hK.out _ _ (fun _ => hS.alloc _) ?_
    clear hK K
    try simp only [Act.put, yq0, yq1, yq2, yq3, yq4, yq5]
    replace C4 := C4.alloc (.cells #[.int .i64 0] 3)
    replace C2 := C2.alloc (.cells #[.int .i64 0] 3)
    have C3 : Cel (Y2.alloc (.cells #[.int .i64 0] 3)) Y2.heap.size [.int .i64 0] 3 := Cel.new _ _ _
    have zY3 : Hid ((Y2.alloc (.cells #[.int .i64 0] 3)).heap.size = Y2.heap.size + 1) := by show _ = _; simp
    have bY3 := bY2.alloc (by have e0 := zW.out; have e1 := zY.out; have e2 := zY1.out; have e3 := zY2.out; omega) (.cells #[.int .i64 0] 3)
    replace hS := hS.alloc (.cells #[.int .i64 0] 3)
    generalize Y2.alloc (.cells #[.int .i64 0] 3) = Y3 at *
    refine AnyG.one 5 (by kernel_rfl) rfl ?_
    intro K hK
    have n0 := C2.cell 0 rfl
    have f0 := C2.frozen 0
    go_simp
    refine hK.out _ _ (fun _ => hS.other (by show w.heap.size + 1 ≠ Y1.heap.size; have e0 := zW.out; have e1 := zY.out; have e2 := zY1.out; have e3 := zY2.out; have e4 := zY3.out; omega) _) ?_
    clear hK K n0 f0
    try simp only [Act.put, yq0, yq1, yq2, yq3, yq4, yq5]
    replace hS := hS.other (a := ⟨Y1.heap.size, 0, none⟩) (by show w.heap.size + 1 ≠ Y1.heap.size; have e0 := zW.out; have e1 := zY.out; have e2 := zY1.out; have e3 := zY2.out; have e4 := zY3.out; omega) (.int .i64 0)
    replace C3 := C3.other (a := ⟨Y1.heap.size, 0, none⟩) (by show Y2.heap.size ≠ Y1.heap.size; have e0 := zW.out; have e1 := zY.out; have e2 := zY1.out; have e3 := zY2.out; have e4 := zY3.out; omega) (.int .i64 0)
    replace C4 := C4.other (a := ⟨Y1.heap.size, 0, none⟩) (by show Y.heap.size ≠ Y1.heap.size; have e0 := zW.out; have e1 := zY.out; have e2 := zY1.out; have e3 := zY2.out; have e4 := zY3.out; omega) (.int .i64 0)
    replace C2 : Cel (Y3.setCell ⟨Y1.heap.size, 0, none⟩ (.int .i64 0)) Y1.heap.size [(.int .i64 0)] 3 := C2.set 0 (.int .i64 0)
    have bY4 : Below W.heap.size W (Y3.setCell ⟨Y1.heap.size, 0, none⟩ (.int .i64 0)) := bY3.setCell (by show W.heap.size ≤ Y1.heap.size; have e0 := zW.out; have e1 := zY.out; have e2 := zY1.out; have e3 := zY2.out; have e4 := zY3.out; omega) (.int .i64 0)
    generalize (Y3.setCell ⟨Y1.heap.size, 0, none⟩ (.int .i64 0)) = Y4 at *
    refine AnyG.one 6 (by kernel_rfl) rfl ?_
    intro K hK
    have n0 := C3.cell 0 rfl
    have f0 := C3.frozen 0
    go_simp
    refine hK.out _ _ (fun _ => hS.other (by show w.heap.size + 1 ≠ Y2.heap.size; have e0 := zW.out; have e1 := zY.out; have e2 := zY1.out; have e3 := zY2.out; have e4 := zY3.out; omega) _) ?_
    clear hK K n0 f0
    try simp only [Act.put, yq0, yq1, yq2, yq3, yq4, yq5]
    replace hS := hS.other (a := ⟨Y2.heap.size, 0, none⟩) (by show w.heap.size + 1 ≠ Y2.heap.size; have e0 := zW.out; have e1 := zY.out; have e2 := zY1.out; have e3 := zY2.out; have e4 := zY3.out; omega) (.int .i64 (n : Nat))
    replace C2 := C2.other (a := ⟨Y2.heap.size, 0, none⟩) (by show Y1.heap.size ≠ Y2.heap.size; have e0 := zW.out; have e1 := zY.out; have e2 := zY1.out; have e3 := zY2.out; have e4 := zY3.out; omega) (.int .i64 (n : Nat))
    replace C4 := C4.other (a := ⟨Y2.heap.size, 0, none⟩) (by show Y.heap.size ≠ Y2.heap.size; have e0 := zW.out; have e1 := zY.out; have e2 := zY1.out; have e3 := zY2.out; have e4 := zY3.out; omega) (.int .i64 (n : Nat))
    replace C3 : Cel (Y4.setCell ⟨Y2.heap.size, 0, none⟩ (.int .i64 (n : Nat))) Y2.heap.size [(.int .i64 (n : Nat))] 3 := C3.set 0 (.int .i64 (n : Nat))
    have bY5 : Below W.heap.size W (Y4.setCell ⟨Y2.heap.size, 0, none⟩ (.int .i64 (n : Nat))) := bY4.setCell (by show W.heap.size ≤ Y2.heap.size; have e0 := zW.out; have e1 := zY.out; have e2 := zY1.out; have e3 := zY2.out; have e4 := zY3.out; omega) (.int .i64 (n : Nat))
    generalize (Y4.setCell ⟨Y2.heap.size, 0, none⟩ (.int .i64 (n : Nat))) = Y5 at *
    refine AnyG.one 7 (by kernel_rfl) rfl ?_
    intro K hK
    have n0 := C4.cell 0 rfl
    have f0 := C4.frozen 0
    go_simp
    refine hK.out _ _ (fun _ => hS.other (by show w.heap.size + 1 ≠ Y.heap.size; have e0 := zW.out; have e1 := zY.out; have e2 := zY1.out; have e3 := zY2.out; have e4 := zY3.out; omega) _) ?_
    clear hK K n0 f0
    try simp only [Act.put, yq0, yq1, yq2, yq3, yq4, yq5]
    replace hS := hS.other (a := ⟨Y.heap.size, 0, none⟩) (by show w.heap.size + 1 ≠ Y.heap.size; have e0 := zW.out; have e1 := zY.out; have e2 := zY1.out; have e3 := zY2.out; have e4 := zY3.out; omega) (.int .i64 (n : Nat))
    replace C2 := C2.other (a := ⟨Y.heap.size, 0, none⟩) (by show Y1.heap.size ≠ Y.heap.size; have e0 := zW.out; have e1 := zY.out; have e2 := zY1.out; have e3 := zY2.out; have e4 := zY3.out; omega) (.int .i64 (n : Nat))
    replace C3 := C3.other (a := ⟨Y.heap.size, 0, none⟩) (by show Y2.heap.size ≠ Y.heap.size; have e0 := zW.out; have e1 := zY.out; have e2 := zY1.out; have e3 := zY2.out; have e4 := zY3.out; omega) (.int .i64 (n : Nat))
    replace C4 : Cel (Y5.setCell ⟨Y.heap.size, 0, none⟩ (.int .i64 (n : Nat))) Y.heap.size [(.int .i64 (n : Nat))] 3 := C4.set 0 (.int .i64 (n : Nat))
    have bY6 : Below W.heap.size W (Y5.setCell ⟨Y.heap.size, 0, none⟩ (.int .i64 (n : Nat))) := bY5.setCell (by show W.heap.size ≤ Y.heap.size; have e0 := zW.out; have e1 := zY.out; have e2 := zY1.out; have e3 := zY2.out; have e4 := zY3.out; omega) (.int .i64 (n : Nat))
    generalize (Y5.setCell ⟨Y.heap.size, 0, none⟩ (.int .i64 (n : Nat))) = Y6 at *
    refine AnyG.done (by kernel_rfl) ?_ _
    have HQ : Hid (QJ g (w.heap.size + 1) w.heap.size n f w (.pointer (some ⟨Y1.heap.size, 0, none⟩)) (.pointer (some ⟨Y2.heap.size, 0, none⟩)) (.pointer (some ⟨Y.heap.size, 0, none⟩)) Y6) := ⟨_, _, _, rfl, rfl, rfl, ⟨HT.out.kept bY6, C2, C3, C4, B2.kept bY6, B1.kept bY6, by have e0 := zW.out; have e1 := zY.out; have e2 := zY1.out; have e3 := zY2.out; have e4 := zY3.out; omega, by have e0 := zW.out; have e1 := zY.out; have e2 := zY1.out; have e3 := zY2.out; have e4 := zY3.out; omega, Bar.of (HB.out.trans (bY6.mono (by have e0 := zW.out; have e1 := zY.out; have e2 := zY1.out; have e3 := zY2.out; have e4 := zY3.out; omega)))⟩⟩
    clear C2 C3 C4 bY bY1 bY2 bY3 bY4 bY5 bY6 hS HB HT B1 B2
    go_wp2_with fail
    go_meet
    exact HQ.out
   ·intro K hK
    go_simp
    refine hK.out _ _ (fun _ => hS.alloc _) ?_
    clear hK K
    try simp only [Act.put, yq0, yq1, yq2, yq3, yq4, yq5]
    replace C4 := C4.alloc (.cells #[.int .i64 0] 3)
    have C3 : Cel (Y1.alloc (.cells #[.int .i64 0] 3)) Y1.heap.size [.int .i64 0] 3 := Cel.new _ _ _
    have zY2 : Hid ((Y1.alloc (.cells #[.int .i64 0] 3)).heap.size = Y1.heap.size + 1) := by show _ = _; simp
    have bY2 := bY1.alloc (by have e0 := zW.out; have e1 := zY.out; have e2 := zY1.out; omega) (.cells #[.int .i64 0] 3)
    replace hS := hS.alloc (.cells #[.int .i64 0] 3)
    generalize Y1.alloc (.cells #[.int .i64 0] 3) = Y2 at *
    refine AnyG.one 2 (by kernel_rfl) rfl ?_
    intro K hK
    go_simp
    refine hK.out _ _ (fun _ => hS.alloc _) ?_
    clear hK K
    try simp only [Act.put, yq0, yq1, yq2, yq3, yq4, yq5]
    replace C4 := C4.alloc (.cells #[.int .i64 0] 3)
    replace C3 := C3.alloc (.cells #[.int .i64 0] 3)
    have C2 : Cel (Y2.alloc (.cells #[.int .i64 0] 3)) Y2.heap.size [.int .i64 0] 3 := Cel.new _ _ _
    have zY3 : Hid ((Y2.alloc (.cells #[.int .i64 0] 3)).heap.size = Y2.heap.size + 1) := by show _ = _; simp
    have bY3 := bY2.alloc (by have e0 := zW.out; have e1 := zY.out; have e2 := zY1.out; have e3 := zY2.out; omega) (.cells #[.int .i64 0] 3)
    replace hS := hS.alloc (.cells #[.int .i64 0] 3)
    generalize Y2.alloc (.cells #[.int .i64 0] 3) = Y3 at *
    refine AnyG.one 5 (by kernel_rfl) rfl ?_
    intro K hK
    have n0 := C2.cell 0 rfl
    have f0 := C2.frozen 0
    go_simp
    refine hK.out _ _ (fun _ => hS.other (by show w.heap.size + 1 ≠ Y2.heap.size; have e0 := zW.out; have e1 := zY.out; have e2 := zY1.out; have e3 := zY2.out; have e4 := zY3.out; omega) _) ?_
    clear hK K n0 f0
    try simp only [Act.put, yq0, yq1, yq2, yq3, yq4, yq5]
    replace hS := hS.other (a := ⟨Y2.heap.size, 0, none⟩) (by show w.heap.size + 1 ≠ Y2.heap.size; have e0 := zW.out; have e1 := zY.out; have e2 := zY1.out; have e3 := zY2.out; have e4 := zY3.out; omega) (.int .i64 0)
    replace C3 := C3.other (a := ⟨Y2.heap.size, 0, none⟩) (by show Y1.heap.size ≠ Y2.heap.size; have e0 := zW.out; have e1 := zY.out; have e2 := zY1.out; have e3 := zY2.out; have e4 := zY3.out; omega) (.int .i64 0)
    replace C4 := C4.other (a := ⟨Y2.heap.size, 0, none⟩) (by show Y.heap.size ≠ Y2.heap.size; have e0 := zW.out; have e1 := zY.out; have e2 := zY1.out; have e3 := zY2.out; have e4 := zY3.out; omega) (.int .i64 0)
    replace C2 : Cel (Y3.setCell ⟨Y2.heap.size, 0, none⟩ (.int .i64 0)) Y2.heap.size [(.int .i64 0)] 3 := C2.set 0 (.int .i64 0)
    have bY4 : Below W.heap.size W (Y3.setCell ⟨Y2.heap.size, 0, none⟩ (.int .i64 0)) := bY3.setCell (by show W.heap.size ≤ Y2.heap.size; have e0 := zW.out; have e1 := zY.out; have e2 := zY1.out; have e3 := zY2.out; have e4 := zY3.out; omega) (.int .i64 0)
    generalize (Y3.setCell ⟨Y2.heap.size, 0, none⟩ (.int .i64 0)) = Y4 at *
    refine AnyG.one 6 (by kernel_rfl) rfl ?_
    intro K hK
    have n0 := C3.cell 0 rfl
    have f0 := C3.frozen 0
    go_simp
    refine hK.out _ _ (fun _ => hS.other (by show w.heap.size + 1 ≠ Y1.heap.size; have e0 := zW.out; have e1 := zY.out; have e2 := zY1.out; have e3 := zY2.out; have e4 := zY3.out; omega) _) ?_
    clear hK K n0 f0
    try simp only [Act.put, yq0, yq1, yq2, yq3, yq4, yq5]
    replace hS := hS.other (a := ⟨Y1.heap.size, 0, none⟩) (by show w.heap.size + 1 ≠ Y1.heap.size; have e0 := zW.out; have e1 := zY.out; have e2 := zY1.out; have e3 := zY2.out; have e4 := zY3.out; omega) (.int .i64 (n : Nat))
    replace C2 := C2.other (a := ⟨Y1.heap.size, 0, none⟩) (by show Y2.heap.size ≠ Y1.heap.size; have e0 := zW.out; have e1 := zY.out; have e2 := zY1.out; have e3 := zY2.out; have e4 := zY3.out; omega) (.int .i64 (n : Nat))
    replace C4 := C4.other (a := ⟨Y1.heap.size, 0, none⟩) (by show Y.heap.size ≠ Y1.heap.size; have e0 := zW.out; have e1 := zY.out; have e2 := zY1.out; have e3 := zY2.out; have e4 := zY3.out; omega) (.int .i64 (n : Nat))
    replace C3 : Cel (Y4.setCell ⟨Y1.heap.size, 0, none⟩ (.int .i64 (n : Nat))) Y1.heap.size [(.int .i64 (n : Nat))] 3 := C3.set 0 (.int .i64 (n : Nat))
    have bY5 : Below W.heap.size W (Y4.setCell ⟨Y1.heap.size, 0, none⟩ (.int .i64 (n : Nat))) := bY4.setCell (by show W.heap.size ≤ Y1.heap.size; have e0 := zW.out; have e1 := zY.out; have e2 := zY1.out; have e3 := zY2.out; have e4 := zY3.out; omega) (.int .i64 (n : Nat))
    generalize (Y4.setCell ⟨Y1.heap.size, 0, none⟩ (.int .i64 (n : Nat))) = Y5 at *
    refine AnyG.one 7 (by kernel_rfl) rfl ?_
    intro K hK
    have n0 := C4.cell 0 rfl
    have f0 := C4.frozen 0
    go_simp
    refine hK.out _ _ (fun _ => hS.other (by show w.heap.size + 1 ≠ Y.heap.size; have e0 := zW.out; have e1 := zY.out; have e2 := zY1.out; have e3 := zY2.out; have e4 := zY3.out; omega) _) ?_
    clear hK K n0 f0
    try simp only [Act.put, yq0, yq1, yq2, yq3, yq4, yq5]
    replace hS := hS.other (a := ⟨Y.heap.size, 0, none⟩) (by show w.heap.size + 1 ≠ Y.heap.size; have e0 := zW.out; have e1 := zY.out; have e2 := zY1.out; have e3 := zY2.out; have e4 := zY3.out; omega) (.int .i64 (n : Nat))
    replace C2 := C2.other (a := ⟨Y.heap.size, 0, none⟩) (by show Y2.heap.size ≠ Y.heap.size; have e0 := zW.out; have e1 := zY.out; have e2 := zY1.out; have e3 := zY2.out; have e4 := zY3.out; omega) (.int .i64 (n : Nat))
    replace C3 := C3.other (a := ⟨Y.heap.size, 0, none⟩) (by show Y1.heap.size ≠ Y.heap.size; have e0 := zW.out; have e1 := zY.out; have e2 := zY1.out; have e3 := zY2.out; have e4 := zY3.out; omega) (.int .i64 (n : Nat))
    replace C4 : Cel (Y5.setCell ⟨Y.heap.size, 0, none⟩ (.int .i64 (n : Nat))) Y.heap.size [(.int .i64 (n : Nat))] 3 := C4.set 0 (.int .i64 (n : Nat))
    have bY6 : Below W.heap.size W (Y5.setCell ⟨Y.heap.size, 0, none⟩ (.int .i64 (n : Nat))) := bY5.setCell (by show W.heap.size ≤ Y.heap.size; have e0 := zW.out; have e1 := zY.out; have e2 := zY1.out; have e3 := zY2.out; have e4 := zY3.out; omega) (.int .i64 (n : Nat))
    generalize (Y5.setCell ⟨Y.heap.size, 0, none⟩ (.int .i64 (n : Nat))) = Y6 at *
    refine AnyG.done (by kernel_rfl) ?_ _
    have HQ : Hid (QJ g (w.heap.size + 1) w.heap.size n f w (.pointer (some ⟨Y2.heap.size, 0, none⟩)) (.pointer (some ⟨Y1.heap.size, 0, none⟩)) (.pointer (some ⟨Y.heap.size, 0, none⟩)) Y6) := ⟨_, _, _, rfl, rfl, rfl, ⟨HT.out.kept bY6, C2, C3, C4, B2.kept bY6, B1.kept bY6, by have e0 := zW.out; have e1 := zY.out; have e2 := zY1.out; have e3 := zY2.out; have e4 := zY3.out; omega, by have e0 := zW.out; have e1 := zY.out; have e2 := zY1.out; have e3 := zY2.out; have e4 := zY3.out; omega, Bar.of (HB.out.trans (bY6.mono (by have e0 := zW.out; have e1 := zY.out; have e2 := zY1.out; have e3 := zY2.out; have e4 := zY3.out; omega)))⟩⟩
    clear C2 C3 C4 bY bY1 bY2 bY3 bY4 bY5 bY6 hS HB HT B1 B2
    go_wp2_with fail
    go_meet
    exact HQ.out
 case rest =>
  obtain ⟨gs, gm, ge, rfl, rfl, rfl, hJB⟩ := hcut
  have c3 := hJB.cn.cell 0 rfl
  have HJB := hide hJB
  clear hJB hW zW B1 B2 HT HB
  generalize w.heap.size + 1 = gn at *
  obtain ⟨ga, hga⟩ : ∃ ga, Hid (ga = w.heap.size) := ⟨_, rfl⟩
  rw [← hga.out] at HJB ⊢
  go_wp2
  clear c3
  go_loopw [15] (fun vi wr => ∃ (r s m e : Nat) (F : Nat → T4), (r = 0 ∨ r < n) ∧ vi = .int .i64 r ∧ Hid (JB g gn ga gs gm ge n s m e F w wr) ∧ Hid ((n = 0 ∧ F = f) ∨ ((∃ S hh d Y, JS n (run 256 256 (things cnt 256) (fun _ => 0)) F s m e r S hh d Y) ∧ (∀ k, k < n → (F k).sy = (f k).sy) ∧ (r = 0 → F = f)))) (fun vi _ => n - (intOf vi).toNat)
  case atStart => exact ⟨0, 0, n, n, f, .inl rfl, rfl, HJB, by
   rcases HJ0.out with c | c
   ·exact .inl ⟨c, rfl⟩
   ·exact .inr ⟨c, fun _ _ => rfl, fun _ => rfl⟩⟩
  case round =>
   clear HJB HJ0
   obtain ⟨r, s, m, e, F, hr, rfl, HJB, HI⟩ := hrel
   by_cases hlt : r + 1 < n
   ·have hltz : (r : Int) < (n : Int) - 1 := by omega
    obtain ⟨⟨S, hh, d, Y, hJ⟩, hsy⟩ : (∃ S hh d Y, JS n (run 256 256 (things cnt 256) (fun _ => 0)) F s m e r S hh d Y) ∧ (∀ k, k < n → (F k).sy = (f k).sy) := by
     rcases HI.out with ⟨c1, c2⟩ | ⟨c1, c2, c3⟩
     ·omega
     ·exact ⟨c1, c2⟩
    have HJ := hide hJ
    have HSY := hide hsy
    have hl := hJ.O.le
    have her := hJ.er
    have hnum := hJ.num
    have e510 : e ≤ 510 := by omega
    clear hJ hsy HI hr
    go_wp2_with fail
    refine (jleast_c g gm ge gs gn ga n s m e F _ HJB.out.th HJB.out.cm HJB.out.ce HJB.out.cs HJB.out.cn HJB.out.ca (Ne.symm HJB.out.dif.1) hl.1 hl.2.1 hl.2.2 (by omega) (by omega)).mono ?_
    rintro e1 w1 ⟨a, s1, m1, rfl, P1, cm1, cs1, tw1⟩
    have hp1 := pick_le P1 hl.1 hl.2.1 hl.2.2
    replace HJB := hide (HJB.out.two cm1 cs1 tw1)
    have HP1 := hide P1
    clear P1 cm1 cs1 tw1
    go_wp2_with fail
    refine (jleast_c g gm ge gs gn ga n s1 m1 e F _ HJB.out.th HJB.out.cm HJB.out.ce HJB.out.cs HJB.out.cn HJB.out.ca (Ne.symm HJB.out.dif.1) hp1.1 hp1.2.1 hp1.2.2.1 (by omega) (by omega)).mono ?_
    rintro e1 w2 ⟨b, s2, m2, rfl, P2, cm1, cs1, tw1⟩
    have hp2 := pick_le P2 hp1.1 hp1.2.1 hp1.2.2.1
    replace HJB := hide (HJB.out.two cm1 cs1 tw1)
    have HP2 := hide P2
    clear P2 cm1 cs1 tw1
    have HSU := hide (ct_sum HJ.out HP1.out HP2.out)
    obtain ⟨S', hh', d', Y', hJ'⟩ := HJ.out.step hlt HP1.out HP2.out
    have HJ' : Hid (∃ S hh d Y, JS n (run 256 256 (things cnt 256) (fun _ => 0)) (joi F a b e) s2 m2 (e + 1) (r + 1) S hh d Y) := ⟨_, _, _, _, hJ'⟩
    have hab : a ≠ b := by
     obtain ⟨_, _, a3, _, a5, _⟩ := pick_fst (S := S) HJ.out.O HJ.out.dif HP1.out
     obtain ⟨_, _, _, _, _, b6⟩ := pick_fst (S := S) a3 HJ.out.dif HP2.out
     exact fun c => a5 (by rw [c]; exact b6)
    have HSY' : Hid (∀ k, k < n → (joi F a b e k).sy = (f k).sy) := fun k hk => by rw [(joi_same F a b e k hab (by omega)).1]; exact HSY.out k hk
    have a511 : (a : Int) < 511 := by omega
    have b511 : (b : Int) < 511 := by omega
    have e511 : (e : Int) < 511 := by omega
    have a5 : a < 511 := by omega
    have b5 : b < 511 := by omega
    have e5 : e < 511 := by omega
    have r5 : r < 256 := by omega
    clear hJ' HJ HP1 HP2 hab HSY hp1 hp2 hnum her hl S' hh' d' Y' S hh d Y
    go_wp2
    refine region_g [] (fun w' => Cel w' ge [.int .i64 (e : Nat)] 3 ∧ Cel w' ga [.pointer (some ⟨g, 0, none⟩)] 152) (by kernel_rfl) ?_
    replace HJB : Hid (JB g gn ga gs gm ge n s2 m2 e F w w2.drew) := HJB.out.set HJB.out.th.drew ((Bar.refl g w2).drew)
    have hS : Cel w2.drew ge [.int .i64 (e : Nat)] 3 ∧ Cel w2.drew ga [.pointer (some ⟨g, 0, none⟩)] 152 := ⟨HJB.out.ce, HJB.out.ca⟩
    have hne1 : ge ≠ g := by have := HJB.out.lo; omega
    have hne2 : ga ≠ g := by have := HJB.out.lo; omega
    generalize w2.drew = Y at *
    refine AnyG.take 0 (v := ?vv3) rfl (by kernel_rfl) (by kernel_rfl) (by kernel_rfl) (by kernel_rfl) (fun _ _ _ h => h) hS ?hy3 (by rfl) ?rest3
    case hy3 =>
     intro w0 h0
     have k0 := h0.1.cell 0 rfl
     have k1 := h0.2.cell 0 rfl
     go_simp
     try with_reducible rfl
    simp only [Act.put, yq0, yq1, yq2, yq3, yq4, yq5]
    refine AnyG.take 1 (v := ?vv4) rfl (by kernel_rfl) (by kernel_rfl) (by kernel_rfl) (by kernel_rfl) (fun _ _ _ h => h) hS ?hy4 (by rfl) ?rest4
    case hy4 =>
     intro w0 h0
     go_simp
     try with_reducible rfl
    simp only [Act.put, yq0, yq1, yq2, yq3, yq4, yq5]
    refine AnyG.take 2 (v := ?vv5) rfl (by kernel_rfl) (by kernel_rfl) (by kernel_rfl) (by kernel_rfl) (fun _ _ _ h => h) hS ?hy5 (by rfl) ?rest5
    case hy5 =>
     intro w0 h0
     have k0 := h0.1.cell 0 rfl
     have k1 := h0.2.cell 0 rfl
     go_simp
     try with_reducible rfl
    simp only [Act.put, yq0, yq1, yq2, yq3, yq4, yq5]
    refine AnyG.take 3 (v := ?vv6) rfl (by kernel_rfl) (by kernel_rfl) (by kernel_rfl) (by kernel_rfl) (fun _ _ _ h => h) hS ?hy6 (by rfl) ?rest6
    case hy6 =>
     intro w0 h0
     go_simp
     try with_reducible rfl
    simp only [Act.put, yq0, yq1, yq2, yq3, yq4, yq5]
    refine AnyG.take 4 (v := ?vv7) rfl (by kernel_rfl) (by kernel_rfl) (by kernel_rfl) (by kernel_rfl) (fun _ _ _ h => h) hS ?hy7 (by rfl) ?rest7
    case hy7 =>
     intro w0 h0
     have k0 := h0.1.cell 0 rfl
     have k1 := h0.2.cell 0 rfl
     go_simp
     try with_reducible rfl
    simp only [Act.put, yq0, yq1, yq2, yq3, yq4, yq5]
    refine AnyG.take 5 (v := ?vv8) rfl (by kernel_rfl) (by kernel_rfl) (by kernel_rfl) (by kernel_rfl) (fun _ _ _ h => h) hS ?hy8 (by rfl) ?rest8
    case hy8 =>
     intro w0 h0
     have k0 := h0.1.cell 0 rfl
     have k1 := h0.2.cell 0 rfl
     go_simp
     try with_reducible rfl
    simp only [Act.put, yq0, yq1, yq2, yq3, yq4, yq5]
    refine AnyG.takeW 6 (v := ?vv9) rfl (by kernel_rfl) (by kernel_rfl) (by kernel_rfl) (fun _ _ _ h => h) ?hy9 (by rfl) ?rest9
    case hy9 =>
     intro w0
     go_simp
     try with_reducible rfl
    simp only [Act.put, yq0, yq1, yq2, yq3, yq4, yq5]
    refine AnyG.takeW 7 (v := ?vv10) rfl (by kernel_rfl) (by kernel_rfl) (by kernel_rfl) (fun _ _ _ h => h) ?hy10 (by rfl) ?rest10
    case hy10 =>
     intro w0
     go_simp
     try with_reducible rfl
    simp only [Act.put, yq0, yq1, yq2, yq3, yq4, yq5]
    refine AnyG.takeW 8 (v := ?vv11) rfl (by kernel_rfl) (by kernel_rfl) (by kernel_rfl) (fun _ _ _ h => h) ?hy11 (by rfl) ?rest11
    case hy11 =>
     intro w0
     go_simp
     try with_reducible rfl
    simp only [Act.put, yq0, yq1, yq2, yq3, yq4, yq5]
    refine AnyG.takeW 10 (v := ?vv12) rfl (by kernel_rfl) (by kernel_rfl) (by kernel_rfl) (fun _ _ _ h => h) ?hy12 (by rfl) ?rest12
    case hy12 =>
     intro w0
     go_simp
     try with_reducible rfl
    simp only [Act.put, yq0, yq1, yq2, yq3, yq4, yq5]
    refine AnyG.one 9 (by kernel_rfl) rfl ?_
    intro K hK
    have n0 := HJB.out.th.c2 a a5
    have f0 := HJB.out.th.frozen (a * 4 + 2)
    go_simp
    refine hK.out _ _ (fun _ => ⟨hS.1.other (a := ⟨g, a * 4 + 2, none⟩) hne1 _, hS.2.other (a := ⟨g, a * 4 + 2, none⟩) hne2 _⟩) ?_
    clear hK K n0 f0
    try simp only [Act.put, yq0, yq1, yq2, yq3, yq4, yq5]
    replace hS := (And.intro (hS.1.other (a := ⟨g, a * 4 + 2, none⟩) hne1 (.int .i64 (e : Nat))) (hS.2.other (a := ⟨g, a * 4 + 2, none⟩) hne2 (.int .i64 (e : Nat))))
    replace HJB := hide (HJB.out.set (HJB.out.th.setIt a e a5) ((Bar.refl g Y).set _ _))
    generalize Y.setCell ⟨g, a * 4 + 2, none⟩ (.int .i64 (e : Nat)) = Z at *
    refine AnyG.takeW 11 (v := ?vv13) rfl (by kernel_rfl) (by kernel_rfl) (by kernel_rfl) (fun _ _ _ h => h) ?hy13 (by rfl) ?rest13
    case hy13 =>
     intro w0
     go_simp
     try with_reducible rfl
    simp only [Act.put, yq0, yq1, yq2, yq3, yq4, yq5]
    refine AnyG.takeW 12 (v := ?vv14) rfl (by kernel_rfl) (by kernel_rfl) (by kernel_rfl) (fun _ _ _ h => h) ?hy14 (by rfl) ?rest14
    case hy14 =>
     intro w0
     go_simp
     try with_reducible rfl
    simp only [Act.put, yq0, yq1, yq2, yq3, yq4, yq5]
    refine AnyG.one 13 (by kernel_rfl) rfl ?_
    intro K hK
    have n0 := HJB.out.th.c2 b b5
    have f0 := HJB.out.th.frozen (b * 4 + 2)
    go_simp
    refine hK.out _ _ (fun _ => ⟨hS.1.other (a := ⟨g, b * 4 + 2, none⟩) hne1 _, hS.2.other (a := ⟨g, b * 4 + 2, none⟩) hne2 _⟩) ?_
    clear hK K n0 f0
    try simp only [Act.put, yq0, yq1, yq2, yq3, yq4, yq5]
    replace HJB := hide (HJB.out.set (HJB.out.th.setIt b e b5) ((Bar.refl g Z).set _ _))
    generalize Z.setCell ⟨g, b * 4 + 2, none⟩ (.int .i64 (e : Nat)) = Z2 at *
    clear hS
    refine AnyG.done (by kernel_rfl) ?_ _
    obtain ⟨F2, hF2⟩ : ∃ F2, Hid (F2 = upd (upd F a { F a with it := e }) b { upd F a { F a with it := e } b with it := e }) := ⟨_, rfl⟩
    rw [← hF2.out] at HJB
    have HC : Hid ((F2 a).ct = (F a).ct ∧ (F2 b).ct = (F b).ct) := by rw [hF2.out]; exact ⟨(upd_ct _ _ _ _).trans (upd_ct _ _ _ _), (upd_ct _ _ _ _).trans (upd_ct _ _ _ _)⟩
    have hsu : (F2 a).ct + (F2 b).ct ≤ 268435456 := by rw [HC.out.1, HC.out.2]; exact HSU.out
    have HN : Hid (upd F2 e ⟨0, (F2 a).ct + (F2 b).ct, 0, 0⟩ = joi F a b e) := by show _ = _; rw [HC.out.1, HC.out.2, hF2.out]; rfl
    clear hF2 HC HSU
    go_wp2
    refine region_g [18] (fun w' => Cel w' ge [.int .i64 (e : Nat)] 3 ∧ Cel w' ga [.pointer (some ⟨g, 0, none⟩)] 152 ∧ TH w' g F2) (by kernel_rfl) ?_
    replace HJB : Hid (JB g gn ga gs gm ge n s2 m2 e F2 w Z2.drew) := HJB.out.set HJB.out.th.drew ((Bar.refl g Z2).drew)
    have hS : Cel Z2.drew ge [.int .i64 (e : Nat)] 3 ∧ Cel Z2.drew ga [.pointer (some ⟨g, 0, none⟩)] 152 ∧ TH Z2.drew g F2 := ⟨HJB.out.ce, HJB.out.ca, HJB.out.th⟩
    generalize Z2.drew = Z3 at *
    obtain ⟨ca, hca⟩ : ∃ ca : Nat, Hid (ca = (F2 a).ct) := ⟨_, rfl⟩
    obtain ⟨cb, hcb⟩ : ∃ cb : Nat, Hid (cb = (F2 b).ct) := ⟨_, rfl⟩
    rw [← hca.out, ← hcb.out] at hsu HN
    refine AnyG.take 0 (v := ?vv15) rfl (by kernel_rfl) (by kernel_rfl) (by kernel_rfl) (by kernel_rfl) (fun _ _ _ h => h) hS ?hy15 (by rfl) ?rest15
    case hy15 =>
     intro w0 h0
     have k0 := h0.1.cell 0 rfl
     have k1 := h0.2.1.cell 0 rfl
     have k2 := h0.2.2.c1 a a5
     have k3 := h0.2.2.c1 b b5
     rw [← hca.out] at k2
     rw [← hcb.out] at k3
     go_simp
     try with_reducible rfl
    simp only [Act.put, yq0, yq1, yq2, yq3, yq4, yq5]
    refine AnyG.take 1 (v := ?vv16) rfl (by kernel_rfl) (by kernel_rfl) (by kernel_rfl) (by kernel_rfl) (fun _ _ _ h => h) hS ?hy16 (by rfl) ?rest16
    case hy16 =>
     intro w0 h0
     have k0 := h0.1.cell 0 rfl
     have k1 := h0.2.1.cell 0 rfl
     have k2 := h0.2.2.c1 a a5
     have k3 := h0.2.2.c1 b b5
     rw [← hca.out] at k2
     rw [← hcb.out] at k3
     go_simp
     try with_reducible rfl
    simp only [Act.put, yq0, yq1, yq2, yq3, yq4, yq5]
    refine AnyG.take 2 (v := ?vv17) rfl (by kernel_rfl) (by kernel_rfl) (by kernel_rfl) (by kernel_rfl) (fun _ _ _ h => h) hS ?hy17 (by rfl) ?rest17
    case hy17 =>
     intro w0 h0
     have k0 := h0.1.cell 0 rfl
     have k1 := h0.2.1.cell 0 rfl
     have k2 := h0.2.2.c1 a a5
     have k3 := h0.2.2.c1 b b5
     rw [← hca.out] at k2
     rw [← hcb.out] at k3
     go_simp
     try with_reducible rfl
    simp only [Act.put, yq0, yq1, yq2, yq3, yq4, yq5]
    refine AnyG.take 3 (v := ?vv18) rfl (by kernel_rfl) (by kernel_rfl) (by kernel_rfl) (by kernel_rfl) (fun _ _ _ h => h) hS ?hy18 (by rfl) ?rest18
    case hy18 =>
     intro w0 h0
     go_simp
     try with_reducible rfl
    simp only [Act.put, yq0, yq1, yq2, yq3, yq4, yq5]
    refine AnyG.take 4 (v := ?vv19) rfl (by kernel_rfl) (by kernel_rfl) (by kernel_rfl) (by kernel_rfl) (fun _ _ _ h => h) hS ?hy19 (by rfl) ?rest19
    case hy19 =>
     intro w0 h0
     go_simp
     try with_reducible rfl
    simp only [Act.put, yq0, yq1, yq2, yq3, yq4, yq5]
    refine AnyG.take 5 (v := ?vv20) rfl (by kernel_rfl) (by kernel_rfl) (by kernel_rfl) (by kernel_rfl) (fun _ _ _ h => h) hS ?hy20 (by rfl) ?rest20
    case hy20 =>
     intro w0 h0
     go_simp
     try with_reducible rfl
    simp only [Act.put, yq0, yq1, yq2, yq3, yq4, yq5]
    refine AnyG.take 6 (v := ?vv21) rfl (by kernel_rfl) (by kernel_rfl) (by kernel_rfl) (by kernel_rfl) (fun _ _ _ h => h) hS ?hy21 (by rfl) ?rest21
    case hy21 =>
     intro w0 h0
     go_simp
     try with_reducible rfl
    simp only [Act.put, yq0, yq1, yq2, yq3, yq4, yq5]
    refine AnyG.take 7 (v := ?vv22) rfl (by kernel_rfl) (by kernel_rfl) (by kernel_rfl) (by kernel_rfl) (fun _ _ _ h => h) hS ?hy22 (by rfl) ?rest22
    case hy22 =>
     intro w0 h0
     have k0 := h0.1.cell 0 rfl
     have k1 := h0.2.1.cell 0 rfl
     have k2 := h0.2.2.c1 a a5
     have k3 := h0.2.2.c1 b b5
     rw [← hca.out] at k2
     rw [← hcb.out] at k3
     go_simp
     try with_reducible rfl
    simp only [Act.put, yq0, yq1, yq2, yq3, yq4, yq5]
    refine AnyG.take 8 (v := ?vv23) rfl (by kernel_rfl) (by kernel_rfl) (by kernel_rfl) (by kernel_rfl) (fun _ _ _ h => h) hS ?hy23 (by rfl) ?rest23
    case hy23 =>
     intro w0 h0
     have k0 := h0.1.cell 0 rfl
     have k1 := h0.2.1.cell 0 rfl
     have k2 := h0.2.2.c1 a a5
     have k3 := h0.2.2.c1 b b5
     rw [← hca.out] at k2
     rw [← hcb.out] at k3
     go_simp
     try with_reducible rfl
    simp only [Act.put, yq0, yq1, yq2, yq3, yq4, yq5]
    refine AnyG.take 9 (v := ?vv24) rfl (by kernel_rfl) (by kernel_rfl) (by kernel_rfl) (by kernel_rfl) (fun _ _ _ h => h) hS ?hy24 (by rfl) ?rest24
    case hy24 =>
     intro w0 h0
     go_simp
     try with_reducible rfl
    simp only [Act.put, yq0, yq1, yq2, yq3, yq4, yq5]
    refine AnyG.take 10 (v := ?vv25) rfl (by kernel_rfl) (by kernel_rfl) (by kernel_rfl) (by kernel_rfl) (fun _ _ _ h => h) hS ?hy25 (by rfl) ?rest25
    case hy25 =>
     intro w0 h0
     go_simp
     try with_reducible rfl
    simp only [Act.put, yq0, yq1, yq2, yq3, yq4, yq5]
    refine AnyG.take 11 (v := ?vv26) rfl (by kernel_rfl) (by kernel_rfl) (by kernel_rfl) (by kernel_rfl) (fun _ _ _ h => h) hS ?hy26 (by rfl) ?rest26
    case hy26 =>
     intro w0 h0
     go_simp
     try with_reducible rfl
    simp only [Act.put, yq0, yq1, yq2, yq3, yq4, yq5]
    refine AnyG.take 12 (v := ?vv27) rfl (by kernel_rfl) (by kernel_rfl) (by kernel_rfl) (by kernel_rfl) (fun _ _ _ h => h) hS ?hy27 (by rfl) ?rest27
    case hy27 =>
     intro w0 h0
     go_simp
     try with_reducible rfl
    simp only [Act.put, yq0, yq1, yq2, yq3, yq4, yq5]
    refine AnyG.take 13 (v := ?vv28) rfl (by kernel_rfl) (by kernel_rfl) (by kernel_rfl) (by kernel_rfl) (fun _ _ _ h => h) hS ?hy28 (by rfl) ?rest28
    case hy28 =>
     intro w0 h0
     have k0 := h0.1.cell 0 rfl
     have k1 := h0.2.1.cell 0 rfl
     have k2 := h0.2.2.c1 a a5
     have k3 := h0.2.2.c1 b b5
     rw [← hca.out] at k2
     rw [← hcb.out] at k3
     go_simp
     try with_reducible rfl
    simp only [Act.put, yq0, yq1, yq2, yq3, yq4, yq5]
    have wsum : IntKind.i64.wrap ((ca : Int) + (cb : Int)) = ((ca + cb : Nat) : Int) := by rw [IntKind.wrap_i64]; omega
    refine AnyG.take 14 (v := ?vv29) rfl (by kernel_rfl) (by kernel_rfl) (by kernel_rfl) (by kernel_rfl) (fun _ _ _ h => h) hS ?hy29 (by rfl) ?rest29
    case hy29 =>
     intro w0 h0
     go_simp
     try with_reducible rfl
    simp only [Act.put, yq0, yq1, yq2, yq3, yq4, yq5]
    refine AnyG.take 15 (v := ?vv30) rfl (by kernel_rfl) (by kernel_rfl) (by kernel_rfl) (by kernel_rfl) (fun _ _ _ h => h) hS ?hy30 (by rfl) ?rest30
    case hy30 =>
     intro w0 h0
     go_simp
     try with_reducible rfl
    simp only [Act.put, yq0, yq1, yq2, yq3, yq4, yq5]
    refine AnyG.takeW 16 (v := ?vv31) rfl (by kernel_rfl) (by kernel_rfl) (by kernel_rfl) (fun _ _ _ h => h) ?hy31 (by rfl) ?rest31
    case hy31 =>
     intro w0
     go_simp
     try with_reducible rfl
    simp only [Act.put, yq0, yq1, yq2, yq3, yq4, yq5]
    refine AnyG.takeW 17 (v := ?vv32) rfl (by kernel_rfl) (by kernel_rfl) (by kernel_rfl) (fun _ _ _ h => h) ?hy32 (by rfl) ?rest32
    case hy32 =>
     intro w0
     go_simp
     try with_reducible rfl
    simp only [Act.put, yq0, yq1, yq2, yq3, yq4, yq5]
    clear wsum
    refine AnyG.one 18 (by kernel_rfl) rfl ?_
    intro K hK
    refine wp_store_th _ _ rfl g F2 e _ ⟨0, ca + cb, 0, 0⟩ (by omega) (by omega) rfl ?hyv hS.2.2 ?_
    case hyv => rfl
    intro w4 hT4 hB4
    refine hK.out _ _ (fun h => absurd (by decide) h) ?_
    clear hK K
    try simp only [Act.put, yq0, yq1, yq2, yq3, yq4, yq5]
    refine AnyG.done (by kernel_rfl) ?_ _
    rw [HN.out] at hT4
    replace HJB := hide (HJB.out.set hT4 hB4)
    clear hT4 hB4 HN hca hcb hS hsu
    have n0 := HJB.out.ce.cell 0 rfl
    have f0 := HJB.out.ce.frozen 0
    have HX : Hid (∀ v : Nat, Cel (w4.setCell ⟨ge, 0, none⟩ (.int .i64 (v : Nat))) ge [.int .i64 (v : Nat)] 3) := fun v => HJB.out.ce.set 0 _
    go_wp2
    refine ⟨⟨r + 1, s2, m2, e + 1, joi F a b e, .inr (by omega), by go_num, ?_, .inr ⟨HJ'.out, HSY'.out, fun c => by omega⟩⟩, by simp only [intOf]; omega⟩
    exact HJB.out.end (HX.out (e + 1)) ((Only.refl ge w4).set 0 _)
   ·have hltz : ¬ (r : Int) < (n : Int) - 1 := by omega
    have HP : Hid (JP n cnt f F) := by
     rcases HI.out with ⟨c1, c2⟩ | ⟨⟨S, hh, d, Y, c1⟩, c2, c3⟩
     ·exact .inl ⟨by omega, c2⟩
     ·by_cases g2 : 2 ≤ n
      ·exact .inr ⟨g2, c2, S, hh, c1.ends (by omega) g2⟩
      ·exact .inl ⟨by omega, c3 (by omega)⟩
    go_wp2
    refine bodyPost_end (results_none rfl _ _ _) rfl ?_
    exact ⟨rfl, SO.mk _ HJB.out.th HP.out HJB.out.bar⟩
end Go.Proofs.YtcaalcjcpddhaaaGreat.Zz
