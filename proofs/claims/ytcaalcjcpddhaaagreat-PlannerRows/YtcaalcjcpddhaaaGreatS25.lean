/-
  The landed least, of offers. The contract of allShapes. The contract of the program's All.
-/
import Derived.Test.YtcaalcjcpddhaaaGreatS24
set_option linter.unusedVariables false
set_option linter.unusedSimpArgs false
set_option maxRecDepth 100000
namespace Go.Proofs.YtcaalcjcpddhaaaGreat.Zz
open Go.RowKit Go.Shelf Num
attribute [local go_sem] Oper.semAt_some
def fo (Z : Nat → Co.Zf) (b st : Nat → Nat) (wb ws : Nat) (f : Nat → Nat) (q : Nat) : List Value := if q = 0 then [.int .i64 0, .int .i64 0, .int .i64 0, .int .i64 0, .int .i64 0, .int .i64 0, .int .i64 0, .int .i64 0, .int .i64 0] else ofc Z b st wb ws (Pn.am f q)
def lo (f : Nat → Nat) (q : Nat) : Int := if q = 0 then 9223372036854775807 else (f (Pn.am f q) : Nat)
theorem fo_nine (Z : Nat → Co.Zf) (b st : Nat → Nat) (wb ws : Nat) (f : Nat → Nat) (q : Nat) : ∃ c0 c1 c2 c3 c4 c5 c6 c7 c8, fo Z b st wb ws f q = [c0, c1, c2, c3, c4, c5, c6, c7, c8] := by
 unfold fo
 split
 ·exact ⟨_, _, _, _, _, _, _, _, _, rfl⟩
 ·exact ⟨_, _, _, _, _, _, _, _, _, rfl⟩
theorem lo_new {f : Nat → Nat} {q : Nat} (h : (f q : Int) < lo f q) : Pn.am f (q + 1) = q ∧ lo f (q + 1) = (f q : Nat) := by
 have e : Pn.am f (q + 1) = q := by
  unfold lo at h
  rw [Pn.am]
  by_cases c : q = 0
  ·rw [if_pos c, c]
  ·rw [if_neg c] at h ⊢
   rw [if_pos (by omega)]
 refine ⟨e, ?_⟩
 unfold lo
 rw [if_neg (Nat.succ_ne_zero q), e]
theorem lo_old {f : Nat → Nat} {q : Nat} (hr : f q ≤ 1000000000000000000) (h : ¬ (f q : Int) < lo f q) : q ≠ 0 ∧ Pn.am f (q + 1) = Pn.am f q ∧ lo f (q + 1) = lo f q := by
 unfold lo at h ⊢
 rw [if_neg (Nat.succ_ne_zero q), Pn.am]
 by_cases c : q = 0
 ·rw [if_pos c] at h
  omega
 ·rw [if_neg c] at h ⊢
  rw [if_neg (by omega), if_neg c]
  exact ⟨c, rfl, rfl⟩
set_option maxHeartbeats 8000000 in
theorem pleastO_c (gB g m cap : Nat) (Z : Nat → Co.Zf) (b st : Nat → Nat) (wb ws : Nat) (f : Nat → Nat) (hf : ∀ q, f q = b q * wb + st q * ws) (hb : ∀ q, b q ≤ 1700001000000) (hs : ∀ q, st q ≤ 83886336) (hwb : wb ≤ 65536) (hws : ws ≤ 65536) (h0 : 0 < m) (hm : m ≤ 378) (w : World) (hc : Cel w gB [.slice (some ⟨g, 0, none⟩) m cap] 76) (ho : OFs w g m (ofc Z b st wb ws)) :
  Calls Tryz.prog 25 #[.func (.func 53) #[] #[.pointer (some ⟨gB, 0, none⟩)], .func (.func 28) #[] #[]] w fun e w' => e = .returned (.agg (ofc Z b st wb ws (Pn.am f m)).toArray) ∧ Below w.heap.size w w' := by
 refine (callsIn_wide (n := 0)).1 (callsIn_of_wp_marks Tryz.func25 rfl trivial ?_)
 simp only [Tryz.ntmps25, List.size_toArray, List.length_cons, List.length_nil, Nat.reduceAdd, Nat.reduceSub, Array.replicate_succ, Array.replicate_zero, List.push_toArray, List.append_toArray, List.nil_append, List.cons_append]
 refine wpIn_wide.2 ?_
 obtain ⟨W1, hW1⟩ : ∃ W1, W1 = (((w.alloc (.cells #[.func (.func 28) #[] #[]] 78)).alloc (.cells #[.int .i64 0, .int .i64 0, .int .i64 0, .int .i64 0, .int .i64 0, .int .i64 0, .int .i64 0, .int .i64 0, .int .i64 0] 71)).alloc (.cells #[.int .i64 0, .int .i64 0, .int .i64 0, .int .i64 0, .int .i64 0, .int .i64 0, .int .i64 0, .int .i64 0, .int .i64 0] 71)).alloc (.cells #[.int .i64 9223372036854775807] 3) := ⟨_, rfl⟩
 have z1 : W1.heap.size = w.heap.size + 4 := by rw [hW1]; simp
 have b1 : Below w.heap.size w W1 := by rw [hW1]; exact ((((below_alloc w _).alloc (by simp only [World.size_alloc]; omega) _).alloc (by simp only [World.size_alloc]; omega) _).alloc (by simp only [World.size_alloc]; omega) _)
 have c0 : Cel W1 w.heap.size [.func (.func 28) #[] #[]] 78 := by rw [hW1]; exact ((((Cel.new _ _ _).alloc _).alloc _).alloc _).at rfl
 have c1 : Cel W1 (w.heap.size + 1) [.int .i64 0, .int .i64 0, .int .i64 0, .int .i64 0, .int .i64 0, .int .i64 0, .int .i64 0, .int .i64 0, .int .i64 0] 71 := by rw [hW1]; exact ((((Cel.new _ _ _).alloc _).alloc _)).at (by simp)
 have c2 : Cel W1 (w.heap.size + 1 + 1) [.int .i64 0, .int .i64 0, .int .i64 0, .int .i64 0, .int .i64 0, .int .i64 0, .int .i64 0, .int .i64 0, .int .i64 0] 71 := by rw [hW1]; exact (((Cel.new _ _ _).alloc _)).at (by simp)
 have c3 : Cel W1 (w.heap.size + 1 + 1 + 1) [.int .i64 9223372036854775807] 3 := by rw [hW1]; exact ((Cel.new _ _ _)).at (by simp)
 have lB := hc.lt
 have lg := ho.1
 replace hc := hc.kept b1
 replace ho := ho.kept b1
 go_wp2_with fail
 rw [← hW1]
 clear hW1
 have G := vals1_goes gB g m cap Z b st wb ws hm (fun x => (x ≠ w.heap.size + 1 + 1 ∧ x ≠ w.heap.size + 1 + 1 + 1) ∧ x ≠ W1.heap.size + 1) W1 hc ho (by omega) (by omega)
 refine range_lawA (gf := 53) (lb := #[.pointer (some ⟨gB, 0, none⟩)]) (K := fun x => x ≠ w.heap.size + 1 + 1 ∧ x ≠ w.heap.size + 1 + 1 + 1) rfl (enters_of Tryz.func53 (by kernel_rfl) rfl) (fun _ => rfl) G (fun x hx => by omega)
  (fun q Wc => Kept (fun x => x ≠ w.heap.size + 1 + 1 ∧ x ≠ w.heap.size + 1 + 1 + 1) W1 Wc ∧ Cel Wc (w.heap.size + 1 + 1) (fo Z b st wb ws f q) 71 ∧ Cel Wc (w.heap.size + 1 + 1 + 1) [.int .i64 (lo f q)] 3) (fun q Wc => False) (fun q A B h hb => ⟨h.1.more hb (Nat.le_refl _), h.2.1.keep hb (by omega), h.2.2.keep hb (by omega)⟩) (fun q A B h hb => h) ⟨Kept.refl _ _, c2, c3⟩
  (fun q a1 Wc => ∃ gx, W1.heap.size + 2 ≤ gx ∧ a1 = { tmps := #[.func (.func 53) #[] #[.pointer (some ⟨gB, 0, none⟩)], .func (.func 28) #[] #[], undef, .pointer (some ⟨w.heap.size, 0, none⟩), .pointer (some ⟨w.heap.size + 1, 0, none⟩), .pointer (some ⟨w.heap.size + 1 + 1, 0, none⟩), .pointer (some ⟨w.heap.size + 1 + 1 + 1, 0, none⟩), .pointer (some ⟨gx, 0, none⟩), undef, .func (.func 53) #[] #[.pointer (some ⟨gB, 0, none⟩)], .agg #[.int .i64 (Z q).1, .int .i64 (Z q).2.1, .int .i64 (Z q).2.2.1, .int .i64 (Z q).2.2.2.1, .int .i64 (Z q).2.2.2.2, .int .i64 (b q : Nat), .int .i64 (st q : Nat), .int .i64 (wb : Nat), .int .i64 (ws : Nat)], undef, undef, undef, undef, undef, undef, undef, undef, undef], defers := [] } ∧ Cel Wc gx [.int .i64 (Z q).1, .int .i64 (Z q).2.1, .int .i64 (Z q).2.2.1, .int .i64 (Z q).2.2.2.1, .int .i64 (Z q).2.2.2.2, .int .i64 (b q : Nat), .int .i64 (st q : Nat), .int .i64 (wb : Nat), .int .i64 (ws : Nat)] 71) ?hA ?assign ?body ?done ?stop
 case hA =>
  rintro q a1 Wc o ⟨gx, h1, h2, h3⟩
  exact ⟨gx, h1, h2, h3.put o (by omega)⟩
 case assign =>
  intro l1 q Wc K1 hz hK1
  have hb := hide (below_alloc Wc (.cells #[.int .i64 (Z q).1, .int .i64 (Z q).2.1, .int .i64 (Z q).2.2.1, .int .i64 (Z q).2.2.2.1, .int .i64 (Z q).2.2.2.2, .int .i64 (b q : Nat), .int .i64 (st q : Nat), .int .i64 (wb : Nat), .int .i64 (ws : Nat)] 71))
  have hx := hide (Cel.new Wc [.int .i64 (Z q).1, .int .i64 (Z q).2.1, .int .i64 (Z q).2.2.1, .int .i64 (Z q).2.2.2.1, .int .i64 (Z q).2.2.2.2, .int .i64 (b q : Nat), .int .i64 (st q : Nat), .int .i64 (wb : Nat), .int .i64 (ws : Nat)] 71)
  gi_wp2
  exact hK1 _ _ hb.out ⟨Wc.heap.size, hz, rfl, hx.out⟩
 case body =>
  rintro l1 q a1 Wc hq ⟨hk, cF, cL⟩ ⟨gx, hgx, rfl, cX⟩ hz
  have cB := (hk.cel c0 (by omega)).cell 0 rfl
  have L := hide (pcost_c (Z q).1 (Z q).2.1 (Z q).2.2.1 (Z q).2.2.2.1 (Z q).2.2.2.2 (b q) (st q) wb ws (hb q) (hs q) hwb hws Wc)
  rw [← hf q] at L
  have hr : f q ≤ 1000000000000000000 := by
   have p1 := Nat.mul_le_mul (hb q) hwb
   have p2 := Nat.mul_le_mul (hs q) hws
   rw [hf q]
   omega
  have x0 := cX.cell 0 rfl
  have x1 := cX.cell 1 rfl
  have x2 := cX.cell 2 rfl
  have x3 := cX.cell 3 rfl
  have x4 := cX.cell 4 rfl
  have x5 := cX.cell 5 rfl
  have x6 := cX.cell 6 rfl
  have x7 := cX.cell 7 rfl
  have x8 := cX.cell 8 rfl
  have l0 := cL.cell 0 rfl
  have HF := hide cF
  have HL := hide cL
  have HK := hide hk
  have HX := hide cX
  have HZ := hide hz
  obtain ⟨c, hcc⟩ : ∃ c, Hid (c = f q) := ⟨_, rfl⟩
  rw [← hcc.out] at L hr
  clear G hk cF cL cX c0 c1 c2 c3 hc ho hb hs hwb hws
  by_cases hlt : (f q : Int) < lo f q
  ·obtain ⟨e1, e2⟩ := lo_new hlt
   rw [← hcc.out] at hlt e2
   have HE1 := hide e1
   have HE2 := hide e2
   clear e1 e2
   gi_wp2_with fail
   refine ⟨trivial, rfl, ?_⟩
   refine (CallsIn.inRound l1 (callsIn_wide.2 L.out)).mono ?_
   rintro e w2 ⟨rfl, hb2⟩
   have HK2 := hide (Kept.of (K := fun x => x ≠ w.heap.size + 1 + 1 ∧ x ≠ w.heap.size + 1 + 1 + 1) hb2)
   obtain ⟨a0, a1, a2, a3, a4, a5, a6, a7, a8, hnine⟩ := fo_nine Z b st wb ws f q
   have HF2 : Hid (Cel w2 (w.heap.size + 1 + 1) [a0, a1, a2, a3, a4, a5, a6, a7, a8] 71) := by show Cel _ _ _ _; rw [← hnine]; exact HF.out.kept hb2
   have cL2 := HL.out.kept hb2
   have cX2 := HX.out.kept hb2
   have y0 := cX2.cell 0 rfl
   have y1 := cX2.cell 1 rfl
   have y2 := cX2.cell 2 rfl
   have y3 := cX2.cell 3 rfl
   have y4 := cX2.cell 4 rfl
   have y5 := cX2.cell 5 rfl
   have y6 := cX2.cell 6 rfl
   have y7 := cX2.cell 7 rfl
   have y8 := cX2.cell 8 rfl
   have F0 := HF2.out
   have e0 := F0.cell 0 rfl
   have f0 := F0.frozen 0
   have F1 := F0.set 0 (.int .i64 (Z q).1)
   have e1 := F1.cell 1 rfl
   have f1 := F1.frozen 1
   have F2 := F1.set 1 (.int .i64 (Z q).2.1)
   have e2 := F2.cell 2 rfl
   have f2 := F2.frozen 2
   have F3 := F2.set 2 (.int .i64 (Z q).2.2.1)
   have e3 := F3.cell 3 rfl
   have f3 := F3.frozen 3
   have F4 := F3.set 3 (.int .i64 (Z q).2.2.2.1)
   have e4 := F4.cell 4 rfl
   have f4 := F4.frozen 4
   have F5 := F4.set 4 (.int .i64 (Z q).2.2.2.2)
   have e5 := F5.cell 5 rfl
   have f5 := F5.frozen 5
   have F6 := F5.set 5 (.int .i64 (b q : Nat))
   have e6 := F6.cell 6 rfl
   have f6 := F6.frozen 6
   have F7 := F6.set 6 (.int .i64 (st q : Nat))
   have e7 := F7.cell 7 rfl
   have f7 := F7.frozen 7
   have F8 := F7.set 7 (.int .i64 (wb : Nat))
   have e8 := F8.cell 8 rfl
   have f8 := F8.frozen 8
   have F9 := F8.set 8 (.int .i64 (ws : Nat))
   have HXK : Hid (Kept (fun x => x ≠ w.heap.size + 1 + 1 ∧ x ≠ w.heap.size + 1 + 1 + 1) w2 ((((((((((w2.setCell ⟨w.heap.size + 1 + 1, 0, none⟩ (.int .i64 (Z q).1)).setCell ⟨w.heap.size + 1 + 1, 1, none⟩ (.int .i64 (Z q).2.1)).setCell ⟨w.heap.size + 1 + 1, 2, none⟩ (.int .i64 (Z q).2.2.1)).setCell ⟨w.heap.size + 1 + 1, 3, none⟩ (.int .i64 (Z q).2.2.2.1)).setCell ⟨w.heap.size + 1 + 1, 4, none⟩ (.int .i64 (Z q).2.2.2.2)).setCell ⟨w.heap.size + 1 + 1, 5, none⟩ (.int .i64 (b q : Nat))).setCell ⟨w.heap.size + 1 + 1, 6, none⟩ (.int .i64 (st q : Nat))).setCell ⟨w.heap.size + 1 + 1, 7, none⟩ (.int .i64 (wb : Nat))).setCell ⟨w.heap.size + 1 + 1, 8, none⟩ (.int .i64 (ws : Nat))).setCell ⟨w.heap.size + 1 + 1 + 1, 0, none⟩ (.int .i64 (c : Nat)))) := ((((((((((Kept.refl _ _).setCell (fun h => h.1 rfl) _).setCell (fun h => h.1 rfl) _).setCell (fun h => h.1 rfl) _).setCell (fun h => h.1 rfl) _).setCell (fun h => h.1 rfl) _).setCell (fun h => h.1 rfl) _).setCell (fun h => h.1 rfl) _).setCell (fun h => h.1 rfl) _).setCell (fun h => h.1 rfl) _).setCell (fun h => h.2 rfl) _
   have l1a : Cel (((((((((w2.setCell ⟨w.heap.size + 1 + 1, 0, none⟩ (.int .i64 (Z q).1)).setCell ⟨w.heap.size + 1 + 1, 1, none⟩ (.int .i64 (Z q).2.1)).setCell ⟨w.heap.size + 1 + 1, 2, none⟩ (.int .i64 (Z q).2.2.1)).setCell ⟨w.heap.size + 1 + 1, 3, none⟩ (.int .i64 (Z q).2.2.2.1)).setCell ⟨w.heap.size + 1 + 1, 4, none⟩ (.int .i64 (Z q).2.2.2.2)).setCell ⟨w.heap.size + 1 + 1, 5, none⟩ (.int .i64 (b q : Nat))).setCell ⟨w.heap.size + 1 + 1, 6, none⟩ (.int .i64 (st q : Nat))).setCell ⟨w.heap.size + 1 + 1, 7, none⟩ (.int .i64 (wb : Nat))).setCell ⟨w.heap.size + 1 + 1, 8, none⟩ (.int .i64 (ws : Nat))) (w.heap.size + 1 + 1 + 1) [.int .i64 (lo f q)] 3 := (((((((((cL2.other (by show w.heap.size + 1 + 1 + 1 ≠ w.heap.size + 1 + 1; omega) _).other (by show w.heap.size + 1 + 1 + 1 ≠ w.heap.size + 1 + 1; omega) _).other (by show w.heap.size + 1 + 1 + 1 ≠ w.heap.size + 1 + 1; omega) _).other (by show w.heap.size + 1 + 1 + 1 ≠ w.heap.size + 1 + 1; omega) _).other (by show w.heap.size + 1 + 1 + 1 ≠ w.heap.size + 1 + 1; omega) _).other (by show w.heap.size + 1 + 1 + 1 ≠ w.heap.size + 1 + 1; omega) _).other (by show w.heap.size + 1 + 1 + 1 ≠ w.heap.size + 1 + 1; omega) _).other (by show w.heap.size + 1 + 1 + 1 ≠ w.heap.size + 1 + 1; omega) _).other (by show w.heap.size + 1 + 1 + 1 ≠ w.heap.size + 1 + 1; omega) _)
   have l1c := l1a.cell 0 rfl
   have l1f := l1a.frozen 0
   have HL2 : Hid (Cel ((((((((((w2.setCell ⟨w.heap.size + 1 + 1, 0, none⟩ (.int .i64 (Z q).1)).setCell ⟨w.heap.size + 1 + 1, 1, none⟩ (.int .i64 (Z q).2.1)).setCell ⟨w.heap.size + 1 + 1, 2, none⟩ (.int .i64 (Z q).2.2.1)).setCell ⟨w.heap.size + 1 + 1, 3, none⟩ (.int .i64 (Z q).2.2.2.1)).setCell ⟨w.heap.size + 1 + 1, 4, none⟩ (.int .i64 (Z q).2.2.2.2)).setCell ⟨w.heap.size + 1 + 1, 5, none⟩ (.int .i64 (b q : Nat))).setCell ⟨w.heap.size + 1 + 1, 6, none⟩ (.int .i64 (st q : Nat))).setCell ⟨w.heap.size + 1 + 1, 7, none⟩ (.int .i64 (wb : Nat))).setCell ⟨w.heap.size + 1 + 1, 8, none⟩ (.int .i64 (ws : Nat))).setCell ⟨w.heap.size + 1 + 1 + 1, 0, none⟩ (.int .i64 (c : Nat))) (w.heap.size + 1 + 1 + 1) [.int .i64 (lo f (q + 1))] 3) := by
    show Cel _ _ _ _
    rw [HE2.out]
    exact l1a.set 0 _
   have HF9 : Hid (Cel ((((((((((w2.setCell ⟨w.heap.size + 1 + 1, 0, none⟩ (.int .i64 (Z q).1)).setCell ⟨w.heap.size + 1 + 1, 1, none⟩ (.int .i64 (Z q).2.1)).setCell ⟨w.heap.size + 1 + 1, 2, none⟩ (.int .i64 (Z q).2.2.1)).setCell ⟨w.heap.size + 1 + 1, 3, none⟩ (.int .i64 (Z q).2.2.2.1)).setCell ⟨w.heap.size + 1 + 1, 4, none⟩ (.int .i64 (Z q).2.2.2.2)).setCell ⟨w.heap.size + 1 + 1, 5, none⟩ (.int .i64 (b q : Nat))).setCell ⟨w.heap.size + 1 + 1, 6, none⟩ (.int .i64 (st q : Nat))).setCell ⟨w.heap.size + 1 + 1, 7, none⟩ (.int .i64 (wb : Nat))).setCell ⟨w.heap.size + 1 + 1, 8, none⟩ (.int .i64 (ws : Nat))).setCell ⟨w.heap.size + 1 + 1 + 1, 0, none⟩ (.int .i64 (c : Nat))) (w.heap.size + 1 + 1) (fo Z b st wb ws f (q + 1)) 71) := by
    show Cel _ _ _ _
    have : fo Z b st wb ws f (q + 1) = ofc Z b st wb ws q := by unfold fo; rw [if_neg (Nat.succ_ne_zero q), HE1.out]
    rw [this]
    exact F9.other (by show w.heap.size + 1 + 1 ≠ w.heap.size + 1 + 1 + 1; omega) _
   have l2 := cL2.cell 0 rfl
   clear l1a F0 F1 F2 F3 F4 F5 F6 F7 F8 F9 cL2 cX2 hb2 hnine HF2 HF HL HX x0 x1 x2 x3 x4 x5 x6 x7 x8 l0
   gi_wp2
   exact ⟨HK2.out.trans HXK.out, HK.out.trans (HK2.out.trans HXK.out), HF9.out, HL2.out⟩
  ·obtain ⟨hq0, e1, e2⟩ := lo_old (by rw [← hcc.out]; exact hr) hlt
   rw [← hcc.out] at hlt
   have HE1 := hide e1
   have HE2 := hide e2
   clear e1 e2
   gi_wp2_with fail
   refine ⟨trivial, rfl, ?_⟩
   refine (CallsIn.inRound l1 (callsIn_wide.2 L.out)).mono ?_
   rintro e w2 ⟨rfl, hb2⟩
   have HK2 := hide (Kept.of (K := fun x => x ≠ w.heap.size + 1 + 1 ∧ x ≠ w.heap.size + 1 + 1 + 1) hb2)
   have cL2 := HL.out.kept hb2
   have l2 := cL2.cell 0 rfl
   have HL2 : Hid (Cel w2 (w.heap.size + 1 + 1 + 1) [.int .i64 (lo f (q + 1))] 3) := by show Cel _ _ _ _; rw [HE2.out]; exact cL2
   have HF9 : Hid (Cel w2 (w.heap.size + 1 + 1) (fo Z b st wb ws f (q + 1)) 71) := by
    show Cel _ _ _ _
    have : fo Z b st wb ws f (q + 1) = fo Z b st wb ws f q := by unfold fo; rw [if_neg (Nat.succ_ne_zero q), HE1.out, if_neg hq0]
    rw [this]
    exact HF.out.kept hb2
   clear cL2 hb2 HF HL HX x0 x1 x2 x3 x4 x5 x6 x7 x8 l0
   gi_wp2
   exact ⟨HK2.out, HK.out.trans HK2.out, HF9.out, HL2.out⟩
 case done =>
  rintro D Wc hD ⟨hk, cF, cL⟩ hd
  have hB := hide (b1.trans ((hk.below (B := w.heap.size) (fun x h => by omega) (by omega))))
  have cR := hide (hk.cel c1 (by omega))
  have hd2 := hide hd
  have cF2 : Cel Wc (w.heap.size + 1 + 1) (ofc Z b st wb ws (Pn.am f m)) 71 := by
   have : fo Z b st wb ws f m = ofc Z b st wb ws (Pn.am f m) := by unfold fo; rw [if_neg (by omega)]
   rw [← this]
   exact cF
  have x0 := cF2.cell 0 rfl
  have x1 := cF2.cell 1 rfl
  have x2 := cF2.cell 2 rfl
  have x3 := cF2.cell 3 rfl
  have x4 := cF2.cell 4 rfl
  have x5 := cF2.cell 5 rfl
  have x6 := cF2.cell 6 rfl
  have x7 := cF2.cell 7 rfl
  have x8 := cF2.cell 8 rfl
  have hDw : Hid (D ≠ w.heap.size + 1) := by show D ≠ _; omega
  clear G hk cF cL c0 c1 c2 c3 hc ho hd cF2 hb hs
  go_wp2_with (refine store_cel (w.heap.size + 1) [.int .i64 0, .int .i64 0, .int .i64 0, .int .i64 0, .int .i64 0, .int .i64 0, .int .i64 0, .int .i64 0, .int .i64 0] [.int .i64 (Z (Pn.am f m)).1, .int .i64 (Z (Pn.am f m)).2.1, .int .i64 (Z (Pn.am f m)).2.2.1, .int .i64 (Z (Pn.am f m)).2.2.2.1, .int .i64 (Z (Pn.am f m)).2.2.2.2, .int .i64 (b (Pn.am f m) : Nat), .int .i64 (st (Pn.am f m) : Nat), .int .i64 (wb : Nat), .int .i64 (ws : Nat)] (by rfl) rfl cR.out rfl (by kernel_rfl) (by simp [Value.oneCell']) ?_)
  intro w8 hc8 ho8
  have hdD : w8.heap[D]? = some (.deferred (some [])) := (ho8.block D hDw.out).trans hd2.out
  have hB8 := hide (hB.out.trans (ho8.below (Nat.le_succ _)))
  have hc9 := hc8.put (.deferred none) (Ne.symm hDw.out)
  have y0 := hc9.cell 0 rfl
  have y1 := hc9.cell 1 rfl
  have y2 := hc9.cell 2 rfl
  have y3 := hc9.cell 3 rfl
  have y4 := hc9.cell 4 rfl
  have y5 := hc9.cell 5 rfl
  have y6 := hc9.cell 6 rfl
  have y7 := hc9.cell 7 rfl
  have y8 := hc9.cell 8 rfl
  clear x0 x1 x2 x3 x4 x5 x6 x7 x8 hc8 ho8 hc9
  go_wp2
  exact marks_end hdD (v := .agg (ofc Z b st wb ws (Pn.am f m)).toArray) (by simp [results, Tryz.results25, go_sem, y0, y1, y2, y3, y4, y5, y6, y7, y8, ofc]) ⟨rfl, hB8.out.trans (below_putObj (by omega) _)⟩
 case stop =>
  rintro D q Wc hD hq h hd
  exact h.elim
end Go.Proofs.YtcaalcjcpddhaaaGreat.Zz
namespace Go.Proofs.YtcaalcjcpddhaaaGreat.Zz
open Go.RowKit
namespace Co
def shS : List Cf := [(1, 0, 0, 0, 0), (2, 0, 0, 0, 0), (3, 0, 0, 0, 0)] ++ [1, 2, 3].flatMap fun i => lgs.map fun l => (4, i, l, 0, 0)
theorem shS_len : shS.length = 18 := by decide
theorem shS_a (s : Nat) (h1 : 1 ≤ s) (h2 : s < 4) : shS[s - 1]? = some (s, 0, 0, 0, 0) := by
 have key : s = 1 ∨ s = 2 ∨ s = 3 := by omega
 rcases key with rfl | rfl | rfl <;> rfl
theorem shS_b (i q l : Nat) (h1 : 1 ≤ i) (h2 : i < 4) (h3 : l ≤ 12) (h4 : l = 4 + 2 * q) : shS[3 + 5 * (i - 1) + q]? = some (4, i, l, 0, 0) := by
 have key : i = 1 ∨ i = 2 ∨ i = 3 := by omega
 have key2 : q = 0 ∨ q = 1 ∨ q = 2 ∨ q = 3 ∨ q = 4 := by omega
 subst h4
 rcases key with rfl | rfl | rfl <;> rcases key2 with rfl | rfl | rfl | rfl | rfl <;> rfl
theorem take_next {α : Type} {l : List α} {t : Nat} {c : α} (h : l[t]? = some c) : l.take (t + 1) = l.take t ++ [c] := by
 rw [List.take_add_one, h]
 rfl
end Co
def OL (base : Nat) (w wr : World) (L : List Co.Cf) (v : Value) (t : Nat) : Prop := wr.ownsRow base 44 5 v t (Co.enc (L.take t)) ∧ Below base w wr
theorem OL.start (w : World) (L : List Co.Cf) : OL w.heap.size w w L (.slice none 0 0) 0 := ⟨⟨rfl, .inl ⟨rfl, rfl⟩⟩, Below.refl _ _⟩
theorem OL.more {base g cap t : Nat} {w w2 : World} {L : List Co.Cf} {c : Co.Cf} (h0 : L[t]? = some c) (h : w2.ownsRow base 44 5 (.slice (some ⟨g, 0, none⟩) (t + 1) cap) (t + 1) (Co.enc (L.take t) ++ Co.cv (Co.toZ c))) (hb : Below base w w2) : OL base w w2 L (.slice (some ⟨g, 0, none⟩) (t + 1) cap) (t + 1) := by
 refine ⟨?_, hb⟩
 rw [Co.take_next h0, Co.enc_app]
 exact h
set_option maxHeartbeats 8000000 in
theorem kallsh_c (w : World) : Calls Tryz.prog 81 #[] w fun e w' => ∃ v, e = .returned v ∧ OL w.heap.size w w' Co.shS v 18 := by
 obtain ⟨i0, hi, hz0, hz1, hz2⟩ := info_parts (show (Tryz.prog.info? 44).map (fun i => (i.zero, i.size, i.bytes)) = some (some (.agg #[.int .i64 0, .int .i64 0, .int .i64 0, .int .i64 0, .int .i64 0]), 5, 40) by kernel_rfl)
 have HI := hide (And.intro hi (And.intro hz0 (And.intro hz1 hz2)))
 clear hi hz0 hz1 hz2
 go_enter Tryz.func81, Tryz.ntmps81
 go_wp2
 go_loopw [1, 2] (fun vo vs wr => ∃ s : Nat, 1 ≤ s ∧ s ≤ 4 ∧ vs = .int .i64 (s : Nat) ∧ Hid (OL w.heap.size w wr Co.shS vo (s - 1))) (fun _ vs _ => 4 - (intOf vs).toNat)
 case atStart => exact ⟨1, by omega, by omega, rfl, OL.start w _⟩
 case round =>
  obtain ⟨s, hs1, hs4, rfl, HO⟩ := hrel
  by_cases hs3 : s < 4
  ·have hsz : (s : Int) < 4 := by omega
   have H0 := hide (Co.shS_a s hs1 hs3)
   obtain ⟨t, ht⟩ : ∃ t, Hid (t = s - 1) := ⟨_, rfl⟩
   rw [← ht.out] at HO H0
   have ht18 : t < 18 := by have := ht.out; omega
   have HT : Hid (t + 1 = s + 1 - 1) := by have := ht.out; show _ = _; omega
   have HCV : Hid (Co.cv (Co.toZ (s, 0, 0, 0, 0)) = [.int .i64 (s : Nat), .int .i64 0, .int .i64 0, .int .i64 0, .int .i64 0]) := (rfl : Co.cv _ = _)
   have hws : w.heap.size ≤ wr.heap.size := HO.out.2.size
   obtain ⟨hi, hz0, hz1, hz2⟩ := HI.out
   go_wp2_with (at_builtin; refine Ag.wpList_append (by rfl) _ _ _ (by rfl) w.heap.size 44 i0 (.agg #[.int .i64 0, .int .i64 0, .int .i64 0, .int .i64 0, .int .i64 0]) 5 40 Tryz.underlying114 hi hz0 hz1 hz2 rfl (by decide) u1 t (Co.enc (Co.shS.take t)) (by rfl) (Ag.owns_keep HO.out.1 (below_alloc wr _)) ⟨wr.heap.size, 0, none⟩ 1 1 [.int .i64 (s : Nat), .int .i64 0, .int .i64 0, .int .i64 0, .int .i64 0] (by rfl) rfl (by decide) ?c1 ?c2 ?c3 ?c4 ?c5 ?_)
   case c1 =>
    intro j u hj
    have := (Cel.new wr [.int .i64 (s : Nat), .int .i64 0, .int .i64 0, .int .i64 0, .int .i64 0] 44).cell j hj
    match j, hj with
    | 0, _ => exact this
    | 1, _ => exact this
    | 2, _ => exact this
    | 3, _ => exact this
    | 4, _ => exact this
   case c2 => intro u hu; simp at hu; rcases hu with rfl | rfl | rfl | rfl | rfl <;> rfl
   case c3 => unfold maxLen; omega
   case c4 => omega
   case c5 => simp; omega
   intro g8 cap8 w8 own8 hb8 _ _ _ _
   have HN : Hid (OL w.heap.size w w8 Co.shS (.slice (some ⟨g8, 0, none⟩) (t + 1) cap8) (t + 1)) := OL.more H0.out (by rw [HCV.out]; exact own8) ((HO.out.2.alloc hws _).trans hb8)
   clear own8 hb8 HO hi hz0 hz1 hz2
   go_wp2
   exact ⟨⟨s + 1, by omega, by omega, by go_num, by rw [← HT.out]; exact HN⟩, by simp only [intOf]; omega⟩
  ·have hsz : ¬ (s : Int) < 4 := by omega
   have HS : Hid (OL w.heap.size w wr Co.shS u1 3) := by have := HO.out; rwa [show s - 1 = 3 by omega] at this
   clear HO
   obtain ⟨wa, rfl⟩ : ∃ wa, wa = wr := ⟨_, rfl⟩
   go_wp2
   go_loopw [1, 3] (fun vo vs wr => ∃ i : Nat, 1 ≤ i ∧ i ≤ 4 ∧ vs = .int .i64 (i : Nat) ∧ Hid (OL w.heap.size w wr Co.shS vo (3 + 5 * (i - 1)))) (fun _ vs _ => 4 - (intOf vs).toNat)
   case atStart => exact ⟨1, by omega, by omega, rfl, HS⟩
   case round =>
    clear HS
    obtain ⟨i, hi1, hi4, rfl, HO⟩ := hrel
    by_cases hi3 : i < 4
    ·have hiz : (i : Int) < 4 := by omega
     obtain ⟨wb, rfl⟩ : ∃ wb, wb = wr := ⟨_, rfl⟩
     go_wp2
     go_loopw [1, 4] (fun vo vs wr => ∃ q l : Nat, q ≤ 5 ∧ l = 4 + 2 * q ∧ vs = .int .i64 (l : Nat) ∧ Hid (OL w.heap.size w wr Co.shS vo (3 + 5 * (i - 1) + q))) (fun _ vs _ => 14 - (intOf vs).toNat)
     case atStart => exact ⟨0, 4, by omega, rfl, rfl, HO⟩
     case round =>
      clear HO
      obtain ⟨q, l, hq5, hl, rfl, HO⟩ := hrel
      by_cases hq4 : l ≤ 12
      ·have hqz : (l : Int) ≤ 12 := by omega
       have H0 := hide (Co.shS_b i q l hi1 hi3 hq4 hl)
       have HL := hide hl
       clear hl
       obtain ⟨t, ht⟩ : ∃ t, Hid (t = 3 + 5 * (i - 1) + q) := ⟨_, rfl⟩
       rw [← ht.out] at HO H0
       have ht18 : t < 18 := by have := ht.out; have := HL.out; omega
       have HT : Hid (t + 1 = 3 + 5 * (i - 1) + (q + 1)) := by have := ht.out; show _ = _; omega
       have HCV : Hid (Co.cv (Co.toZ (4, i, l, 0, 0)) = [.int .i64 4, .int .i64 (i : Nat), .int .i64 (l : Nat), .int .i64 0, .int .i64 0]) := (rfl : Co.cv _ = _)
       have hws : w.heap.size ≤ wr.heap.size := HO.out.2.size
       obtain ⟨hi, hz0, hz1, hz2⟩ := HI.out
       go_wp2_with (at_builtin; refine Ag.wpList_append (by rfl) _ _ _ (by rfl) w.heap.size 44 i0 (.agg #[.int .i64 0, .int .i64 0, .int .i64 0, .int .i64 0, .int .i64 0]) 5 40 Tryz.underlying114 hi hz0 hz1 hz2 rfl (by decide) u1 t (Co.enc (Co.shS.take t)) (by rfl) (Ag.owns_keep HO.out.1 (below_alloc wr _)) ⟨wr.heap.size, 0, none⟩ 1 1 [.int .i64 4, .int .i64 (i : Nat), .int .i64 (l : Nat), .int .i64 0, .int .i64 0] (by rfl) rfl (by decide) ?c1 ?c2 ?c3 ?c4 ?c5 ?_)
       case c1 =>
        intro j u hj
        have := (Cel.new wr [.int .i64 4, .int .i64 (i : Nat), .int .i64 (l : Nat), .int .i64 0, .int .i64 0] 44).cell j hj
        match j, hj with
        | 0, _ => exact this
        | 1, _ => exact this
        | 2, _ => exact this
        | 3, _ => exact this
        | 4, _ => exact this
       case c2 => intro u hu; simp at hu; rcases hu with rfl | rfl | rfl | rfl | rfl <;> rfl
       case c3 => unfold maxLen; omega
       case c4 => omega
       case c5 => simp; omega
       intro g8 cap8 w8 own8 hb8 _ _ _ _
       have HN : Hid (OL w.heap.size w w8 Co.shS (.slice (some ⟨g8, 0, none⟩) (t + 1) cap8) (t + 1)) := OL.more H0.out (by rw [HCV.out]; exact own8) ((HO.out.2.alloc hws _).trans hb8)
       clear own8 hb8 HO hi hz0 hz1 hz2
       go_wp2
       exact ⟨⟨q + 1, l + 2, by have := HL.out; omega, by have := HL.out; omega, by go_num, by rw [← HT.out]; exact HN⟩, by simp only [intOf]; omega⟩
      ·have hqz : ¬ (l : Int) ≤ 12 := by omega
       have HS : Hid (OL w.heap.size w wr Co.shS u1 (3 + 5 * (i + 1 - 1))) := by have := HO.out; rwa [show 3 + 5 * (i - 1) + q = 3 + 5 * (i + 1 - 1) by omega] at this
       clear HO
       go_wp2
       exact ⟨⟨i + 1, by omega, by omega, by go_num, HS⟩, by simp only [intOf]; omega⟩
    ·have hiz : ¬ (i : Int) < 4 := by omega
     have HS : Hid (OL w.heap.size w wr Co.shS u1 18) := by have := HO.out; rwa [show 3 + 5 * (i - 1) = 18 by omega] at this
     clear HO
     go_wp2
     go_ret
     exact ⟨_, rfl, HS.out⟩
end Go.Proofs.YtcaalcjcpddhaaaGreat.Zz
namespace Go.Proofs.YtcaalcjcpddhaaaGreat.Zz
open Go.RowKit
namespace Co
theorem all_sh : ((List.range 378).all fun t => decide (all[t]? = (shS[t / 21]?).map fun c => (c.1, c.2.1, c.2.2.1, t / 7 % 3 + 1, 2 ^ (t % 7)))) = true := by decide +kernel
theorem all_at {j k q p s i l : Nat} (hj : j < 18) (h : shS[j]? = some (s, i, l, 0, 0)) (h1 : 1 ≤ k) (h2 : k ≤ 3) (hq : q ≤ 6) (hp : p = 2 ^ q) : all[21 * j + 7 * (k - 1) + q]? = some (s, i, l, k, p) := by
 have := List.all_eq_true.1 all_sh (21 * j + 7 * (k - 1) + q) (List.mem_range.2 (by omega))
 rw [decide_eq_true_iff, show (21 * j + 7 * (k - 1) + q) / 21 = j by omega, h, show (21 * j + 7 * (k - 1) + q) / 7 % 3 + 1 = k by omega, show (21 * j + 7 * (k - 1) + q) % 7 = q by omega] at this
 rw [this, hp]
 rfl
theorem shS_ex (j : Nat) (hj : j < 18) : ∃ s i l, shS[j]? = some (s, i, l, 0, 0) ∧ s ≤ 4 ∧ i ≤ 3 ∧ l ≤ 12 := by
 have key : (shS.all fun c => decide (c.2.2.2 = (0, 0) ∧ c.1 ≤ 4 ∧ c.2.1 ≤ 3 ∧ c.2.2.1 ≤ 12)) = true := by decide
 obtain ⟨⟨s, i, l, k, m⟩, hc⟩ : ∃ c, shS[j]? = some c := ⟨_, List.getElem?_eq_getElem (by rw [shS_len]; exact hj)⟩
 have := List.all_eq_true.1 key _ (List.mem_of_getElem? hc)
 rw [decide_eq_true_iff] at this
 simp only [Prod.mk.injEq] at this
 obtain ⟨⟨rfl, rfl⟩, h1, h2, h3⟩ := this
 exact ⟨s, i, l, hc, h1, h2, h3⟩
theorem pow_le {q p : Nat} (h : p = 2 ^ q) (hp : p ≤ 64) : q ≤ 6 := by
 by_cases c : q ≤ 6
 ·exact c
 ·have := Nat.pow_le_pow_right (n := 2) (by decide) (show 7 ≤ q by omega)
  omega
end Co
def CC (w : World) (gc s i l : Nat) (v : Value) : Prop := (∃ x y : Int, Cel w gc [.int .i64 (s : Nat), .int .i64 (i : Nat), .int .i64 (l : Nat), .int .i64 x, .int .i64 y] 44) ∧ v.ownBlock ≠ some gc
set_option maxHeartbeats 8000000 in
theorem kall_c (w : World) : Calls Tryz.prog 54 #[] w (AllQ w) := by
 have KA := hide kallsh_c
 obtain ⟨i0, hi, hz0, hz1, hz2⟩ := info_parts (show (Tryz.prog.info? 44).map (fun i => (i.zero, i.size, i.bytes)) = some (some (.agg #[.int .i64 0, .int .i64 0, .int .i64 0, .int .i64 0, .int .i64 0]), 5, 40) by kernel_rfl)
 have HI := hide (And.intro hi (And.intro hz0 (And.intro hz1 hz2)))
 clear hi hz0 hz1 hz2
 go_enter Tryz.func54, Tryz.ntmps54
 go_wp2_with fail
 refine (KA.out _).mono ?_
 rintro e w1 ⟨v, rfl, hO, hB⟩
 obtain ⟨h1, ⟨_, h⟩ | ⟨g0, cap0, cur, rfl, e2, hh, r⟩⟩ := id hO
 ·exact absurd h (by decide)
 have hlt0 := (Ag.owns_cells hO).1
 have HS0 := hide (fun i c (hc : Co.shS[i]? = some c) j u hu => (Ag.owns_cells hO).2 _ _ (Co.enc_get _ i c (show (Co.shS.take 18)[i]? = some c by rw [List.take_of_length_le (by rw [Co.shS_len]; exact Nat.le_refl _)]; exact hc) j u hu))
 have hc18 := r.1
 have HB1 := hide hB
 obtain ⟨B, hBe⟩ : ∃ B, Hid (B = w1.heap.size) := ⟨_, rfl⟩
 rw [← hBe.out] at hlt0
 clear h1 hh r hO hB KA e2
 go_wp2
 go_loopw [1, 8] (fun vo vs wr => ∃ j : Nat, j ≤ 18 ∧ vs = .int .i64 (j : Nat) ∧ Hid (OL B w1 wr Co.all vo (21 * j))) (fun _ vs _ => 18 - (intOf vs).toNat)
 case atStart => exact ⟨0, by omega, rfl, by have := OL.start w1 Co.all; rw [← hBe.out] at this; exact this⟩
 case round =>
  obtain ⟨j, hj18, rfl, HO⟩ := hrel
  by_cases hj : j < 18
  ·have hjz : (j : Int) < 18 := by omega
   obtain ⟨s, i, l, hs, hs4, hi3, hl12⟩ := Co.shS_ex j hj
   have HS := hide hs
   have e1 := (HO.out.2.cell (p := ⟨g0, j * 5 + 0, none⟩) hlt0).trans (HS0.out j _ hs 0 _ rfl)
   have e2 := (HO.out.2.cell (p := ⟨g0, j * 5 + 1, none⟩) hlt0).trans (HS0.out j _ hs 1 _ rfl)
   have e3 := (HO.out.2.cell (p := ⟨g0, j * 5 + 2, none⟩) hlt0).trans (HS0.out j _ hs 2 _ rfl)
   have e4 := (HO.out.2.cell (p := ⟨g0, j * 5 + 3, none⟩) hlt0).trans (HS0.out j _ hs 3 _ rfl)
   have e5 := (HO.out.2.cell (p := ⟨g0, j * 5 + 4, none⟩) hlt0).trans (HS0.out j _ hs 4 _ rfl)
   simp only [Nat.add_zero] at e1
   have HSW : Hid (B ≤ wr.heap.size) := by have := HO.out.2.size; rw [hBe.out]; exact this
   have HOW : Hid (∀ k, u1.ownBlock = some k → k < wr.heap.size) := fun k hk => (HO.out.1.lt k hk).2
   clear hs
   obtain ⟨gc, hgc⟩ : ∃ gc, Hid (gc = wr.heap.size) := ⟨_, rfl⟩
   have B3 : Cel (wr.alloc (.cells #[.int .i64 0, .int .i64 0, .int .i64 0, .int .i64 0, .int .i64 0] 44)) gc [.int .i64 0, .int .i64 0, .int .i64 0, .int .i64 0, .int .i64 0] 44 := by rw [hgc.out]; exact Cel.new wr _ _
   go_wp2_with (refine store_cel gc [.int .i64 0, .int .i64 0, .int .i64 0, .int .i64 0, .int .i64 0] [.int .i64 (s : Nat), .int .i64 (i : Nat), .int .i64 (l : Nat), .int .i64 0, .int .i64 0] (by rw [hgc.out]; rfl) rfl B3 rfl (by kernel_rfl) (by simp [Value.oneCell']) ?_)
   intro w3 hc3 ho3
   have HO3 : Hid (OL B w1 w3 Co.all u1 (21 * j)) := by
    have hbw : Below wr.heap.size wr w3 := (below_alloc wr _).trans (ho3.below (by rw [hgc.out]; exact Nat.le_refl _))
    exact ⟨Ag.owns_keep HO.out.1 hbw, HO.out.2.trans (hbw.mono HSW.out)⟩
   have HC3 : Hid (CC w3 gc s i l u1) := ⟨⟨0, 0, hc3⟩, fun q => by have := HOW.out gc q; rw [hgc.out] at this; exact Nat.lt_irrefl _ this⟩
   have HGC : Hid (B ≤ gc) := by rw [hgc.out]; exact HSW.out
   rw [← hgc.out]
   clear hc3 ho3 B3 HO e1 e2 e3 e4 e5 HOW HSW hgc
   go_wp2
   go_loopw [1, 4] (fun vo vs wr => ∃ k : Nat, 1 ≤ k ∧ k ≤ 4 ∧ vs = .int .i64 (k : Nat) ∧ Hid (OL B w1 wr Co.all vo (21 * j + 7 * (k - 1))) ∧ Hid (CC wr gc s i l vo)) (fun _ vs _ => 4 - (intOf vs).toNat)
   case atStart => exact ⟨1, by omega, by omega, rfl, HO3, HC3⟩
   case round =>
    clear HO3 HC3
    obtain ⟨k, hk1, hk4, rfl, HO, HC⟩ := hrel
    by_cases hk3 : k ≤ 3
    ·have hkz : (k : Int) ≤ 3 := by omega
     obtain ⟨wb, rfl⟩ : ∃ wb, wb = wr := ⟨_, rfl⟩
     go_wp2
     go_loopw [1, 5] (fun vo vs wr => ∃ q p : Nat, p ≤ 128 ∧ Hid (p = 2 ^ q) ∧ vs = .int .i64 (p : Nat) ∧ Hid (OL B w1 wr Co.all vo (21 * j + 7 * (k - 1) + q)) ∧ Hid (CC wr gc s i l vo)) (fun _ vs _ => 128 - (intOf vs).toNat)
     case atStart => exact ⟨0, 1, by omega, rfl, rfl, HO, HC⟩
     case round =>
      clear HO HC
      obtain ⟨q, p, hp128, HP, rfl, HO, HC⟩ := hrel
      by_cases hp : p ≤ 64
      ·have hpz : (p : Int) ≤ 64 := by omega
       have hq6 := Co.pow_le HP.out hp
       have hp1 : 1 ≤ p := by rw [HP.out]; exact Nat.one_le_two_pow
       have H0 := hide (Co.all_at hj HS.out hk1 hk3 hq6 HP.out)
       have HP2 : Hid (p * 2 = 2 ^ (q + 1)) := by show p * 2 = _; rw [HP.out, Nat.pow_succ]
       obtain ⟨t, ht⟩ : ∃ t, Hid (t = 21 * j + 7 * (k - 1) + q) := ⟨_, rfl⟩
       rw [← ht.out] at HO H0
       have ht378 : t < 378 := by have := ht.out; omega
       have HT : Hid (t + 1 = 21 * j + 7 * (k - 1) + (q + 1)) := by have := ht.out; show _ = _; omega
       have HCV : Hid (Co.cv (Co.toZ (s, i, l, k, p)) = [.int .i64 (s : Nat), .int .i64 (i : Nat), .int .i64 (l : Nat), .int .i64 (k : Nat), .int .i64 (p : Nat)]) := (rfl : Co.cv _ = _)
       obtain ⟨⟨x, y, hcel⟩, hown⟩ := HC.out
       have c3 := hcel.cell 3 rfl
       have c4 := hcel.cell 4 rfl
       have f3 := hcel.frozen 3
       have f4 := hcel.frozen 4
       have HX : Hid (Cel ((wr.setCell ⟨gc, 3, none⟩ (.int .i64 (k : Nat))).setCell ⟨gc, 4, none⟩ (.int .i64 (p : Nat))) gc [.int .i64 (s : Nat), .int .i64 (i : Nat), .int .i64 (l : Nat), .int .i64 (k : Nat), .int .i64 (p : Nat)] 44) := (hcel.set 3 (.int .i64 (k : Nat))).set 4 (.int .i64 (p : Nat))
       have HON : Hid (Only gc wr ((wr.setCell ⟨gc, 3, none⟩ (.int .i64 (k : Nat))).setCell ⟨gc, 4, none⟩ (.int .i64 (p : Nat)))) := ((Only.refl gc wr).set 3 _).set 4 _
       have d0 := HX.out.cell 0 rfl
       have d1 := HX.out.cell 1 rfl
       have d2 := HX.out.cell 2 rfl
       have d3 := HX.out.cell 3 rfl
       have d4 := HX.out.cell 4 rfl
       have HO2 : Hid (OL B w1 ((wr.setCell ⟨gc, 3, none⟩ (.int .i64 (k : Nat))).setCell ⟨gc, 4, none⟩ (.int .i64 (p : Nat))) Co.all u1 t) := ⟨Ag.owns_of HO.out.1 (fun b hb => HON.out.block b (fun q => hown (q ▸ hb))), HO.out.2.trans (HON.out.below HGC.out)⟩
       have HSZ : Hid (B ≤ ((wr.setCell ⟨gc, 3, none⟩ (.int .i64 (k : Nat))).setCell ⟨gc, 4, none⟩ (.int .i64 (p : Nat))).heap.size) := by have := HO2.out.2.size; rw [hBe.out]; exact this
       have hgl : Hid (gc < ((wr.setCell ⟨gc, 3, none⟩ (.int .i64 (k : Nat))).setCell ⟨gc, 4, none⟩ (.int .i64 (p : Nat))).heap.size) := HX.out.lt
       obtain ⟨hi, hz0, hz1, hz2⟩ := HI.out
       have HOWN := hide hown
       have hsz : Hid (((wr.setCell ⟨gc, 3, none⟩ (.int .i64 (k : Nat))).setCell ⟨gc, 4, none⟩ (.int .i64 (p : Nat))).heap.size = wr.heap.size) := HON.out.size
       clear HP HC HO hcel hown
       go_wp2_with (at_builtin; refine Ag.wpList_append (by rfl) _ _ _ (by rfl) B 44 i0 (.agg #[.int .i64 0, .int .i64 0, .int .i64 0, .int .i64 0, .int .i64 0]) 5 40 Tryz.underlying114 hi hz0 hz1 hz2 rfl (by decide) u1 t (Co.enc (Co.all.take t)) (by rfl) (Ag.owns_keep HO2.out.1 (below_alloc ((wr.setCell ⟨gc, 3, none⟩ (.int .i64 (k : Nat))).setCell ⟨gc, 4, none⟩ (.int .i64 (p : Nat))) _)) ⟨wr.heap.size, 0, none⟩ 1 1 [.int .i64 (s : Nat), .int .i64 (i : Nat), .int .i64 (l : Nat), .int .i64 (k : Nat), .int .i64 (p : Nat)] (by rfl) rfl (by decide) ?c1 ?c2 ?c3 ?c4 ?c5 ?_)
       case c1 =>
        intro j u hj
        have := (Cel.new ((wr.setCell ⟨gc, 3, none⟩ (.int .i64 (k : Nat))).setCell ⟨gc, 4, none⟩ (.int .i64 (p : Nat))) [.int .i64 (s : Nat), .int .i64 (i : Nat), .int .i64 (l : Nat), .int .i64 (k : Nat), .int .i64 (p : Nat)] 44).cell j hj
        rw [hsz.out] at this
        match j, hj with
        | 0, _ => exact this
        | 1, _ => exact this
        | 2, _ => exact this
        | 3, _ => exact this
        | 4, _ => exact this
       case c2 => intro u hu; simp at hu; rcases hu with rfl | rfl | rfl | rfl | rfl <;> rfl
       case c3 => unfold maxLen; omega
       case c4 => omega
       case c5 => have := HSZ.out; simp at this ⊢; omega
       intro g8 cap8 w8 own8 hb8 hg8 _ hk8 _
       have HN : Hid (OL B w1 w8 Co.all (.slice (some ⟨g8, 0, none⟩) (t + 1) cap8) (t + 1)) := OL.more H0.out (by rw [HCV.out]; exact own8) ((HO2.out.2.alloc HSZ.out _).trans hb8)
       have HN2 : Hid (CC w8 gc s i l (.slice (some ⟨g8, 0, none⟩) (t + 1) cap8)) := by
        refine ⟨⟨_, _, (hk8 gc (by have := hgl.out; simp at this ⊢; omega) HOWN.out).trans (HX.out.alloc _)⟩, fun q => ?_⟩
        simp only [Value.ownBlock, Option.some.injEq] at q
        subst q
        rcases hg8 with q | q
        ·exact HOWN.out q
        ·have := hgl.out
         simp at this q
         omega
       clear own8 hb8 hg8 hk8 HO2 hi hz0 hz1 hz2 d0 d1 d2 d3 d4 c3 c4 f3 f4 HX HON HSZ hgl HOWN
       go_wp2
       exact ⟨⟨q + 1, p * 2, by omega, HP2, by go_num, by rw [← HT.out]; exact HN, HN2⟩, by simp only [intOf]; omega⟩
      ·have hpz : ¬ (p : Int) ≤ 64 := by omega
       have HX : Hid (OL B w1 wr Co.all u1 (21 * j + 7 * (k + 1 - 1))) := by
        have := HO.out
        have hq : q = 7 := by
         have h1 := HP.out
         by_cases c : q ≤ 6
         ·have := Nat.pow_le_pow_right (n := 2) (by decide) c
          omega
         ·by_cases c2 : q ≤ 7
          ·omega
          ·have := Nat.pow_le_pow_right (n := 2) (by decide) (show 8 ≤ q by omega)
           omega
        rwa [show 21 * j + 7 * (k - 1) + q = 21 * j + 7 * (k + 1 - 1) by omega] at this
       clear HO
       go_wp2
       exact ⟨⟨k + 1, by omega, by omega, by go_num, HX, HC⟩, by simp only [intOf]; omega⟩
    ·have hkz : ¬ (k : Int) ≤ 3 := by omega
     have HX : Hid (OL B w1 wr Co.all u1 (21 * (j + 1))) := by
      have := HO.out
      rwa [show 21 * j + 7 * (k - 1) = 21 * (j + 1) by omega] at this
     clear HO
     go_wp2
     exact ⟨⟨j + 1, by omega, by go_num, HX⟩, by simp only [intOf]; omega⟩
  ·have hjz : ¬ (j : Int) < 18 := by omega
   have HX : Hid (OL B w1 wr Co.all u1 378) := by
    have := HO.out
    rwa [show 21 * j = 378 by omega] at this
   clear HO
   go_wp2
   go_ret
   obtain ⟨hO, hBw⟩ := HX.out
   rw [List.take_of_length_le (by rw [Co.all_len]; exact Nat.le_refl _)] at hO
   obtain ⟨h1, ⟨_, h⟩ | ⟨g, cap, cur, rfl, e2, hh, r⟩⟩ := id hO
   ·exact absurd h (by decide)
   ·exact ⟨g, cap, rfl, ⟨(Ag.owns_cells hO).1, fun i c hc j u hu => (Ag.owns_cells hO).2 _ _ (Co.enc_get _ i c hc j u hu)⟩, r.1, Nat.le_trans (by rw [hBe.out]; exact HB1.out.size) e2, HB1.out.trans (hBw.mono (by rw [hBe.out]; exact HB1.out.size))⟩
end Go.Proofs.YtcaalcjcpddhaaaGreat.Zz
