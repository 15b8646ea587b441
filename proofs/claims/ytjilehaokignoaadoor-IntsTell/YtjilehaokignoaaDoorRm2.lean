/-
  The contracts of the document's Make, Of and List, whatever is handed in.
-/
import Derived.Test.YtjilehaokignoaaDoorRm
import Derived.Test.YtjilehaokignoaaDoorLs
namespace Go.Proofs.YtjilehaokignoaaDoor
open Go.RowKit Num Bit
set_option maxRecDepth 100000
set_option linter.unusedVariables false

theorem refmake_bad (W : Int) (al : Option Addr) (n cap : Nat) (w : World) (hn : n ≤ 1048576) (h : W < 1 ∨ 64 < W ∨ 1048576 < (n : Int) * W) :
    Calls Tryd.prog 17 #[.int .i64 W, .slice al n cap] w fun e w' => e = .returned (.tuple #[.agg #[.int .i64 0, .int .i64 0, .int .i64 0, .slice none 0 0], .int .i64 2]) ∧ Below w.heap.size w w' := by
  by_cases a1 : W < 1
  · clear h
    go_enter Tryd.func17, Tryd.ntmps17
    go_wp2
    exact bodyPost_ret (v := .tuple #[.agg #[.int .i64 0, .int .i64 0, .int .i64 0, .slice none 0 0], .int .i64 2]) (by simp [results, Tryd.results17, go_sem]) rfl ⟨rfl, below_alloc w _⟩
  have d1 : decide (W < 1) = false := by simpa using a1
  by_cases a2 : 64 < W
  · clear h
    go_enter Tryd.func17, Tryd.ntmps17
    go_wp2
    exact bodyPost_ret (v := .tuple #[.agg #[.int .i64 0, .int .i64 0, .int .i64 0, .slice none 0 0], .int .i64 2]) (by simp [results, Tryd.results17, go_sem]) rfl ⟨rfl, below_alloc w _⟩
  have d2 : decide (64 < W) = false := by simpa using a2
  have d3 : decide ((1048576 : Int) < (n : Int)) = false := by simp; omega
  have h3 : 1048576 < (n : Int) * W := by omega
  have b2 : (n : Int) * W ≤ 1048576 * 64 := Int.mul_le_mul (by omega) (by omega) (by omega) (by omega)
  clear h
  go_enter Tryd.func17, Tryd.ntmps17
  go_wp2
  exact bodyPost_ret (v := .tuple #[.agg #[.int .i64 0, .int .i64 0, .int .i64 0, .slice none 0 0], .int .i64 2]) (by simp [results, Tryd.results17, go_sem]) rfl ⟨rfl, below_alloc w _⟩

theorem refmake_c (W : Int) (al : Option Addr) (l : List Nat) (cap : Nat) (w : World) (hx : Wd w al l) (hf : Fit l) (hcap : l.length ≤ 1048576) :
    Calls Tryd.prog 17 #[.int .i64 W, .slice al l.length cap] w fun e w' => ∃ bo dap, e = .returned (.tuple #[.agg #[.int .i64 (imN W l), .int .i64 (imW W l), .int .i64 (imM W l), .slice bo (imL W l).length dap], .int .i64 (imE W l)]) ∧ OutF w w' bo (imL W l) dap := by
  have bad : imE W l ≠ 0 → ∀ w' : World, Below w.heap.size w w' → ∃ bo dap, Ending.returned (.tuple #[.agg #[.int .i64 0, .int .i64 0, .int .i64 0, .slice none 0 0], .int .i64 2]) = .returned (.tuple #[.agg #[.int .i64 (imN W l), .int .i64 (imW W l), .int .i64 (imM W l), .slice bo (imL W l).length dap], .int .i64 (imE W l)]) ∧ OutF w w' bo (imL W l) dap := by
    intro hE w' hb
    have h1 : imL W l = [] := by unfold imL; rw [if_neg hE]
    have h2 : imN W l = 0 := by unfold imN; rw [if_neg hE]
    have h3 : imW W l = 0 := by unfold imW; rw [if_neg hE]
    have h4 : imM W l = 0 := by unfold imM; rw [if_neg hE]
    rw [h1, h2, h3, h4, imE_bad W l hE]
    exact ⟨none, 0, rfl, fun h => absurd h (by simp), fun i => by unfold gt; simp, by simp, fun a ha => (by cases ha), hb⟩
  by_cases h : W < 1 ∨ 64 < W ∨ 1048576 < (l.length : Int) * W
  · have hE : imE W l ≠ 0 := fun e => by have := imE_zero W l e; omega
    refine (refmake_bad W al l.length cap w hcap h).mono ?_
    rintro e w' ⟨rfl, hb⟩
    exact bad hE w' hb
  · obtain ⟨m, rfl⟩ := Int.eq_ofNat_of_zero_le (show 0 ≤ W by omega)
    have hm : l.length * m ≤ 1048576 := by
      have : ((l.length * m : Nat) : Int) ≤ 1048576 := by rw [Int.natCast_mul]; omega
      omega
    refine (refmake_loop m al l cap _ w hx hf (by omega) (by omega) hm rfl).mono ?_
    rintro e w' (⟨hE, g, rfl, hg0, hO, hb⟩ | ⟨hE, rfl, hb⟩)
    · have h1 : imL (m : Int) l = mkS l m l.length := by unfold imL; rw [if_pos hE, Int.toNat_natCast]
      have h2 : imN (m : Int) l = l.length := by unfold imN; rw [if_pos hE]
      have h3 : imW (m : Int) l = m := by unfold imW; rw [if_pos hE]
      have h4 : imM (m : Int) l = (l.length : Int) * m := by unfold imM; rw [if_pos hE]
      rw [h1, h2, h3, h4, hE]
      exact ⟨some ⟨g, 0, none⟩, _, by rw [length_mkS], hO.wd, fit_mkS _ _ _, by rw [length_mkS]; exact Nat.le_refl _, fun a ha => by cases ha; exact hg0, hb⟩
    · exact bad hE w' hb

set_option maxHeartbeats 1000000 in
theorem refof_c (al : Option Addr) (l : List Nat) (cap : Nat) (w : World) (hx : Wd w al l) (hf : Fit l) (hcap : l.length ≤ 1048576) :
    Calls Tryd.prog 18 #[.slice al l.length cap] w fun e w' => ∃ bo dap, e = .returned (.tuple #[.agg #[.int .i64 (imN (wm l l.length) l), .int .i64 (imW (wm l l.length) l), .int .i64 (imM (wm l l.length) l), .slice bo (imL (wm l l.length) l).length dap], .int .i64 (imE (wm l l.length) l)]) ∧ OutF w w' bo (imL (wm l l.length) l) dap := by
  have K : ∀ o, Wd (w.alloc o) al l := fun o => hx.keep (below_alloc w o)
  go_enter Tryd.func18, Tryd.ntmps18
  go_wp2_with fail
  refine (refwidth_c _ _ _ _ (K _) hf hcap).mono ?_
  rintro e w' ⟨rfl, hw'⟩
  subst hw'
  go_wp2_with fail
  refine (refmake_c _ _ _ _ _ (K _) hf hcap).mono ?_
  rintro e w1 ⟨bo, dap, rfl, hX, hF, hC, hN, hb⟩
  have KF : w1.frozen? ⟨w.heap.size, 0, none⟩ = false ∧ w1.frozen? ⟨w.heap.size, 1, none⟩ = false ∧ w1.frozen? ⟨w.heap.size, 2, none⟩ = false ∧ w1.frozen? ⟨w.heap.size, 3, none⟩ = false :=
    ⟨(hb.frozen (p := ⟨w.heap.size, 0, none⟩) (by simp)).trans (by simp), (hb.frozen (p := ⟨w.heap.size, 1, none⟩) (by simp)).trans (by simp), (hb.frozen (p := ⟨w.heap.size, 2, none⟩) (by simp)).trans (by simp), (hb.frozen (p := ⟨w.heap.size, 3, none⟩) (by simp)).trans (by simp)⟩
  have KK := Box4.new hb
  clear hb K
  obtain ⟨⟨hz, k0, k1, k2, k3⟩, hw⟩ := KK
  obtain ⟨f0, f1, f2, f3⟩ := KF
  have hN' : ∀ p, bo = some p → p.block ≠ w.heap.size := fun p hp => by have := hN p hp; simp at this; omega
  have HX : Hid (Wd w1 bo (imL (wm l l.length) l)) := hX
  clear hX
  go_wp2
  refine bodyPost_ret (v := .tuple #[.agg #[.int .i64 (imN (wm l l.length) l), .int .i64 (imW (wm l l.length) l), .int .i64 (imM (wm l l.length) l), .slice bo (imL (wm l l.length) l).length dap], .int .i64 (imE (wm l l.length) l)]) (by simp [results, Tryd.results18, go_sem, k0, k1, k2, k3]) rfl ⟨bo, dap, rfl, ?_, hF, hC, fun a ha => (by have := hN a ha; simp at this; omega), ?_⟩
  · exact (((HX.out.set_other hN' _).set_other hN' _).set_other hN' _).set_other hN' _
  · exact (((hw.setCell (by simp) _).setCell (by simp) _).setCell (by simp) _).setCell (by simp) _

/-! The document's List: what is appended lies in memory of the call's own, with room behind it. -/
def OwnC (w : World) (g : Nat) (ys : List Nat) : Prop := ∃ cur, w.heap[g]? = some (.cells cur 31 (0, 0)) ∧ ys.length ≤ cur.size ∧ ∀ j, j < ys.length → cur[j]? = some (.int .u64 (gt ys j))
theorem OwnC.lt {w : World} {g : Nat} {ys : List Nat} (h : OwnC w g ys) : g < w.heap.size := by obtain ⟨cur, hh, _⟩ := h; exact (Array.getElem?_eq_some_iff.1 hh).1
theorem OwnC.cell {w : World} {g : Nat} {ys : List Nat} (h : OwnC w g ys) (j : Nat) (hj : j < ys.length) : w.cell? ⟨g, j, none⟩ = some (.int .u64 (gt ys j)) := by
  obtain ⟨cur, hh, _, hc⟩ := h
  unfold World.cell?
  rw [show w.heap[({ block := g, off := j, spot := none } : Addr).block]? = _ from hh]
  exact hc j hj
theorem OwnC.frozen {w : World} {g : Nat} {ys : List Nat} (h : OwnC w g ys) (j : Nat) : w.frozen? ⟨g, j, none⟩ = false := by
  obtain ⟨cur, hh, _⟩ := h
  unfold World.frozen?
  rw [show w.heap[({ block := g, off := j, spot := none } : Addr).block]? = _ from hh]
  simp
theorem OwnC.wd {w : World} {g : Nat} {ys : List Nat} (h : OwnC w g ys) : Wd w (some ⟨g, 0, none⟩) ys := fun _ => ⟨g, 0, rfl, h.lt, fun i hi => by rw [Nat.zero_add]; exact h.cell i hi⟩
theorem OwnC.set {w : World} {g : Nat} {ys : List Nat} (h : OwnC w g ys) (j v : Nat) (hj : j < ys.length) : OwnC (w.setCell ⟨g, j, none⟩ (.int .u64 v)) g (ys.set j v) := by
  obtain ⟨cur, hh, hs, hc⟩ := h
  refine ⟨cur.setIfInBounds j (.int .u64 v), ?_, by simpa using hs, fun i hi => ?_⟩
  · simp only [World.setCell, Array.getElem?_modify]
    rw [if_pos trivial, hh]
    rfl
  · rw [List.length_set] at hi
    rw [Array.getElem?_setIfInBounds, gt_set ys j i v hj]
    by_cases e : j = i
    · subst e
      rw [if_pos rfl, if_pos rfl, if_pos (by omega)]
    · rw [if_neg e, if_neg e]; exact hc i hi
theorem OwnC.keep {w w' : World} {g : Nat} {ys : List Nat} (h : OwnC w g ys) (hb : Below w.heap.size w w') : OwnC w' g ys := by
  have hl := h.lt
  obtain ⟨cur, hh, r⟩ := h
  exact ⟨cur, (hb.block g hl).trans hh, r⟩
theorem owns_c {w : World} {base n : Nat} {v : Value} {ys : List Nat} (h : w.ownsRow base 31 1 v n (wv ys)) (hn : 0 < n) : ∃ g cap, v = .slice (some ⟨g, 0, none⟩) n cap ∧ base ≤ g ∧ n ≤ cap ∧ ys.length = n ∧ OwnC w g ys := by
  have hl : ys.length = n := by have := h.1; simpa [wv] using this
  obtain ⟨h1, ⟨rfl, rfl⟩ | ⟨g, cap, cur, rfl, e2, hh, r, _, hs, ht⟩⟩ := h
  · omega
  · refine ⟨g, cap, rfl, e2, r, hl, cur, hh, by omega, fun j hj => ?_⟩
    have h3 : (cur.toList.take (n * 1))[j]? = some (.int .u64 (gt ys j)) := by
      rw [ht, wv, List.getElem?_map, gt_get ys j hj]
      rfl
    rw [List.getElem?_take_of_lt (by omega)] at h3
    simpa using h3
theorem wv_succ (m : Nat) (xs : List Nat) (q : Nat) : wv ((List.range q).map (numAt m xs)) ++ [.int .u64 (numAt m xs q)] = wv ((List.range (q + 1)).map (numAt m xs)) := by
  unfold wv
  rw [List.range_succ, List.map_append, List.map_append]
  rfl
theorem owns_below {w w' : World} {base e n : Nat} {v : Value} {vs : List Value} (h : w.ownsRow base e 1 v n vs) (hb : Below w.heap.size w w') : w'.ownsRow base e 1 v n vs := by
  obtain ⟨h1, h2 | ⟨g, cap, cur, e1, e2, hh, r⟩⟩ := h
  · exact ⟨h1, .inl h2⟩
  · exact ⟨h1, .inr ⟨g, cap, cur, e1, e2, (hb.block g ((Array.getElem?_eq_some_iff.1 hh).1)).trans hh, r⟩⟩

set_option maxHeartbeats 4000000 in
theorem reflist_ok (M : Int) (n m : Nat) (ao : Option Addr) (xs : List Nat) (cap : Nat) (w : World) (hx : Wd w ao xs) (hf : Fit xs) (hk : ichk (n : Int) (m : Int) M xs = true) :
    Calls Tryd.prog 22 #[.agg #[.int .i64 n, .int .i64 m, .int .i64 M, .slice ao xs.length cap]] w fun e w' => ∃ v, e = .returned v ∧ w'.ownsRow w.heap.size 31 1 v n (wv ((List.range n).map (numAt m xs))) ∧ Below w.heap.size w w' := by
  obtain ⟨a1, a2, a3, a4, a5, a6, a7, a8⟩ := ichk_out n m M xs hk
  have hn : n ≤ 1048576 := by omega
  have HX : Hid (∀ k : Nat, k < n → ((igX n m M xs k : Nat) : Int) = ((numAt m xs k : Nat) : Int)) := by
    intro k hlt
    unfold igX
    rw [if_pos (igE_of n m M xs k hk (by omega) (by omega)), Int.toNat_natCast, Int.toNat_natCast]
  obtain ⟨i0, hi, hz0, hz1, hz2⟩ := info_parts Tryd.info31
  clear a3 a4 a5
  go_enter Tryd.func22, Tryd.ntmps22
  go_wp2
  go_loopw [3, 4] (fun v i wr => ∃ q : Nat, q ≤ n ∧ i = .int .i64 q ∧ wr.ownsRow (w.heap.size + 1) 31 1 v q (wv ((List.range q).map (numAt m xs))) ∧ Box4 wr w.heap.size (.int .i64 n) (.int .i64 m) (.int .i64 M) (.slice ao xs.length cap) ∧ wr.cell? ⟨w.heap.size, 0, none⟩ = some (.int .i64 n) ∧ Below w.heap.size w wr) (fun _ i _ => n - (intOf i).toNat)
  case atStart => exact ⟨0, Nat.zero_le _, rfl, World.ownsRow_nil _ _ _ _, ⟨by simp, by simp, by simp, by simp, by simp⟩, by simp, below_alloc _ _⟩
  case round =>
    obtain ⟨q, hq, rfl, hown, B, r0, hwr⟩ := hrel
    have hx' := hx.keep hwr
    by_cases hlt : q < n
    · have hlt2 : (q : Int) < (n : Int) := by omega
      have R : Hid (((igX n m M xs q : Nat) : Int) = ((numAt m xs q : Nat) : Int)) := HX.out q hlt
      obtain ⟨bl, b0, b1, b2, b3⟩ := B
      have hlt5 : decide ((q : Int) < (n : Int)) = true := by simpa using hlt2
      go_wp2_with fail
      refine (irefcheck_c _ _ _ _ _ _ _ hx' hf).mono ?_
      rintro e w2 ⟨rfl, hb⟩
      have B : Box4 w2 w.heap.size _ _ _ _ := Box4.keep ⟨bl, b0, b1, b2, b3⟩ hb
      have hx2 := hx'.keep hb
      replace hown := owns_below hown hb
      replace hwr := hwr.trans (hb.mono hwr.size)
      clear hb bl b0 b1 b2 b3 hx' r0
      obtain ⟨bl, b0, b1, b2, b3⟩ := B
      go_wp2_with fail
      refine (irefget_c _ _ _ _ _ _ _ _ hx2 hf).mono ?_
      rintro e w3 ⟨rfl, hb⟩
      have B : Box4 w3 w.heap.size _ _ _ _ := Box4.keep ⟨bl, b0, b1, b2, b3⟩ hb
      replace hown := owns_below hown hb
      replace hwr := hwr.trans (hb.mono hwr.size)
      clear hb bl b0 b1 b2 b3 hx2
      have bl := B.1
      go_wp2_with (at_builtin; refine wpList_append_own _ rfl _ _ 22 rfl (w.heap.size + 1) 31 i0 (.int .u64 0) 1 8 Tryd.underlying22 hi hz0 hz1 hz2 rfl (by decide) _ _ _ rfl (hown.alloc _) ⟨w3.heap.size, 0, none⟩ 1 1 [.int .u64 (igX n m M xs q)] rfl rfl ?c1 ?c2 ?c3 ?c4 ?c5 ?_)
      case c1 =>
        intro j u hj
        match j, hj with
        | 0, hj => simp at hj; subst hj; simp [Addr.add]
      case c2 => intro u hu; simp at hu; subst hu; rfl
      case c3 => unfold maxLen; omega
      case c4 => omega
      case c5 => simp; omega
      intro v' w4 hown4 hgrow _
      have hrow : ∀ k, u3.ownBlock = some k → w.heap.size + 1 ≤ k := fun k hk => (hown.lt k hk).1
      have hb3 : Below (w.heap.size + 1) (w3.alloc (.cells #[.int .u64 (igX n m M xs q)] 31)) w4 := (Below.refl _ _).grown hgrow (by simp; omega) hrow
      have hb4 : Below (w.heap.size + 1) w3 w4 := Below.trans ((Below.refl _ _).alloc (by omega) _) hb3
      have B4 : Box4 w4 w.heap.size (.int .i64 n) (.int .i64 m) (.int .i64 M) (.slice ao xs.length cap) := ⟨Nat.lt_of_lt_of_le bl hb4.size, (hb4.cell (p := ⟨w.heap.size, 0, none⟩) (by simp)).trans B.2.1, (hb4.cell (p := ⟨w.heap.size, 1, none⟩) (by simp)).trans B.2.2.1, (hb4.cell (p := ⟨w.heap.size, 2, none⟩) (by simp)).trans B.2.2.2.1, (hb4.cell (p := ⟨w.heap.size, 3, none⟩) (by simp)).trans B.2.2.2.2⟩
      have hw4 := hwr.trans (hb4.mono (by omega))
      rw [R.out, wv_succ] at hown4
      have HO : Hid (w4.ownsRow (w.heap.size + 1) 31 1 v' (q + 1) (wv ((List.range (q + 1)).map (numAt m xs)))) := hown4
      have s0 := B4.2.1
      clear hgrow hown hb3 hb4 hown4 hrow B bl hwr R
      go_wp2
      first
        | exact ⟨⟨q + 1, by omega, by go_num, HO.out, B4, s0, hw4⟩, by simp only [intOf]; omega⟩
        | (go_roundw
           case rel => exact ⟨q + 1, by omega, by go_num, HO.out, B4, s0, hw4⟩
           case measure => simp only [intOf]; omega)
    · have hqm : q = n := by omega
      have hlt5 : decide ((q : Int) < (n : Int)) = false := by simp; omega
      have HO : Hid (wr.ownsRow w.heap.size 31 1 u3 n (wv ((List.range n).map (numAt m xs)))) := by
        rw [hqm] at hown
        obtain ⟨h1, h2 | ⟨g, c, cur, e1, e2, r⟩⟩ := hown
        · exact ⟨h1, .inl h2⟩
        · exact ⟨h1, .inr ⟨g, c, cur, e1, by omega, r⟩⟩
      clear hqm hown
      go_wp2
      go_ret
      exact ⟨u3, rfl, HO.out, hwr⟩
end Go.Proofs.YtjilehaokignoaaDoor
