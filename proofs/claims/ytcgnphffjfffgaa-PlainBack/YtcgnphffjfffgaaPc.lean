/-
  The contract of the program's counted: an array of eight counts by value.
-/
import Derived.Test.YtcgnphffjfffgaaPb
import Derived.Test.YtcgnphffjfffgaaOn
import Derived.Deep.WholeRow
import Derived.Laws.ResultCell
namespace Go.Proofs.Ytcgnphffjfffgaa
open Go.RowKit Num Bit
set_option linter.unusedVariables false
set_option linter.unusedSimpArgs false
set_option maxRecDepth 100000

theorem info_arr : (Try.prog.info? 57).map (fun i => (i.zero, i.size)) = some (some (.agg (iv (List.replicate 8 0)).toArray), 8) := by kernel_rfl
theorem arr_size (l : List Int) (h : l.length = 8) : (Try.prog.info? 57).map (·.size) = some (iv l).toArray.size := by
  rw [(zero_of_info info_arr).2, List.size_toArray, length_iv, h]
theorem one_iv (l : List Int) : (iv l).toArray.all (·.oneCell') = true := by
  rw [List.all_toArray, List.all_eq_true]
  intro v hv
  obtain ⟨a, _, rfl⟩ := List.mem_map.1 hv
  rfl
theorem cel_iv {w : World} {g : Nat} {l : List Int} {T : TypeId} (h : Cel w g (iv l) T) (j : Nat) (hj : j < l.length) : w.cell? ⟨g, j, none⟩ = some (.int .i64 (gi l j)) := h.cell j (iv_get l j hj)
theorem cel_iset {w : World} {g : Nat} {l : List Int} {T : TypeId} (h : Cel w g (iv l) T) (j : Nat) (v : Int) : Cel (w.setCell ⟨g, j, none⟩ (.int .i64 v)) g (iv (l.set j v)) T := by
  have := h.set j (.int .i64 v)
  rwa [show (iv l).set j (.int .i64 v) = iv (l.set j v) by simp [iv, List.map_set]] at this
theorem alloc_arr {ops : Array Oper} {rest : List Oper} {d : Option Tmp} {ty : TypeId} {ps : String} {af : Array Edge} {a : Act} {w : World} {Q : Exit → Act → World → Prop}
    (h : ∀ w1, Cel w1 w.heap.size (iv (List.replicate 8 0)) 57 → Below w.heap.size w w1 → w.heap.size < w1.heap.size → wpList Try.prog ops Q rest (a.put d (.pointer (some ⟨w.heap.size, 0, none⟩))) w1) :
    wpList Try.prog ops Q (⟨d, .alloc 57, ty, ps, af, none⟩ :: rest) a w := by
  refine wpList_plain rfl fun K hK => ?_
  unfold Oper.wp execOp
  have z := (zero_of_info info_arr).1
  have nw := h _ (Cel.new w _ _) (below_alloc w _) (by simp)
  refine cast ?_ (hK _ _ nw)
  simp [Instr.alloc, Sem.run_bind, z, newVar, Value.cells, go_sem]
theorem store_arr {ops : Array Oper} {rest : List Oper} {d : Option Tmp} {ty : TypeId} {ps : String} {af : Array Edge} {a : Act} {w : World} {Q : Exit → Act → World → Prop} {x y : Operand}
    (g : Nat) (old ys : List Int) (hx : a.eval x = .pointer (some ⟨g, 0, none⟩)) (hy : a.eval y = .agg (iv ys).toArray) (hc : Cel w g (iv old) 57) (lo : old.length = 8) (ly : ys.length = 8)
    (h : ∀ w1, Cel w1 g (iv ys) 57 → Only g w w1 → wpList Try.prog ops Q rest (a.put d undef) w1) :
    wpList Try.prog ops Q (⟨d, .store 57 x y, ty, ps, af, none⟩ :: rest) a w :=
  wpList_store_row rfl _ x y rfl g _ hx hy _ _ hc (arr_size ys ly) (by simp [length_iv, lo, ly]) (one_iv ys) (h _ (setRow_heap w g _ _ _ _ hc) (Only.row g w _))
theorem load_arr {ops : Array Oper} {rest : List Oper} {d : Option Tmp} {ty : TypeId} {ps : String} {af : Array Edge} {a : Act} {w : World} {Q : Exit → Act → World → Prop} {x : Operand}
    (g : Nat) (ys : List Int) (hx : a.eval x = .pointer (some ⟨g, 0, none⟩)) (hc : Cel w g (iv ys) 57) (ly : ys.length = 8)
    (h : wpList Try.prog ops Q rest (a.put d (.agg (iv ys).toArray)) w) :
    wpList Try.prog ops Q (⟨d, .load 57 x, ty, ps, af, none⟩ :: rest) a w :=
  wpList_load_row rfl _ x rfl g hx _ _ _ _ hc Try.underlying57 rfl (arr_size ys ly) h
theorem result_arr {fn : Func} {p : Tmp} {w : World} {tmps : Array Value} {u : Tmp} (h : fn.results = #[.cell p 57, .tmp u]) (g : Nat) (ys : List Int) (ly : ys.length = 8) (hp : tmps.getD p undef = .pointer (some ⟨g, 0, none⟩)) (hc : Cel w g (iv ys) 57) :
    (results fn tmps).run Try.prog w = .ok (.tuple #[.agg (iv ys).toArray, tmps.getD u undef]) w := by
  have hp' : tmps[p]?.getD undef = .pointer (some ⟨g, 0, none⟩) := by simpa using hp
  have hl := run_loadVar_row (P := Try.prog) w g 57 57 (iv ys).toArray (0, 0) _ hc Try.underlying57 rfl (arr_size ys ly)
  simp [results, h, hp', asAddr, hl]

set_option maxHeartbeats 4000000 in
theorem counted_c (ao : Option Addr) (ws : List Nat) (cap : Nat) (w : World) (hx : Wd w ao ws) (hf : Fit ws) (hl : ws.length ≤ 8) :
    Calls Try.prog 32 #[.slice ao ws.length cap] w fun e w' => e = .returned (.tuple #[.agg (iv (ahd ws)).toArray, .int .i64 (cntB ws (64 * ws.length) : Nat)]) ∧ Below w.heap.size w w' := by
  go_enter Try.func32, Try.ntmps32
  go_wp2_with (refine alloc_arr ?_)
  intro w1 hc1 hb1 hs1
  go_wp2_with (refine alloc_arr ?_)
  intro w2 hc2 hb2 hs2
  have hA : Below w.heap.size w w2 := hb1.trans (hb2.mono (by omega))
  have hR := hc1.kept hb2
  have hlt : w.heap.size < w1.heap.size := hs1
  clear hc1 hb1 hs1 hb2 hs2
  generalize w1.heap.size = g at *
  simp only [Act.put, List.setIfInBounds_toArray, List.set]
  go_wp2
  go_loopw [5, 9] (fun t s wr => ∃ q : Nat, q ≤ ws.length ∧ s = .int .i64 q ∧ t = .int .i64 (cntB ws (64 * q) : Nat) ∧ Cel wr g (iv (ahP ws q)) 57 ∧ Cel wr w.heap.size (iv (List.replicate 8 0)) 57 ∧ Below w.heap.size w wr) (fun _ s _ => ws.length - (intOf s).toNat)
  case atStart => exact ⟨0, Nat.zero_le _, rfl, rfl, by rw [ahP_zero]; exact hc2, hR, hA⟩
  case round =>
    obtain ⟨q, hq, rfl, rfl, hc, hr, hb⟩ := hrel
    clear hc2 hR hA
    by_cases hi : q < ws.length
    · have hi2 : (q : Int) < (ws.length : Int) := by omega
      have hi3 : (q : Int) < 8 := by omega
      obtain ⟨b, off, rfl, hbl, hcc⟩ := hx (by omega)
      have e1 := cel_iv hc q (by rw [length_ahP]; omega)
      have fz := hc.frozen q
      have st := cel_iset hc q (cntB ws (64 * q) : Nat)
      rw [ahP_step ws q (by omega)] at st
      have hr2 := hr.other (a := ⟨g, q, none⟩) (by show w.heap.size ≠ g; omega) (.int .i64 (cntB ws (64 * q) : Nat))
      have hb2 : Below w.heap.size w (wr.setCell ⟨g, q, none⟩ (.int .i64 (cntB ws (64 * q) : Nat))) := hb.setCell (by show w.heap.size ≤ g; omega) _
      have e2 := (hb2.cell (p := ⟨b, off + q, none⟩) hbl).trans (hcc q hi)
      have bd := cntB_le ws (64 * q)
      have stp := cntB_step ws q
      have hfq := hf q
      have hp : Hid (popI (gt ws q : Int) = ((cnt (gt ws q) 64 : Nat) : Int)) := by show popI (gt ws q : Int) = _; unfold popI; rw [Int.toNat_natCast]
      have hc64 := cnt_le (gt ws q) 64
      have C : Hid (∀ w0, Calls Try.prog 44 #[.int .u64 (gt ws q : Int)] w0 fun e w' => e = .returned (.int .i64 ((cnt (gt ws q) 64 : Nat) : Int)) ∧ w' = w0) := by
        intro w0
        have := pop_c (gt ws q : Int) (Int.natCast_nonneg _) (Int.ofNat_lt.2 hfq) w0
        rw [hp.out] at this
        exact this
      have HF : Hid (Cel (wr.setCell ⟨g, q, none⟩ (.int .i64 (cntB ws (64 * q) : Nat))) g (iv (ahP ws (q + 1))) 57 ∧ Cel (wr.setCell ⟨g, q, none⟩ (.int .i64 (cntB ws (64 * q) : Nat))) w.heap.size (iv (List.replicate 8 0)) 57 ∧ Below w.heap.size w (wr.setCell ⟨g, q, none⟩ (.int .i64 (cntB ws (64 * q) : Nat)))) := ⟨st, hr2, hb2⟩
      have HS : Hid (cntB ws (64 * (q + 1)) = cntB ws (64 * q) + cnt (gt ws q) 64) := stp
      clear st hr2 hb2 hc hr hb hcc hp stp
      generalize cnt (gt ws q) 64 = D at *
      generalize cntB ws (64 * q) = Z at *
      go_wp2_with fail
      refine (C.out _).mono ?_
      rintro e w4 ⟨rfl, rfl⟩
      go_wp2
      refine ⟨⟨q + 1, by omega, by go_num, ?_, HF.out⟩, by simp only [intOf]; omega⟩
      rw [HS.out]
      go_num
    · obtain rfl : q = ws.length := by omega
      have HB : Hid (Below w.heap.size w wr) := hb
      clear hb hx
      go_wp2_with (first | refine load_arr g _ rfl hc (length_ahP _ _) ?_ | refine store_arr w.heap.size _ _ rfl rfl hr (by simp) (length_ahP _ _) ?_)
      intro w5 hc5 hb5
      have HC : Hid (Cel w5 w.heap.size (iv (ahd ws)) 57) := hc5
      have HB5 : Hid (Below w.heap.size w w5) := HB.out.trans (hb5.below (Nat.le_refl _))
      clear hc5 hb5 hc hr
      go_wp2
      (try simp only [Exit.inBlock, Exit.then])
      exact bodyPost_ret (result_arr rfl w.heap.size (ahd ws) (length_ahd ws) rfl HC.out) rfl ⟨rfl, HB5.out⟩
end Go.Proofs.Ytcgnphffjfffgaa
