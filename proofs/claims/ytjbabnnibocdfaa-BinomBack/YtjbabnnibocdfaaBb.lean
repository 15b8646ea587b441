/-
  A row of the triangle by value: made, laid into a variable, handed back.
-/
import Derived.Test.YtjbabnnibocdfaaBa
namespace Go.Proofs.Ytjbabnnibocdfaa
open Go.RowKit Num Bn
namespace Ow
set_option linter.unusedVariables false
set_option linter.unusedSimpArgs false
set_option maxRecDepth 100000

theorem row_size (ys : List Nat) (h : ys.length = 63) : (Try.prog.info? 38).map (·.size) = some (wv ys).toArray.size := by
  rw [(zero_of_info info_row).2, List.size_toArray, length_wv, h]
theorem below_row (w : World) (g : Nat) (cs : Array Value) : Below g w (w.setRow g cs) := by
  refine ⟨rfl, rfl, rfl, ?_, fun k hk => ?_⟩
  · simp [World.setRow]
  · simp only [World.setRow, Array.getElem?_modify]
    rw [if_neg (by omega)]
theorem alloc_row {ops : Array Oper} {rest : List Oper} {d : Option Tmp} {ty : TypeId} {ps : String} {af : Array Edge} {a : Act} {w : World} {Q : Exit → Act → World → Prop}
    (h : ∀ w1, Cel w1 w.heap.size (wv (List.replicate 63 0)) 38 → Below w.heap.size w w1 → w.heap.size < w1.heap.size → wpList Try.prog ops Q rest (a.put d (.pointer (some ⟨w.heap.size, 0, none⟩))) w1) :
    wpList Try.prog ops Q (⟨d, .alloc 38, ty, ps, af, none⟩ :: rest) a w := by
  refine wpList_plain rfl fun K hK => ?_
  unfold Oper.wp execOp
  have z := (zero_of_info info_row).1
  have nw := h _ (Cel.new w _ _) (below_alloc w _) (by simp)
  refine cast ?_ (hK _ _ nw)
  simp [Instr.alloc, Sem.run_bind, z, newVar, Value.cells, go_sem]
theorem build_row {ops : Array Oper} {rest : List Oper} {d : Option Tmp} {ty : TypeId} {ps : String} {af : Array Edge} {a : Act} {w : World} {Q : Exit → Act → World → Prop}
    (h : wpList Try.prog ops Q rest (a.put d (.agg (wv (rowP 62 0)).toArray)) w) :
    wpList Try.prog ops Q (⟨d, .build 38 #[(0, .const (.int .u64 1))], ty, ps, af, none⟩ :: rest) a w := by
  have e : Try.prog.built 38 ((#[((0 : Nat), Operand.const (.int .u64 1))].map fun (i, x) => (i, a.eval x)).toList) = some (wv (rowP 62 0)).toArray := by
    rw [← row_start 62, ← built_row]
    congr 1
    simp
    rfl
  refine wpList_build rfl _ _ rfl (by rw [e]; rfl) ?_
  rw [e]
  exact h
theorem store_row {ops : Array Oper} {rest : List Oper} {d : Option Tmp} {ty : TypeId} {ps : String} {af : Array Edge} {a : Act} {w : World} {Q : Exit → Act → World → Prop} {x y : Operand}
    (g : Nat) (old ys : List Nat) (hx : a.eval x = .pointer (some ⟨g, 0, none⟩)) (hy : a.eval y = .agg (wv ys).toArray) (hc : Cel w g (wv old) 38) (lo : old.length = 63) (ly : ys.length = 63)
    (h : ∀ w1, Cel w1 g (wv ys) 38 → Below g w w1 → wpList Try.prog ops Q rest (a.put d undef) w1) :
    wpList Try.prog ops Q (⟨d, .store 38 x y, ty, ps, af, none⟩ :: rest) a w :=
  wpList_store_row rfl _ x y rfl g _ hx hy _ _ hc (row_size ys ly) (by simp [length_wv, lo, ly]) (one_wv ys) (h _ (setRow_heap w g _ _ _ _ hc) (below_row w g _))
theorem load_row {ops : Array Oper} {rest : List Oper} {d : Option Tmp} {ty : TypeId} {ps : String} {af : Array Edge} {a : Act} {w : World} {Q : Exit → Act → World → Prop} {x : Operand}
    (g : Nat) (ys : List Nat) (hx : a.eval x = .pointer (some ⟨g, 0, none⟩)) (hc : Cel w g (wv ys) 38) (ly : ys.length = 63)
    (h : wpList Try.prog ops Q rest (a.put d (.agg (wv ys).toArray)) w) :
    wpList Try.prog ops Q (⟨d, .load 38 x, ty, ps, af, none⟩ :: rest) a w :=
  wpList_load_row rfl _ x rfl g hx _ _ _ _ hc Try.underlying38 rfl (row_size ys ly) h

set_option maxHeartbeats 2000000 in
theorem rowOf_c (n : Nat) (hn : n ≤ 62) (w : World) :
    Calls Try.prog 20 #[.int .i64 n] w fun e w' => e = .returned (.agg (wv (rowP 62 n)).toArray) ∧ Below w.heap.size w w' := by
  have G : Hid (∀ (g i : Nat), i < 62 → ∀ w, Cel w g (wv (rowP 62 i)) 38 → Calls Try.prog 23 #[.pointer (some ⟨g, 0, none⟩), .int .i64 i] w fun e w' => e = .returned (.tuple #[]) ∧ Cel w' g (wv (rowP 62 (i + 1))) 38 ∧ Below g w w') := grow_c
  go_enter Try.func20, Try.ntmps20
  go_wp2_with (refine alloc_row ?_)
  intro w1 hc1 hb1 hs1
  go_wp2_with (first | refine build_row ?_ | refine alloc_row ?_)
  intro w2 hc2 hb2 hs2
  go_wp2_with (refine store_row w1.heap.size _ _ rfl rfl hc2 (by simp) (length_rowP 62 0) ?_)
  intro w3 hc3 hb3
  have hA : Below w.heap.size w w3 := (hb1.trans (hb2.mono (by omega))).trans (hb3.mono (by omega))
  have hR := (hc1.kept hb2).keep hb3 hs1
  have hlt : w.heap.size < w1.heap.size := hs1
  clear hc1 hb1 hs1 hc2 hb2 hs2 hb3 w2
  go_wp2
  generalize w1.heap.size = g at *
  go_loopw [4, 7] (fun _ s wr => ∃ i : Nat, i ≤ n ∧ s = .int .i64 i ∧ Cel wr g (wv (rowP 62 i)) 38 ∧ Cel wr w.heap.size (wv (List.replicate 63 0)) 38 ∧ Below w.heap.size w wr) (fun _ s _ => n - (intOf s).toNat)
  case atStart => exact ⟨0, Nat.zero_le _, rfl, hc3, hR, hA⟩
  case round =>
    obtain ⟨i, hin, rfl, hc, hr, hb⟩ := hrel
    clear hc3 hR hA
    by_cases hi : i < n
    · have hi2 : (i : Int) < (n : Int) := by omega
      go_wp2_with fail
      refine (G.out g i (by omega) _ hc).mono ?_
      rintro e w4 ⟨rfl, hc4, hb4⟩
      have hr4 := hr.keep hb4 hlt
      have hb5 := hb.trans (hb4.mono (by omega))
      clear hc hr hb hb4
      go_wp2
      exact ⟨⟨i + 1, by omega, by go_num, hc4, hr4, hb5⟩, by simp only [intOf]; omega⟩
    · obtain rfl : i = n := by omega
      have HB : Hid (Below w.heap.size w wr) := hb
      clear hb G
      go_wp2_with (first | refine load_row g _ rfl hc (length_rowP 62 i) ?_ | refine store_row w.heap.size _ _ rfl rfl hr (by simp) (length_rowP 62 i) ?_)
      intro w5 hc5 hb5
      have HC : Hid (Cel w5 w.heap.size (wv (rowP 62 i)) 38) := hc5
      have HB5 : Hid (Below w.heap.size w w5) := HB.out.trans hb5
      clear hc5 hb5 hc hr
      go_wp2
      (try simp only [Exit.inBlock, Exit.then])
      exact bodyPost_ret (results_cell_row rfl _ _ _ _ _ _ _ rfl HC.out Try.underlying38 rfl (row_size _ (length_rowP 62 i))) rfl ⟨rfl, HB5.out⟩
end Ow
end Go.Proofs.Ytjbabnnibocdfaa
