/-
  Own rows of numbers, arrays by value laid in a block; the contract of slices.Clone at numbers.
-/
import Derived.Test.YtbkagloonlddfaaSc
import Derived.Test.YtbkagloonlddfaaRg
import Derived.Test.YtbkagloonlddfaaRi
import Derived.Deep.WholeRow
namespace Go.Proofs.Ytbkagloonlddfaa
open Go.RowKit
set_option linter.unusedVariables false
set_option linter.unusedSimpArgs false
set_option maxRecDepth 100000

/-- A row of numbers that is its maker's own. -/
structure OR (w : World) (base : Nat) (g cap : Nat) (l : List Nat) : Prop where
  own : w.ownsRow base 3 1 (.slice (some ⟨g, 0, none⟩) l.length cap) l.length (iv l)
theorem OR.cell {w : World} {base g cap : Nat} {l : List Nat} (h : OR w base g cap l) (j : Nat) (hj : j < l.length) : w.cell? ⟨g, j, none⟩ = some (.int .i64 (gt l j)) := by
  rw [h.own.cellAt j (by omega), iv_get l j hj]
theorem OR.lt {w : World} {base g cap : Nat} {l : List Nat} (h : OR w base g cap l) : base ≤ g ∧ g < w.heap.size := h.own.lt g rfl
theorem OR.nd {w : World} {base g cap : Nat} {l : List Nat} (h : OR w base g cap l) : Nd w (some ⟨g, 0, none⟩) (toI l) := by
  intro h0
  rw [length_toI] at h0
  refine ⟨g, 0, rfl, h.lt.2, fun i hi => ?_⟩
  rw [length_toI] at hi
  rw [gi_toI, Nat.zero_add]
  exact h.cell i hi
theorem own_nil_app {w : World} {base : Nat} {l : List Nat} {ao : Option Addr} {cap : Nat} (h : w.ownsRow base 3 1 (.slice ao l.length cap) l.length (iv l)) (h0 : 0 < l.length) : ∃ g, ao = some ⟨g, 0, none⟩ := by
  obtain ⟨_, ⟨e, e2⟩ | ⟨g, c, cur, e, _⟩⟩ := h
  · omega
  · simp only [Value.slice.injEq] at e
    exact ⟨g, e.1⟩
theorem alloc_z {ops : Array Oper} {rest : List Oper} {d : Option Tmp} {ty T : TypeId} {ps : String} {af : Array Edge} {a : Act} {w : World} {Q : Exit → Act → World → Prop} (z : List Value)
    (hz : (Try.prog.info? T).map (fun i => (i.zero, i.size)) = some (some (.agg z.toArray), z.length))
    (h : ∀ w1, Cel w1 w.heap.size z T → Below w.heap.size w w1 → w.heap.size < w1.heap.size → wpList Try.prog ops Q rest (a.put d (.pointer (some ⟨w.heap.size, 0, none⟩))) w1) :
    wpList Try.prog ops Q (⟨d, .alloc T, ty, ps, af, none⟩ :: rest) a w := by
  refine wpList_plain rfl fun K hK => ?_
  unfold Oper.wp execOp
  have zz := (zero_of_info hz).1
  have nw := h _ (Cel.new w _ _) (below_alloc w _) (by simp)
  refine cast ?_ (hK _ _ nw)
  simp [Instr.alloc, Sem.run_bind, zz, newVar, Value.cells, go_sem]
theorem info_ta : (Try.prog.info? 37).map (fun i => (i.zero, i.size)) = some (some (.agg (iv (List.replicate 256 0)).toArray), (iv (List.replicate 256 0)).length) := by kernel_rfl
theorem dbl {v : Value} {n : Nat} {l : List Value} (h : l = List.replicate n v) : List.append l l = List.replicate (n + n) v := by
  rw [h]; exact List.replicate_append_replicate
theorem zero_fl : Try.t39.zero = some (Value.agg (List.replicate 65536 (Value.int .i64 0)).toArray) := by
  unfold Try.t39
  have h : ∀ l : List Value, l = List.replicate 65536 (Value.int .i64 0) → some (Value.agg l.toArray) = some (Value.agg (List.replicate 65536 (Value.int .i64 0)).toArray) := fun l h => by rw [h]
  refine h _ ?_
  refine dbl (n := 32768) ?_
  refine dbl (n := 16384) ?_
  refine dbl (n := 8192) ?_
  refine dbl (n := 4096) ?_
  refine dbl (n := 2048) ?_
  refine dbl (n := 1024) ?_
  refine dbl (n := 512) ?_
  refine dbl (n := 256) ?_
  refine dbl (n := 128) ?_
  refine dbl (n := 64) ?_
  rfl
theorem info_fl0 : (Try.prog.info? 39).map (fun i => (i.zero, i.size)) = some (Try.t39.zero, 65536) := by kernel_rfl
theorem iv_rep0 (n : Nat) : iv (List.replicate n 0) = List.replicate n (Value.int .i64 0) := by
  unfold iv
  rw [List.map_replicate]
  rfl
theorem info_fl : (Try.prog.info? 39).map (fun i => (i.zero, i.size)) = some (some (.agg (iv (List.replicate 65536 0)).toArray), (iv (List.replicate 65536 0)).length) := by
  rw [info_fl0, zero_fl, length_iv, List.length_replicate, iv_rep0]
theorem eq_niln (a : Option Addr) (l c : Nat) (w : World) : (binOp .eql 24 (.slice a l c) (.slice none 0 0)).run Try.prog w = .ok (.bool a.isNone) w := by
  simp only [binOp]
  simp [run_equal_slice_nil w 24 3 a l c Try.underlying24]
set_option maxHeartbeats 2000000 in
theorem sclone_c (g : Nat) (l : List Nat) (cap : Nat) (T : TypeId) (w : World) (hx : Cel w g (iv l) T) (h0 : 0 < l.length) (hl : l.length ≤ 1048576) :
    Calls Try.prog 21 #[.slice (some ⟨g, 0, none⟩) l.length cap] w fun e w' => ∃ gc bc, e = .returned (.slice (some ⟨gc, 0, none⟩) l.length bc) ∧ OR w' w.heap.size gc bc l ∧ l.length ≤ bc ∧ Below w.heap.size w w' := by
  obtain ⟨i0, hi, hz0, hz1, hz2⟩ := info_parts Try.info3
  have hq := eq_niln (some ⟨g, 0, none⟩) l.length cap
  have hq2 : (some (⟨g, 0, none⟩ : Addr)).isNone = false := rfl
  go_enter Try.func21, Try.ntmps21
  go_wp2_with (at_builtin; refine Ap.wpList_append_u (by rfl) _ _ _ (by rfl) w.heap.size 3 i0 (.int .i64 0) 8 Try.underlying24 hi hz0 hz1 hz2 rfl (.slice (some ⟨w.heap.size, 0, none⟩) 0 0) 0 [] (by rfl) ?c0 (some ⟨g, 0, none⟩) l.length cap (iv l) (by rfl) (length_iv l) ?c1 ?c2 ?c3 ?c4 ?c5 ?_)
  case c0 => exact ⟨rfl, .inr ⟨w.heap.size, 0, #[], rfl, Nat.le_refl _, Cel.new w [] 3, Nat.le_refl _, by simp⟩⟩
  case c1 =>
    intro _
    refine ⟨_, rfl, fun j u hj => ?_⟩
    have hx2 := hx.alloc (.cells #[] 3)
    rw [show (Addr.add ⟨g, 0, none⟩ j) = ⟨g, j, none⟩ by unfold Addr.add; split <;> (try subst_vars) <;> simp]
    exact hx2.cell j hj
  case c2 => intro u hu; obtain ⟨y, _, rfl⟩ := List.mem_map.1 hu; rfl
  case c3 => unfold maxLen; omega
  case c4 => omega
  case c5 => simp
  intro bo bc w1 hown hle hb
  have hB : Below w.heap.size w w1 := (below_alloc w _).trans hb
  obtain ⟨gc, rfl⟩ := own_nil_app hown h0
  have HF : Hid (OR w1 w.heap.size gc bc l ∧ l.length ≤ bc ∧ Below w.heap.size w w1) := ⟨⟨hown⟩, hle, hB⟩
  clear hown hb hB hx hq hi hz0 hz1 hz2
  go_wp2
  go_ret
  exact ⟨gc, bc, rfl, HF.out⟩
end Go.Proofs.Ytbkagloonlddfaa
