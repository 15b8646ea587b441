/-
  The library's Clone at words.
-/
import Derived.Test.YtcgnphffjfffgaaRa
import Derived.Test.YtcgnphffjfffgaaAp
import Derived.Test.YtcgnphffjfffgaaMb
import Derived.Laws.Cover3
namespace Go.Proofs.Ytcgnphffjfffgaa
open Go.RowKit Num Bit
set_option linter.unusedVariables false
set_option linter.unusedSimpArgs false
set_option maxRecDepth 100000
theorem info52 : (Try.prog.info? 52).map (fun i => (i.zero, i.size, i.bytes)) = some (some (.int .u64 0), 1, 8) := by kernel_rfl
def wv (ys : List Nat) : List Value := ys.map fun y : Nat => Value.int .u64 (y : Int)
theorem length_wv (ys : List Nat) : (wv ys).length = ys.length := by simp [wv]
theorem wv_get (l : List Nat) (i : Nat) (h : i < l.length) : (wv l)[i]? = some (.int .u64 (gt l i)) := by
  unfold wv
  rw [List.getElem?_map, gt_get l i h]; rfl
theorem wd_own {w : World} {base n c : Nat} {ao : Option Addr} {l : List Nat} (h : w.ownsRow base 52 1 (.slice ao n c) n (wv l)) : Wd w ao l := by
  intro h0
  have hlen : (wv l).length = n * 1 := h.1
  rw [length_wv] at hlen
  have hk := fun k hk => h.lt k hk
  have hc := fun g hg => h.cells (g := g) hg
  obtain ⟨_, ⟨e, e2⟩ | ⟨g, cap, cur, e, _⟩⟩ := h
  · omega
  · simp only [Value.slice.injEq] at e
    obtain ⟨rfl, _, rfl⟩ := e
    refine ⟨g, 0, rfl, (hk g rfl).2, fun i hi => ?_⟩
    rw [← hc g rfl i _ (wv_get l i hi)]
    unfold Addr.add
    split
    · subst_vars; rfl
    · simp
theorem eq_nil (a : Option Addr) (l c : Nat) (w : World) : (binOp .eql 22 (.slice a l c) (.slice none 0 0)).run Try.prog w = .ok (.bool a.isNone) w := by
  simp only [binOp]
  simp [run_equal_slice_nil w 22 52 a l c Try.underlying22]
set_option maxHeartbeats 2000000 in
theorem clone_c (ao : Option Addr) (xs : List Nat) (cap : Nat) (w : World) (hx : Wd w ao xs) (hl : xs.length ≤ 1048576) :
    Calls Try.prog 43 #[.slice ao xs.length cap] w fun e w' => ∃ bo bc, e = .returned (.slice bo xs.length bc) ∧ Wd w' bo xs ∧ xs.length ≤ bc ∧ Below w.heap.size w w' := by
  cases ao with
  | none =>
    have h0 : xs = [] := by
      cases xs with
      | nil => rfl
      | cons a t =>
        obtain ⟨b, off, e, _⟩ := hx (by simp)
        cases e
    subst h0
    have hq := eq_nil none 0 cap
    have hq2 : (none : Option Addr).isNone = true := rfl
    go_enter Try.func43, Try.ntmps43
    go_wp2
    go_ret
    exact ⟨none, 0, rfl, wd0' _ _, Nat.le_refl _, Below.refl _ _⟩
  | some a =>
    obtain ⟨i0, hi, hz0, hz1, hz2⟩ := info_parts info52
    have hq := eq_nil (some a) xs.length cap
    have hq2 : (some a).isNone = false := rfl
    go_enter Try.func43, Try.ntmps43
    go_wp2_with (at_builtin; refine Ap.wpList_append_u (by rfl) _ _ _ (by rfl) w.heap.size 52 i0 (.int .u64 0) 8 Try.underlying22 hi hz0 hz1 hz2 rfl (.slice (some ⟨w.heap.size, 0, none⟩) 0 0) 0 [] (by rfl) ?c0 (some a) xs.length cap (wv xs) (by rfl) (length_wv xs) ?c1 ?c2 ?c3 ?c4 ?c5 ?_)
    case c0 =>
      exact ⟨rfl, .inr ⟨w.heap.size, 0, #[], rfl, Nat.le_refl _, Cel.new w [] 52, Nat.le_refl _, by simp⟩⟩
    case c1 =>
      intro h0
      refine ⟨a, rfl, fun j u hj => ?_⟩
      obtain ⟨b, off, e, hlt, hc⟩ := hx h0
      obtain rfl := Option.some.inj e
      have hjl : j < xs.length := by
        have := (List.getElem?_eq_some_iff.1 hj).1
        rw [length_wv] at this
        exact this
      rw [wv_get xs j hjl] at hj
      obtain rfl := Option.some.inj hj
      rw [show (Addr.add ⟨b, off, none⟩ j) = ⟨b, off + j, none⟩ by unfold Addr.add; split <;> (try subst_vars) <;> rfl]
      rw [(below_alloc w _).cell (p := ⟨b, off + j, none⟩) hlt]
      exact hc j hjl
    case c2 => intro u hu; obtain ⟨y, _, rfl⟩ := List.mem_map.1 hu; rfl
    case c3 => unfold maxLen; omega
    case c4 => omega
    case c5 => simp
    intro bo bc w1 hown hle hb
    have hB : Below w.heap.size w w1 := (below_alloc w _).trans hb
    have hW := wd_own hown
    have HF : Hid (Wd w1 bo xs ∧ xs.length ≤ bc ∧ Below w.heap.size w w1) := ⟨hW, hle, hB⟩
    clear hown hb hW hB hx hq hi hz0 hz1 hz2
    go_wp2
    go_ret
    exact ⟨bo, bc, rfl, HF.out⟩
end Go.Proofs.Ytcgnphffjfffgaa
