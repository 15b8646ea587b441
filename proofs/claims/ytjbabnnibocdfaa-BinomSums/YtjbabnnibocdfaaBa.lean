/-
  The rows of the triangle in arrays: grown and shrunk in place.
-/
import Derived.Test.YtjbabnnibocdfaaRb2
import Derived.Test.YtjbabnnibocdfaaMb
import Derived.Deep.WholeRow
import Derived.Laws.ResultCell
namespace Go.Proofs.Ytjbabnnibocdfaa
open Go.RowKit Num Bn
namespace Ow
set_option linter.unusedVariables false
set_option linter.unusedSimpArgs false
set_option maxRecDepth 100000

theorem cel_wv {w : World} {g : Nat} {ys : List Nat} {T : TypeId} (h : Cel w g (wv ys) T) (j : Nat) (hj : j < ys.length) : w.cell? ⟨g, j, none⟩ = some (.int .u64 (gt ys j)) :=
  h.cell j (by simp [wv, gt_get ys j hj])
theorem cel_set {w : World} {g : Nat} {ys : List Nat} {T : TypeId} (h : Cel w g (wv ys) T) (j v : Nat) : Cel (w.setCell ⟨g, j, none⟩ (.int .u64 v)) g (wv (ys.set j v)) T := by
  have := h.set j (.int .u64 v)
  rwa [show (wv ys).set j (.int .u64 v) = wv (ys.set j v) by simp [wv, List.map_set]] at this
theorem pas_back (n i q : Nat) (hi : 1 ≤ i) (hq : q + 1 ≤ n) : (pas n i q).set (q + 1) (ch i (q + 1) - ch (i - 1) q) = pas n i (q + 1) := by
  refine list_ext (by rw [List.length_set, length_pas, length_pas]) fun t ht => ?_
  rw [List.length_set, length_pas] at ht
  rw [gt_set _ _ _ _ (by rw [length_pas]; omega), gt_pas _ _ _ _ (by omega), gt_pas _ _ _ _ (by omega)]
  by_cases c : q + 1 = t
  · subst c
    obtain ⟨a, rfl⟩ : ∃ a, i = a + 1 := ⟨i - 1, by omega⟩
    rw [if_pos rfl, if_neg (by omega), ch_succ, Nat.add_sub_cancel]
    omega
  · rw [if_neg c]
    by_cases d : q < t
    · rw [if_pos d, if_pos (by omega)]
    · rw [if_neg d, if_neg (by omega)]

set_option maxHeartbeats 2000000 in
theorem grow_c (g i : Nat) (hi : i < 62) (w : World) (h : Cel w g (wv (rowP 62 i)) 38) :
    Calls Try.prog 23 #[.pointer (some ⟨g, 0, none⟩), .int .i64 i] w fun e w' => e = .returned (.tuple #[]) ∧ Cel w' g (wv (rowP 62 (i + 1))) 38 ∧ Below g w w' := by
  go_enter Try.func23, Try.ntmps23
  go_wp2
  go_loopw [4] (fun j wz => ∃ q : Nat, q ≤ i + 1 ∧ j = .int .i64 q ∧ Cel wz g (wv (pas 62 (i + 1) q)) 38 ∧ Below g w wz) (fun j _ => (intOf j).toNat)
  case atStart => exact ⟨i + 1, Nat.le_refl _, by go_num, by rw [pas_first]; exact h, Below.refl _ _⟩
  case round =>
    obtain ⟨q, hq, rfl, hOz, hwz⟩ := hrel
    clear h
    by_cases h0 : q = 0
    · subst h0
      rw [pas_last] at hOz
      have HO : Hid (Cel wr g (wv (rowP 62 (i + 1))) 38) := hOz
      clear hOz
      go_wp2
      refine bodyPost_end (results_none rfl _ _ _) rfl ?_
      exact ⟨rfl, HO.out, hwz⟩
    · have q0 : (0 : Int) < (q : Int) := by omega
      have e1 := cel_wv hOz q (by rw [length_pas]; omega)
      have e2 := cel_wv hOz (q - 1) (by rw [length_pas]; omega)
      have fz := hOz.frozen q
      have l1 : (q : Int) < 63 := by omega
      have l2 : (q : Int) - 1 < 63 := by omega
      rw [gt_pas _ _ _ _ (by omega), if_neg (by omega), Nat.add_sub_cancel] at e1 e2
      have b1 := ch62 i q (by omega)
      have b2 := ch62 i (q - 1) (by omega)
      have st := cel_set hOz q (ch i q + ch i (q - 1))
      have ps := pas_step 62 (i + 1) q (by omega) (by omega) (by omega)
      rw [Nat.add_sub_cancel] at ps
      rw [ps] at st
      have HO : Hid (Cel (wr.setCell ⟨g, q, none⟩ (.int .u64 ((ch i q + ch i (q - 1) : Nat) : Int))).drew g (wv (pas 62 (i + 1) (q - 1))) 38) := st
      have HB : Hid (Below g w (wr.setCell ⟨g, q, none⟩ (.int .u64 ((ch i q + ch i (q - 1) : Nat) : Int))).drew) := (hwz.setCell (Nat.le_refl _) _).drew
      have ez : ((q : Int) - 1).toNat = q - 1 := by omega
      have ad : IntKind.u64.wrap ((ch i q : Int) + (ch i (q - 1) : Int)) = ((ch i q + ch i (q - 1) : Nat) : Int) := by rw [IntKind.wrap_u64]; omega
      clear st ps hOz
      generalize ch i q = A at *
      generalize ch i (q - 1) = B at *
      go_wp2
      go_region
      go_wp2
      exact ⟨⟨q - 1, by omega, by go_num, HO.out, HB.out⟩, by simp only [intOf]; omega⟩

set_option maxHeartbeats 2000000 in
theorem shrink_c (g i : Nat) (h1 : 1 ≤ i) (hi : i ≤ 62) (w : World) (h : Cel w g (wv (rowP 62 i)) 38) :
    Calls Try.prog 26 #[.pointer (some ⟨g, 0, none⟩), .int .i64 i] w fun e w' => e = .returned (.tuple #[]) ∧ Cel w' g (wv (rowP 62 (i - 1))) 38 ∧ Below g w w' := by
  go_enter Try.func26, Try.ntmps26
  go_wp2
  go_loopw [4] (fun j wz => ∃ q : Nat, q ≤ i ∧ j = .int .i64 ((q : Int) + 1) ∧ Cel wz g (wv (pas 62 i q)) 38 ∧ Below g w wz) (fun j _ => (i + 1 - intOf j).toNat)
  case atStart => exact ⟨0, Nat.zero_le _, by go_num, by rw [pas_last]; exact h, Below.refl _ _⟩
  case round =>
    obtain ⟨q, hq, rfl, hOz, hwz⟩ := hrel
    clear h
    by_cases h0 : q = i
    · subst h0
      rw [pas_first] at hOz
      have HO : Hid (Cel wr g (wv (rowP 62 (q - 1))) 38) := hOz
      clear hOz
      go_wp2
      refine bodyPost_end (results_none rfl _ _ _) rfl ?_
      exact ⟨rfl, HO.out, hwz⟩
    · have q0 : (q : Int) + 1 ≤ (i : Int) := by omega
      have e1 := cel_wv hOz (q + 1) (by rw [length_pas]; omega)
      have e2 := cel_wv hOz q (by rw [length_pas]; omega)
      have fz := hOz.frozen (q + 1)
      have l1 : (q : Int) + 1 < 63 := by omega
      have l2 : (q : Int) < 63 := by omega
      rw [gt_pas _ _ _ _ (by omega), if_pos (by omega)] at e1
      rw [gt_pas _ _ _ _ (by omega), if_neg (by omega)] at e2
      have b1 := ch62 i (q + 1) (by omega)
      have le : ch (i - 1) q ≤ ch i (q + 1) := by
        obtain ⟨a, rfl⟩ : ∃ a, i = a + 1 := ⟨i - 1, by omega⟩
        rw [ch_succ, Nat.add_sub_cancel]
        omega
      have st := cel_set hOz (q + 1) (ch i (q + 1) - ch (i - 1) q)
      rw [pas_back 62 i q h1 (by omega)] at st
      have HO : Hid (Cel (wr.setCell ⟨g, q + 1, none⟩ (.int .u64 ((ch i (q + 1) - ch (i - 1) q : Nat) : Int))).drew g (wv (pas 62 i (q + 1))) 38) := st
      have HB : Hid (Below g w (wr.setCell ⟨g, q + 1, none⟩ (.int .u64 ((ch i (q + 1) - ch (i - 1) q : Nat) : Int))).drew) := (hwz.setCell (Nat.le_refl _) _).drew
      have ez : ((q : Int) + 1).toNat = q + 1 := by omega
      have ad : IntKind.u64.wrap ((ch i (q + 1) : Int) - (ch (i - 1) q : Int)) = ((ch i (q + 1) - ch (i - 1) q : Nat) : Int) := by rw [IntKind.wrap_u64]; omega
      have ad2 : ((ch i (q + 1) : Int) - (ch (i - 1) q : Int)) = ((ch i (q + 1) - ch (i - 1) q : Nat) : Int) := by omega
      clear st hOz
      generalize ch i (q + 1) = A at *
      generalize ch (i - 1) q = B at *
      go_wp2
      go_region
      go_wp2
      exact ⟨⟨q + 1, by omega, by go_num, HO.out, HB.out⟩, by simp only [intOf]; omega⟩

theorem info_row : (Try.prog.info? 38).map (fun i => (i.zero, i.size)) = some (some (.agg (wv (List.replicate 63 0)).toArray), 63) := by kernel_rfl
theorem built_row : Try.prog.built 38 [(0, .int .u64 1)] = some (wv ((List.replicate 63 0).set 0 1)).toArray := by kernel_rfl
theorem one_wv (ys : List Nat) : (wv ys).toArray.all (·.oneCell') = true := by
  rw [Array.all_eq_true_iff_forall_mem]
  intro v hv
  simp only [wv, List.mem_toArray, List.mem_map] at hv
  obtain ⟨y, _, rfl⟩ := hv
  rfl
end Ow
end Go.Proofs.Ytjbabnnibocdfaa
