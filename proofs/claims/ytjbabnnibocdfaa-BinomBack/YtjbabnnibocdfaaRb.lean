/-
  The contract of the document's Choose.
-/
import Derived.Test.YtjbabnnibocdfaaOw
namespace Go.Proofs.Ytjbabnnibocdfaa
open Go.RowKit Num Bn
namespace Ow
set_option linter.unusedVariables false
set_option linter.unusedSimpArgs false
set_option maxRecDepth 100000

theorem rchoose_out (n k : Int) (h : n < 0 ∨ 62 < n ∨ k < 0 ∨ n < k) (w : World) :
    Calls Try.prog 16 #[.int .i64 n, .int .i64 k] w fun e w' => e = .returned (.int .u64 0) ∧ Below w.heap.size w w' := by
  by_cases h1 : n < 0
  · go_enter Try.func16, Try.ntmps16
    go_wp2
    go_ret
    exact ⟨rfl, Below.refl _ _⟩
  by_cases h2 : 62 < n
  · go_enter Try.func16, Try.ntmps16
    go_wp2
    go_ret
    exact ⟨rfl, Below.refl _ _⟩
  by_cases h3 : k < 0
  · go_enter Try.func16, Try.ntmps16
    go_wp2
    go_ret
    exact ⟨rfl, Below.refl _ _⟩
  · have h4 : n < k := by omega
    clear h
    go_enter Try.func16, Try.ntmps16
    go_wp2
    go_ret
    exact ⟨rfl, Below.refl _ _⟩

set_option maxHeartbeats 2000000 in
theorem rchoose_in (n k : Nat) (hn : n ≤ 62) (hk : k ≤ n) (w : World) :
    Calls Try.prog 16 #[.int .i64 n, .int .i64 k] w fun e w' => e = .returned (.int .u64 (ch n k)) ∧ Below w.heap.size w w' := by
  obtain ⟨i0, hi, hz0, hz1, hz2⟩ := info_parts info64
  have hn2 : (n : Int) ≤ 62 := by omega
  have hk2 : (k : Int) ≤ n := by omega
  go_enter Try.func16, Try.ntmps16
  go_wp2_with (at_make; refine wpList_make_full _ rfl _ _ 43 rfl w.heap.size 22 i0 (.int .u64 0) 1 Try.underlying43 hi hz0 hz1 .i64 .i64 _ _ (n + 1) rfl rfl rfl rfl ?b2 ?b3 ?b4 ?_)
  case b2 => rw [hz2]; omega
  case b3 => unfold maxLen; omega
  case b4 => omega
  intro w1 hown hgr
  have hO : Own w1 w.heap.size (List.replicate (n + 1) 0) := own_made hown
  have hb1 : Below w.heap.size w w1 := (Below.refl _ _).grown hgr (Nat.le_refl _) (fun k h => by cases h)
  clear hown hgr hi hz0 hz1 hz2
  have c0 := hO.cell 0 (by simp)
  have f0 := hO.frozen 0
  have hO2 := hO.set 0 1
  rw [row_start] at hO2
  have hb2 : Below w.heap.size w (w1.setCell ⟨w.heap.size, 0, none⟩ (.int .u64 ((1 : Nat) : Int))) := hb1.setCell (Nat.le_refl _) _
  have hl : (0 : Int) < (n : Int) + 1 := by omega
  go_wp2
  go_loopw [6, 7] (fun i j wr => ∃ p : Nat, 1 ≤ p ∧ p ≤ n + 1 ∧ i = .int .i64 p ∧ Own wr w.heap.size (rowP n (p - 1)) ∧ Below w.heap.size w wr) (fun i _ _ => n + 1 - (intOf i).toNat)
  case atStart => exact ⟨1, Nat.le_refl _, by omega, rfl, hO2, hb2⟩
  case round =>
    obtain ⟨p, hp1, hp2, rfl, hOr, hwr⟩ := hrel
    clear hO hO2 hb1 hb2 c0 f0
    by_cases hlt : p ≤ n
    · have hlt2 : (p : Int) ≤ (n : Int) := by omega
      go_wp2
      go_loopw [7] (fun j wz => ∃ q : Nat, q ≤ p ∧ j = .int .i64 q ∧ Own wz w.heap.size (pas n p q) ∧ Below w.heap.size w wz) (fun j _ => (intOf j).toNat)
      case atStart => exact ⟨p, Nat.le_refl _, rfl, by rw [pas_first]; exact hOr, hwr⟩
      case round =>
        obtain ⟨q, hq, rfl, hOz, hwz⟩ := hrel
        clear hOr hwr
        by_cases h0 : q = 0
        · subst h0
          rw [pas_last] at hOz
          have HO : Hid (Own wr w.heap.size (rowP n p)) := hOz
          clear hOz
          go_wp2
          exact ⟨⟨p + 1, by omega, by omega, by go_num, HO.out, hwz⟩, by simp only [intOf]; omega⟩
        · have q0 : (0 : Int) < (q : Int) := by omega
          have e1 := hOz.cell q (by rw [length_pas]; omega)
          have e2 := hOz.cell (q - 1) (by rw [length_pas]; omega)
          have fz := hOz.frozen q
          have l1 : (q : Int) < (n : Int) + 1 := by omega
          have l2 : (q : Int) - 1 < (n : Int) + 1 := by omega
          rw [gt_pas _ _ _ _ (by omega), if_neg (by omega)] at e1 e2
          have b1 := ch62 (p - 1) q (by omega)
          have b2 := ch62 (p - 1) (q - 1) (by omega)
          have st := hOz.set q (ch (p - 1) q + ch (p - 1) (q - 1))
          rw [pas_step n p q hp1 (by omega) (by omega)] at st
          have HO : Hid (Own (wr.setCell ⟨w.heap.size, q, none⟩ (.int .u64 ((ch (p - 1) q + ch (p - 1) (q - 1) : Nat) : Int))).drew w.heap.size (pas n p (q - 1))) := st
          have HB : Hid (Below w.heap.size w (wr.setCell ⟨w.heap.size, q, none⟩ (.int .u64 ((ch (p - 1) q + ch (p - 1) (q - 1) : Nat) : Int))).drew) := (hwz.setCell (Nat.le_refl _) _).drew
          have ez : ((q : Int) - 1).toNat = q - 1 := by omega
          have ad : IntKind.u64.wrap ((ch (p - 1) q : Int) + (ch (p - 1) (q - 1) : Int)) = ((ch (p - 1) q + ch (p - 1) (q - 1) : Nat) : Int) := by rw [IntKind.wrap_u64]; omega
          clear st hOz
          generalize ch (p - 1) q = A at *
          generalize ch (p - 1) (q - 1) = B at *
          go_wp2
          go_region
          go_wp2
          exact ⟨⟨q - 1, by omega, by go_num, HO.out, HB.out⟩, by simp only [intOf]; omega⟩
    · obtain rfl : p = n + 1 := by omega
      have e1 := hOr.cell k (by rw [length_rowP]; omega)
      rw [Nat.add_sub_cancel, gt_rowP _ _ _ hk] at e1
      have l1 : (k : Int) < (n : Int) + 1 := by omega
      obtain ⟨Z, hZ⟩ : ∃ Z, Hid (Z = ch n k) := ⟨_, rfl⟩
      rw [← hZ.out] at e1
      go_wp2
      go_ret
      rw [← hZ.out]
      exact ⟨rfl, hwr⟩
theorem rchoose_c (n k : Int) (w : World) :
    Calls Try.prog 16 #[.int .i64 n, .int .i64 k] w fun e w' => e = .returned (.int .u64 (chN n k)) ∧ Below w.heap.size w w' := by
  unfold chN
  by_cases h : n < 0 ∨ 62 < n ∨ k < 0 ∨ n < k
  · rw [if_pos h]
    exact rchoose_out n k h w
  · rw [if_neg h]
    obtain ⟨a, rfl⟩ := Int.eq_ofNat_of_zero_le (show 0 ≤ n by omega)
    obtain ⟨b, rfl⟩ := Int.eq_ofNat_of_zero_le (show 0 ≤ k by omega)
    exact rchoose_in a b (by omega) (by omega) w
end Ow
end Go.Proofs.Ytjbabnnibocdfaa
