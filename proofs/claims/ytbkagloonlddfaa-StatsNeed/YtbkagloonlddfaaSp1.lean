/-
  The contracts of what the program's Entropy calls: sum, mayNotBe, slices.IndexFunc and slices.ContainsFunc over it; Log.
-/
import Derived.Test.YtbkagloonlddfaaSt2
namespace Go.Proofs.Ytbkagloonlddfaa
open Go.RowKit Num
set_option linter.unusedVariables false
set_option linter.unusedSimpArgs false
set_option maxRecDepth 100000

theorem smay_c (x : Int) (w : World) :
    Calls Try.prog 23 #[.int .i64 x] w fun e w' => e = .returned (.bool (decide (x < 0 ∨ 65536 < x))) ∧ w' = w := by
  by_cases h1 : x < 0
  · have R : Hid (decide (x < 0 ∨ 65536 < x) = true) := decide_eq_true (.inl h1)
    go_enter Try.func23, Try.ntmps23
    go_wp2
    go_ret
    rw [R.out]
    exact ⟨rfl, rfl⟩
  · have R : Hid (decide (x < 0) = false) := decide_eq_false h1
    go_enter Try.func23, Try.ntmps23
    go_wp2
    go_ret
    rw [R.out]
    exact ⟨rfl, rfl⟩
set_option maxHeartbeats 2000000 in
theorem ssum_c (b off : Nat) (cap : Nat) (l : List Int) (w : World) (hc : Hid (∀ i, i < 256 → w.cell? ⟨b, off + i, none⟩ = some (.int .i64 (gi l i)))) (ho : Hid (∀ i, i < 256 → 0 ≤ gi l i ∧ gi l i ≤ 65536)) :
    Calls Try.prog 24 #[.slice (some ⟨b, off, none⟩) 256 cap] w fun e w' => e = .returned (.int .i64 (Lg.sm (Lg.vl l) 256 : Nat)) ∧ w' = w := by
  go_enter Try.func24, Try.ntmps24
  go_wp2
  go_loopw [3, 8] (fun v3 v8 wr => ∃ q s : Nat, q ≤ 256 ∧ s ≤ q * 65536 ∧ v3 = .int .i64 s ∧ v8 = .int .i64 q ∧ Hid (s = Lg.sm (Lg.vl l) q) ∧ wr = w) (fun _ v8 _ => 256 - (intOf v8).toNat)
  case atStart => exact ⟨0, 0, Nat.zero_le _, Nat.zero_le _, rfl, rfl, rfl, rfl⟩
  case round =>
    obtain ⟨q, s, hq, hs, rfl, rfl, HV, rfl⟩ := hrel
    by_cases hlt : q < 256
    · have hltz : (q : Int) < 256 := by omega
      have e1 := hc.out q hlt
      have g1 := ho.out q hlt
      have SQ : Hid (Lg.sm (Lg.vl l) (q + 1) = s + (gi l q).toNat) := by rw [HV.out]; rfl
      clear HV
      generalize gi l q = x at *
      obtain ⟨y, rfl⟩ := Int.eq_ofNat_of_zero_le g1.1
      rw [Int.toNat_natCast] at SQ
      have hs2 : s + y ≤ (q + 1) * 65536 := by omega
      have hs3 : s ≤ 16777216 := by omega
      clear hs
      go_wp2
      exact ⟨⟨q + 1, s + y, by omega, hs2, by go_num, by go_num, SQ.out.symm, trivial⟩, by simp only [intOf]; omega⟩
    · obtain rfl : q = 256 := by omega
      go_wp2
      go_ret
      rw [← HV.out]
      exact ⟨rfl, rfl⟩
set_option maxHeartbeats 2000000 in
theorem sidx_c (b off : Nat) (cap : Nat) (l : List Int) (w : World) (hc : Hid (∀ i, i < 256 → w.cell? ⟨b, off + i, none⟩ = some (.int .i64 (gi l i)))) :
    Calls Try.prog 30 #[.slice (some ⟨b, off, none⟩) 256 cap, .func (.func 23) #[] #[]] w fun e w' => (∃ r : Int, e = .returned (.int .i64 r) ∧ -1 ≤ r ∧ r ≤ 256 ∧ (r = -1 ↔ ∀ i, i < 256 → 0 ≤ gi l i ∧ gi l i ≤ 65536)) ∧ w' = w := by
  go_enter Try.func30, Try.ntmps30
  go_wp2
  go_loopw [8] (fun i wr => ∃ k : Nat, k ≤ 256 ∧ i = .int .i64 k ∧ Hid (∀ j, j < k → 0 ≤ gi l j ∧ gi l j ≤ 65536) ∧ wr = w) (fun i _ => 256 - (intOf i).toNat)
  case atStart => exact ⟨0, by omega, rfl, fun j hj => absurd hj (by omega), rfl⟩
  case round =>
    obtain ⟨k, hk, rfl, H, rfl⟩ := hrel
    by_cases hlt : k < 256
    · have hltz : (k : Int) < 256 := by omega
      have e1 := hc.out k hlt
      have C1 : Hid (Calls Try.prog 23 #[.int .i64 (gi l k)] wr fun e w' => e = .returned (.bool (decide (gi l k < 0 ∨ 65536 < gi l k))) ∧ w' = wr) := smay_c _ wr
      have HN : Hid ((¬ (gi l k < 0 ∨ 65536 < gi l k)) → ∀ j, j < k + 1 → 0 ≤ gi l j ∧ gi l j ≤ 65536) := fun h j hj => by
        by_cases e : j = k
        · subst e; omega
        · exact H.out j (by omega)
      have HY : Hid ((gi l k < 0 ∨ 65536 < gi l k) → ¬ ∀ i, i < 256 → 0 ≤ gi l i ∧ gi l i ≤ 65536) := fun h h2 => by
        have := h2 k hlt
        omega
      clear H
      generalize gi l k = x at *
      by_cases hv : x < 0 ∨ 65536 < x
      · rw [decide_eq_true hv] at C1
        have HZ := hide (HY.out hv)
        clear HN HY hv
        go_wp2_with fail
        refine (C1.out).mono ?_
        rintro e w1 ⟨rfl, rfl⟩
        go_wp2
        go_ret
        exact ⟨⟨k, rfl, by omega, by omega, fun h => by omega, fun h => absurd h HZ.out⟩, rfl⟩
      · rw [decide_eq_false hv] at C1
        have HZ := hide (HN.out hv)
        clear HN HY hv
        go_wp2_with fail
        refine (C1.out).mono ?_
        rintro e w1 ⟨rfl, rfl⟩
        go_wp2
        exact ⟨⟨k + 1, by omega, by go_num, HZ, trivial⟩, by simp only [intOf]; omega⟩
    · obtain rfl : k = 256 := by omega
      go_wp2
      go_ret
      exact ⟨⟨-1, rfl, by omega, by omega, fun _ => H.out, fun _ => rfl⟩, rfl⟩
theorem scon_c (b off : Nat) (cap : Nat) (l : List Int) (ok : Bool) (w : World) (hc : Hid (∀ i, i < 256 → w.cell? ⟨b, off + i, none⟩ = some (.int .i64 (gi l i)))) (hk : Hid (ok = true ↔ ∀ i, i < 256 → 0 ≤ gi l i ∧ gi l i ≤ 65536)) :
    Calls Try.prog 22 #[.slice (some ⟨b, off, none⟩) 256 cap, .func (.func 23) #[] #[]] w fun e w' => e = .returned (.bool (!ok)) ∧ w' = w := by
  have C := hide (sidx_c b off cap l w hc)
  go_enter Try.func22, Try.ntmps22
  go_wp2_with fail
  refine (C.out).mono ?_
  rintro e w1 ⟨⟨r, rfl, h1, h2, h3⟩, rfl⟩
  have HR : Hid (decide (0 ≤ r) = !ok) := by
    show _ = _
    have := hk.out
    by_cases e : r = -1
    · rw [this.2 (h3.1 e), decide_eq_false (by omega)]; rfl
    · rw [decide_eq_true (by omega)]
      cases ok with
      | false => rfl
      | true => exact absurd (h3.2 (this.1 rfl)) e
  clear h3 hk C hc
  go_wp2
  go_ret
  exact ⟨ret_bool HR.out, rfl⟩
end Go.Proofs.Ytbkagloonlddfaa
