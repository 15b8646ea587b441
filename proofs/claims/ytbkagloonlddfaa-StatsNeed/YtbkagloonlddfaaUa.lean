/-
  The contracts of the document's counted and Cost.
-/
import Derived.Test.YtbkagloonlddfaaUz
namespace Go.Proofs.Ytbkagloonlddfaa
open Go.RowKit Num Hp
set_option linter.unusedVariables false
set_option linter.unusedSimpArgs false
set_option maxRecDepth 100000

theorem bad_neg {top x : Int} (h : x < 0) : bad top x = true := by unfold bad; simp [h]
theorem bad_gt {top x : Int} (h : top < x) : bad top x = true := by unfold bad; simp [h]
theorem bad_no {top x : Int} (h : ¬ x < 0) (h2 : ¬ top < x) : bad top x = false := by unfold bad; simp [h, h2]
theorem win_bad {l : List Int} {top : Int} {i : Nat} (h : i < l.length) (hb : bad top (gi l i) = true) : win l top = false := by
  unfold win; rw [any_true h hb]; simp
theorem win_fine {l : List Int} {top : Int} (h : ∀ i, i < l.length → bad top (gi l i) = false) : win l top = decide (l.length = 256) := by
  unfold win; rw [any_false h]; simp
theorem more_fine {l : List Int} {top : Int} {k : Nat} (H : ∀ j, j < k → bad top (gi l j) = false) (h : bad top (gi l k) = false) : ∀ j, j < k + 1 → bad top (gi l j) = false := fun j hj => by
  by_cases e : j = k
  · subst e; exact h
  · exact H j (by omega)
set_option maxHeartbeats 2000000 in
theorem rcnt_c (ao : Option Addr) (l : List Int) (cap : Nat) (w : World) (hx : Nd w ao l) (hl : l.length ≤ 1048576) :
    Calls Try.prog 27 #[.slice ao l.length cap] w fun e w' => e = .returned (.bool (win l 1048576)) ∧ Below w.heap.size w w' := by
  go_enter Try.func27, Try.ntmps27
  go_wp2
  go_loopw [3] (fun i wr => ∃ k : Nat, k ≤ l.length ∧ i = .int .i64 k ∧ Hid (∀ j, j < k → bad 1048576 (gi l j) = false) ∧ Hid (Below w.heap.size w wr)) (fun i _ => l.length - (intOf i).toNat)
  case atStart => exact ⟨0, by omega, rfl, fun j hj => absurd hj (by omega), Below.refl _ _⟩
  case round =>
    obtain ⟨k, hk, rfl, H, hw⟩ := hrel
    by_cases hlt : k < l.length
    · obtain ⟨b, off, rfl, hb, hcc⟩ := hx (by omega)
      have e1 := (hw.out.cell (p := ⟨b, off + k, none⟩) hb).trans (hcc k hlt)
      have hltz : (k : Int) < (l.length : Int) := by omega
      clear hcc
      by_cases h1 : gi l k < 0
      · have HR := hide (win_bad hlt (bad_neg (top := 1048576) h1))
        generalize gi l k = x at *
        go_wp2
        go_ret
        rw [HR.out]
        exact ⟨rfl, hw.out⟩
      · by_cases h2 : (1048576 : Int) < gi l k
        · have HR := hide (win_bad hlt (bad_gt h2))
          generalize gi l k = x at *
          go_wp2
          go_ret
          rw [HR.out]
          exact ⟨rfl, hw.out⟩
        · have HN := hide (more_fine H.out (bad_no h1 h2))
          generalize gi l k = x at *
          go_wp2
          exact ⟨⟨k + 1, by omega, by go_num, HN, hw⟩, by simp only [intOf]; omega⟩
    · obtain rfl : k = l.length := by omega
      have HR : Hid (((l.length : Int) == 256) = win l 1048576) := by
        show _ = win l 1048576
        rw [win_fine H.out, Bool.eq_iff_iff]
        simp
        omega
      go_wp2
      go_ret
      exact ⟨ret_bool HR.out, hw.out⟩

theorem tot_step (a b : Nat → Nat) (q : Nat) : Hv.tot (fun i => a i * b i) (q + 1) = Hv.tot (fun i => a i * b i) q + a q * b q := rfl
set_option maxHeartbeats 4000000 in
theorem rcost_c (ao : Option Addr) (c : List Int) (cap : Nat) (bo : Option Addr) (l : List Int) (dap : Nat) (w : World) (hx : Nd w ao c) (hy : Nd w bo l) (hc : c.length ≤ 1048576) (hl : l.length ≤ 1048576) :
    Calls Try.prog 20 #[.slice ao c.length cap, .slice bo l.length dap] w fun e w' => e = .returned (.int .i64 (costv c l : Nat)) ∧ Below w.heap.size w w' := by
  have C1 := hide (rcnt_c ao c cap w hx hc)
  cases k1 : win c 1048576 with
  | false =>
    have R : Hid (costv c l = 0) := by show costv c l = 0; unfold costv; rw [k1]; rfl
    rw [k1] at C1
    clear hx hy k1
    go_enter Try.func20, Try.ntmps20
    go_wp2_with fail
    refine (C1.out).mono ?_
    rintro e w1 ⟨rfl, hb⟩
    go_wp2
    go_ret
    rw [R.out]
    exact ⟨rfl, hb⟩
  | true =>
    rw [k1] at C1
    by_cases k2 : l.length = 256
    · have k2z : ((l.length : Int) != 256) = false := by simp; omega
      obtain ⟨c256, cb⟩ := win_len k1
      obtain ⟨A, hA⟩ : ∃ A, Hid (A = cntOf c) := ⟨_, rfl⟩
      have TA : ∀ i, A i ≤ 1048576 := by rw [hA.out]; exact cntI_le cb
      have HTA := hide TA
      obtain ⟨b, off, rfl, hbw, hcc⟩ := hx (by omega)
      obtain ⟨b2, off2, rfl, hbw2, hcc2⟩ := hy (by omega)
      have HCC : Hid (∀ i, i < 256 → w.cell? ⟨b, off + i, none⟩ = some (.int .i64 (A i : Nat))) := fun i hi => by
        have h1 := hcc i (by omega)
        have h2 := cb i (by omega)
        rw [hA.out]
        unfold cntOf
        rw [h1]
        congr 2
        omega
      have HCD : Hid (∀ i, i < 256 → w.cell? ⟨b2, off2 + i, none⟩ = some (.int .i64 (gi l i))) := fun i hi => hcc2 i (by omega)
      have HK1 := hide k1
      have HK2 := hide k2
      have hcl : c.length ≤ 256 := by omega
      have hcg : 256 ≤ c.length := by omega
      have hlg : 256 ≤ l.length := by omega
      clear hcc hcc2 cb TA k1 k2 c256 hx hy
      go_enter Try.func20, Try.ntmps20
      go_wp2_with fail
      refine (C1.out).mono ?_
      rintro e w1 ⟨rfl, hb⟩
      have HB3 := hide hb
      clear hb C1
      go_wp2
      go_loopw [5, 6] (fun vs vi wr => ∃ (q s : Nat), q ≤ 256 ∧ s ≤ q * 41943040 ∧ vi = .int .i64 q ∧ vs = .int .i64 s ∧ Hid (s = Hv.tot (fun i => A i * cntOf l i) q) ∧ Hid (∀ j, j < q → bad 40 (gi l j) = false) ∧ Hid (Below w.heap.size w wr)) (fun _ vi _ => 256 - (intOf vi).toNat)
      case atStart => exact ⟨0, 0, Nat.zero_le _, Nat.zero_le _, rfl, rfl, rfl, fun j hj => absurd hj (by omega), HB3⟩
      case round =>
        clear HB3
        obtain ⟨q, s, hq, hs, rfl, rfl, HI, H, HB⟩ := hrel
        by_cases hlt : q < 256
        · have hltz : (q : Int) < (256 : Int) := by omega
          have hlt1 : (q : Int) < (c.length : Int) := by omega
          have hlt2 : (q : Int) < (l.length : Int) := by omega
          have e1 := (HB.out.cell (p := ⟨b, off + q, none⟩) hbw).trans (HCC.out q (by omega))
          have e2 := (HB.out.cell (p := ⟨b2, off2 + q, none⟩) hbw2).trans (HCD.out q (by omega))
          by_cases h1 : gi l q < 0
          · have HR : Hid (costv c l = 0) := by show costv c l = 0; unfold costv; rw [win_bad (i := q) (by omega) (bad_neg (top := 40) h1)]; simp
            generalize gi l q = x at *
            go_wp2
            go_ret
            rw [HR.out]
            exact ⟨rfl, HB.out⟩
          · by_cases h2 : (40 : Int) < gi l q
            · have HR : Hid (costv c l = 0) := by show costv c l = 0; unfold costv; rw [win_bad (i := q) (by omega) (bad_gt (top := 40) h2)]; simp
              generalize gi l q = x at *
              go_wp2
              go_ret
              rw [HR.out]
              exact ⟨rfl, HB.out⟩
            · have HN := hide (more_fine H.out (bad_no h1 h2))
              obtain ⟨y, hy⟩ : ∃ y : Nat, gi l q = y := ⟨(gi l q).toNat, by omega⟩
              have hyc : cntOf l q = y := by unfold cntOf; omega
              have HI1 : Hid (s + A q * y = Hv.tot (fun i => A i * cntOf l i) (q + 1)) := by show _ = Hv.tot _ _; rw [tot_step, ← HI.out, hyc]
              have b1 := HTA.out q
              have y40 : y ≤ 40 := by omega
              rw [hy] at e2 h1 h2
              clear hy hyc H HI
              generalize A q = x at *
              have xy : x * y ≤ 1048576 * 40 := Nat.mul_le_mul b1 y40
              have exy : (x : Int) * (y : Int) = ((x * y : Nat) : Int) := by rw [Int.natCast_mul]
              have hs2 : s + x * y ≤ (q + 1) * 41943040 := by omega
              have hs3 : q * 41943040 ≤ 255 * 41943040 := Nat.mul_le_mul_right _ (by omega)
              have hs4 : s ≤ 10695475200 := by omega
              clear hs hs3
              generalize x * y = z at *
              go_wp2
              go_quiet (fail)
              go_wp2
              exact ⟨⟨q + 1, s + z, by omega, hs2, by go_num, by go_num, HI1, HN, below_drewN HB.out _⟩, by simp only [intOf]; omega⟩
        · obtain rfl : q = 256 := by omega
          have HR : Hid (costv c l = s) := by
            show costv c l = s
            unfold costv
            rw [HK1.out, win_fine (fun i hi => H.out i (by have := HK2.out; omega)), HI.out, hA.out]
            simp [HK2.out]
          go_wp2
          go_ret
          rw [HR.out]
          exact ⟨rfl, HB.out⟩
    · have k2z : ((l.length : Int) != 256) = true := by simp; omega
      have R : Hid (costv c l = 0) := by
        show costv c l = 0
        have : win l 40 = false := by unfold win; simp [k2]
        unfold costv; rw [this]; simp
      clear hx hy k1 k2
      go_enter Try.func20, Try.ntmps20
      go_wp2_with fail
      refine (C1.out).mono ?_
      rintro e w1 ⟨rfl, hb⟩
      go_wp2
      go_ret
      rw [R.out]
      exact ⟨rfl, hb⟩
end Go.Proofs.Ytbkagloonlddfaa
