/-
  The contract of Append.
-/
import Derived.Test.YtmdmjbpehbjgpaaMake
namespace Go.Proofs.Ytmdmjbpehbjgpaa
open Go.RowKit Num Bit

theorem app_ok (N : Int) (ao : Option Addr) (xs : List Nat) (cap : Nat) (x : Nat) (n k : Nat) (w : World) (hx : Wd w ao xs) (hf : Fit xs) (hx64 : x < 18446744073709551616) (hc : chk N xs = true) (hn : n ≤ 64) (hN : N + n ≤ 1048576) (hk : (N + n + 63) / 64 = (k : Int)) :
    Calls Try.prog 43 #[.agg #[.int .i64 N, .slice ao xs.length cap], .int .u64 x, .int .i64 n] w fun e w' => ∃ g, e = .returned (.tuple #[.agg #[.int .i64 (N + n), .slice (some ⟨g, 0, none⟩) k k], .int .i64 0]) ∧ w.heap.size ≤ g ∧ Own w' g (putL (cp xs k) N.toNat (x % 2 ^ n)) ∧ Below w.heap.size w w' := by
  obtain ⟨hc0, hc1, hc2, _⟩ := chk_out N xs hc
  obtain ⟨m, rfl⟩ := Int.eq_ofNat_of_zero_le hc0
  have K : ∀ o o', Wd ((w.alloc o).alloc o') ao xs := fun o o' => hx.keep ((below_alloc w o).alloc (by simp) o')
  have hl : xs.length ≤ 1048576 := by omega
  have HR : Hid (Room (cp xs k) m (x % 2 ^ n)) := room_of _ _ _ n (Nat.mod_lt _ (Nat.pow_pos (by decide))) hn (by rw [length_cp]; omega)
  have HM : Hid (bits .and .u64 (x : Int) (maskI n) = ((x % 2 ^ n : Nat) : Int)) := by
    unfold Hid
    rw [and_mask _ _ (Int.natCast_nonneg _) (Int.ofNat_lt.2 hx64), Int.toNat_natCast, show min ((n : Nat) : Int).toNat 64 = n by omega]
  have HX : Hid (x % 2 ^ n < 18446744073709551616) := Nat.lt_of_le_of_lt (Nat.mod_le _ _) hx64
  have HC2 : Hid ((xs.length : Int) = ((m : Int) + 63) / 64) := hc2
  clear hc2
  go_enter Try.func43, Try.ntmps43
  go_wp2_with fail
  refine (check_c _ _ _ _ _ (K _ _)).mono ?_
  rintro e w1 ⟨rfl, hb⟩
  have KK := box2_cells rfl hb
  clear hb
  obtain ⟨⟨k0, k1⟩, ⟨k2, k3⟩, ⟨k4, k5⟩, hz, hw⟩ := KK
  have hx1 : Wd w1 ao xs := hx.keep hw
  have hz0 : w.heap.size < w1.heap.size := by omega
  go_wp2_with fail
  refine (longer_c _ _ _ _ _ k _ hx1 hl hc0 hc1 (by omega) (by omega) hk).mono ?_
  rintro e w2 ⟨g, rfl, hg1, hg2, hO, hb⟩
  have m0 := (hb.cell (p := ⟨w.heap.size, 0, none⟩) hz0).trans k0
  have m2 := (hb.cell (p := ⟨w.heap.size + 1, 0, none⟩) hz).trans k2
  have m3 := (hb.cell (p := ⟨w.heap.size + 1, 1, none⟩) hz).trans k3
  have m4 := (hb.frozen (p := ⟨w.heap.size + 1, 0, none⟩) hz).trans k4
  have m5 := (hb.frozen (p := ⟨w.heap.size + 1, 1, none⟩) hz).trans k5
  have hw2 : Below w.heap.size w w2 := hw.trans (hb.mono (by omega))
  have z2 := hb.size
  have hz2 : w.heap.size < w2.heap.size := by omega
  have hz3 : w.heap.size + 1 < w2.heap.size := by omega
  clear hb k0 k1 k2 k3 k4 k5 K hx1
  go_wp2
  go_region_held3 (fun w' => w'.cell? ⟨w2.heap.size, 1, none⟩ = some (.slice (some ⟨g, 0, none⟩) k k) ∧ w'.cell? ⟨w.heap.size, 0, none⟩ = some (.int .i64 m)) (first | go_keep | (refine ⟨?_, ?_⟩ <;> assumption))
    (first | (go_at_call 51; refine (mask_c _ _).mono ?_; rintro e w' ⟨rfl, rfl⟩) | (go_at_call 42; rw [HM.out]; refine (put_l (cp xs k) k g k m (x % 2 ^ n) _ (length_cp xs k) ?_ ?_ ?_ ?_ ?_).mono ?_; (exact hO.keep (by repeat (first | exact Below.refl _ _ | apply Below.drew | apply below_drewN | refine Below.alloc ?_ (by simp) _))); omega; exact fit_cp xs hf k; exact HX.out; exact HR.out; rintro e w4 ⟨rfl, hO4, hT⟩; have q2 := turn_cell hT hz2 (by omega) m0; have q3 := turn_cell hT hz3 (by omega) m2; have q4 := turn_cell hT hz3 (by omega) m3; have q5 := turn_frozen hT hz3 (by omega) m4; have q6 := turn_frozen hT hz3 (by omega) m5; have q7 := turn_box hT (by omega); obtain ⟨q0, q1⟩ := q7; have hw4 := (hw2.trans (((below_alloc w2 _).drew).mono (by omega))).trans (hT.below (B := w.heap.size) (by omega)); clear hT))
  go_wp2
  refine bodyPost_ret (v := .tuple #[.agg #[.int .i64 ((m : Int) + n), .slice (some ⟨g, 0, none⟩) k k], .int .i64 0]) (by simp [results, Try.results43, go_sem, q3, q4]) rfl ⟨g, rfl, by omega, ?_, ?_⟩
  · rw [Int.toNat_natCast]
    exact (hO4.set_other (by simp; omega) _).set_other (by simp; omega) _
  · exact (hw4.setCell (by simp) _).setCell (by simp) _

theorem app_bad (N : Int) (ao : Option Addr) (xs : List Nat) (cap : Nat) (x : Nat) (n : Int) (w : World) (hx : Wd w ao xs) (hl : xs.length ≤ 1048576) (hE : chk N xs = false ∨ n < 0 ∨ 64 < n ∨ 1048576 < N + n) :
    Calls Try.prog 43 #[.agg #[.int .i64 N, .slice ao xs.length cap], .int .u64 x, .int .i64 n] w fun e w' => ∃ g, e = .returned (.tuple #[.agg #[.int .i64 N, .slice (some ⟨g, 0, none⟩) xs.length xs.length], .int .i64 2]) ∧ w.heap.size ≤ g ∧ Own w' g xs ∧ Below w.heap.size w w' := by
  have K : ∀ o o', Wd ((w.alloc o).alloc o') ao xs := fun o o' => hx.keep ((below_alloc w o).alloc (by simp) o')
  cases hk : chk N xs with
  | false =>
    clear hE
    go_enter Try.func43, Try.ntmps43
    go_wp2_with fail
    refine (check_c _ _ _ _ _ (K _ _)).mono ?_
    rintro e w1 ⟨rfl, hb⟩
    have KK := box2_cells rfl hb
    clear hb
    obtain ⟨⟨k0, k1⟩, ⟨k2, k3⟩, ⟨k4, k5⟩, hz, hw⟩ := KK
    have hx1 : Wd w1 ao xs := hx.keep hw
    have hz0 : w.heap.size < w1.heap.size := by omega
    go_wp2_with fail
    refine (asItIs_c _ _ _ _ _ hx1 hl).mono ?_
    rintro e w2 ⟨g, rfl, hg1, hg2, hO, hb⟩
    have m2 := (hb.cell (p := ⟨w.heap.size + 1, 0, none⟩) hz).trans k2
    have m3 := (hb.cell (p := ⟨w.heap.size + 1, 1, none⟩) hz).trans k3
    have m4 := (hb.frozen (p := ⟨w.heap.size + 1, 0, none⟩) hz).trans k4
    have m5 := (hb.frozen (p := ⟨w.heap.size + 1, 1, none⟩) hz).trans k5
    have hw2 : Below w.heap.size w w2 := hw.trans (hb.mono (by omega))
    clear hb k0 k1 k2 k3 k4 k5 K hx1
    go_wp2
    refine bodyPost_ret (v := .tuple #[.agg #[.int .i64 N, .slice (some ⟨g, 0, none⟩) xs.length xs.length], .int .i64 2]) (by simp [results, Try.results43, go_sem, m2, m3]) rfl ⟨g, rfl, by omega, ?_, ?_⟩
    · exact (hO.set_other (by simp; omega) _).set_other (by simp; omega) _
    · exact (hw2.setCell (by simp) _).setCell (by simp) _
  | true =>
    obtain ⟨hc0, hc1, _, _⟩ := chk_out N xs hk
    by_cases h1 : n < 0
    · clear hE
      go_enter Try.func43, Try.ntmps43
      go_wp2_with fail
      refine (check_c _ _ _ _ _ (K _ _)).mono ?_
      rintro e w1 ⟨rfl, hb⟩
      have KK := box2_cells rfl hb
      clear hb
      obtain ⟨⟨k0, k1⟩, ⟨k2, k3⟩, ⟨k4, k5⟩, hz, hw⟩ := KK
      have hx1 : Wd w1 ao xs := hx.keep hw
      have hz0 : w.heap.size < w1.heap.size := by omega
      go_wp2_with fail
      refine (asItIs_c _ _ _ _ _ hx1 hl).mono ?_
      rintro e w2 ⟨g, rfl, hg1, hg2, hO, hb⟩
      have m2 := (hb.cell (p := ⟨w.heap.size + 1, 0, none⟩) hz).trans k2
      have m3 := (hb.cell (p := ⟨w.heap.size + 1, 1, none⟩) hz).trans k3
      have m4 := (hb.frozen (p := ⟨w.heap.size + 1, 0, none⟩) hz).trans k4
      have m5 := (hb.frozen (p := ⟨w.heap.size + 1, 1, none⟩) hz).trans k5
      have hw2 : Below w.heap.size w w2 := hw.trans (hb.mono (by omega))
      clear hb k0 k1 k2 k3 k4 k5 K hx1
      go_wp2
      refine bodyPost_ret (v := .tuple #[.agg #[.int .i64 N, .slice (some ⟨g, 0, none⟩) xs.length xs.length], .int .i64 2]) (by simp [results, Try.results43, go_sem, m2, m3]) rfl ⟨g, rfl, by omega, ?_, ?_⟩
      · exact (hO.set_other (by simp; omega) _).set_other (by simp; omega) _
      · exact (hw2.setCell (by simp) _).setCell (by simp) _
    · have h1' : decide (n < 0) = false := by simpa using h1
      by_cases h2 : 64 < n
      · clear hE
        go_enter Try.func43, Try.ntmps43
        go_wp2_with fail
        refine (check_c _ _ _ _ _ (K _ _)).mono ?_
        rintro e w1 ⟨rfl, hb⟩
        have KK := box2_cells rfl hb
        clear hb
        obtain ⟨⟨k0, k1⟩, ⟨k2, k3⟩, ⟨k4, k5⟩, hz, hw⟩ := KK
        have hx1 : Wd w1 ao xs := hx.keep hw
        have hz0 : w.heap.size < w1.heap.size := by omega
        go_wp2_with fail
        refine (asItIs_c _ _ _ _ _ hx1 hl).mono ?_
        rintro e w2 ⟨g, rfl, hg1, hg2, hO, hb⟩
        have m2 := (hb.cell (p := ⟨w.heap.size + 1, 0, none⟩) hz).trans k2
        have m3 := (hb.cell (p := ⟨w.heap.size + 1, 1, none⟩) hz).trans k3
        have m4 := (hb.frozen (p := ⟨w.heap.size + 1, 0, none⟩) hz).trans k4
        have m5 := (hb.frozen (p := ⟨w.heap.size + 1, 1, none⟩) hz).trans k5
        have hw2 : Below w.heap.size w w2 := hw.trans (hb.mono (by omega))
        clear hb k0 k1 k2 k3 k4 k5 K hx1
        go_wp2
        refine bodyPost_ret (v := .tuple #[.agg #[.int .i64 N, .slice (some ⟨g, 0, none⟩) xs.length xs.length], .int .i64 2]) (by simp [results, Try.results43, go_sem, m2, m3]) rfl ⟨g, rfl, by omega, ?_, ?_⟩
        · exact (hO.set_other (by simp; omega) _).set_other (by simp; omega) _
        · exact (hw2.setCell (by simp) _).setCell (by simp) _
      · have h3 : 1048576 < N + n := by rcases hE with h | h | h | h <;> simp_all
        clear hE
        go_enter Try.func43, Try.ntmps43
        go_wp2_with fail
        refine (check_c _ _ _ _ _ (K _ _)).mono ?_
        rintro e w1 ⟨rfl, hb⟩
        have KK := box2_cells rfl hb
        clear hb
        obtain ⟨⟨k0, k1⟩, ⟨k2, k3⟩, ⟨k4, k5⟩, hz, hw⟩ := KK
        have hx1 : Wd w1 ao xs := hx.keep hw
        have hz0 : w.heap.size < w1.heap.size := by omega
        go_wp2_with fail
        refine (asItIs_c _ _ _ _ _ hx1 hl).mono ?_
        rintro e w2 ⟨g, rfl, hg1, hg2, hO, hb⟩
        have m2 := (hb.cell (p := ⟨w.heap.size + 1, 0, none⟩) hz).trans k2
        have m3 := (hb.cell (p := ⟨w.heap.size + 1, 1, none⟩) hz).trans k3
        have m4 := (hb.frozen (p := ⟨w.heap.size + 1, 0, none⟩) hz).trans k4
        have m5 := (hb.frozen (p := ⟨w.heap.size + 1, 1, none⟩) hz).trans k5
        have hw2 : Below w.heap.size w w2 := hw.trans (hb.mono (by omega))
        clear hb k0 k1 k2 k3 k4 k5 K hx1
        go_wp2
        refine bodyPost_ret (v := .tuple #[.agg #[.int .i64 N, .slice (some ⟨g, 0, none⟩) xs.length xs.length], .int .i64 2]) (by simp [results, Try.results43, go_sem, m2, m3]) rfl ⟨g, rfl, by omega, ?_, ?_⟩
        · exact (hO.set_other (by simp; omega) _).set_other (by simp; omega) _
        · exact (hw2.setCell (by simp) _).setCell (by simp) _

/-- As Out, and the words lie in a block that was not there. -/
def OutF (w w' : World) (ao : Option Addr) (ys : List Nat) (cap : Nat) : Prop := Wd w' ao ys ∧ Fit ys ∧ ys.length ≤ cap ∧ (∀ a, ao = some a → w.heap.size ≤ a.block) ∧ Below w.heap.size w w'
theorem OutF.out {w w' : World} {ao : Option Addr} {ys : List Nat} {cap : Nat} (h : OutF w w' ao ys cap) : Out w w' ao ys cap := ⟨h.1, h.2.1, h.2.2.1, h.2.2.2.2⟩
theorem fresh_of {w : World} {g : Nat} (h : w.heap.size ≤ g) : ∀ a : Addr, (some ⟨g, 0, none⟩ : Option Addr) = some a → w.heap.size ≤ a.block := by
  intro a ha
  cases ha
  exact h

theorem app_f (N : Int) (ao : Option Addr) (xs : List Nat) (cap : Nat) (x : Nat) (n : Int) (w : World) (hx : Wd w ao xs) (hf : Fit xs) (hx64 : x < 18446744073709551616) (hl : xs.length ≤ 1048576) :
    Calls Try.prog 43 #[.agg #[.int .i64 N, .slice ao xs.length cap], .int .u64 x, .int .i64 n] w fun e w' => ∃ bo dap, e = .returned (.tuple #[.agg #[.int .i64 (appN N xs n), .slice bo (appL N xs x n).length dap], .int .i64 (appE N xs n)]) ∧ OutF w w' bo (appL N xs x n) dap := by
  by_cases h : chk N xs = false ∨ n < 0 ∨ 64 < n ∨ 1048576 < N + n
  · have e1 : appE N xs n = 2 := by unfold appE; rw [if_pos h]
    have e2 : appN N xs n = N := by unfold appN; rw [e1]; rfl
    have e3 : appL N xs x n = xs := by unfold appL; rw [e1]; rfl
    refine (app_bad N ao xs cap x n w hx hl h).mono ?_
    rintro e w' ⟨g, rfl, hfr, hO, hb⟩
    rw [e1, e2, e3]
    exact ⟨some ⟨g, 0, none⟩, xs.length, rfl, hO.wd, hf, Nat.le_refl _, fresh_of hfr, hb⟩
  · have hk : chk N xs = true := by cases hc : chk N xs with | true => rfl | false => exact absurd (.inl hc) h
    obtain ⟨h0, h1, _, _⟩ := chk_out N xs hk
    obtain ⟨m, rfl⟩ := Int.eq_ofNat_of_zero_le (show 0 ≤ n by omega)
    have e1 : appE N xs m = 0 := by unfold appE; rw [if_neg h]
    have e2 : appN N xs m = N + m := by unfold appN; rw [e1]; rfl
    have e3 : appL N xs x m = rowOf (N + m).toNat (fun j => if j < N.toNat then bitAt xs j else x.testBit (j - N.toNat)) := by unfold appL; rw [e1]; rfl
    refine (app_ok N ao xs cap x m ((N.toNat + m + 63) / 64) w hx hf hx64 hk (by omega) (by omega) (by omega)).mono ?_
    rintro e w' ⟨g, rfl, hfr, hO, hb⟩
    have e4 := append_row N xs hf hk x m (by omega) _ rfl
    rw [show N.toNat + m = (N + m).toNat by omega, ← e3] at e4
    rw [show (N.toNat + m + 63) / 64 = ((N + m).toNat + 63) / 64 by omega] at *
    rw [e4] at hO
    have e5 : (appL N xs x m).length = ((N + m).toNat + 63) / 64 := by rw [e3, length_rowOf]
    refine ⟨some ⟨g, 0, none⟩, ((N + m).toNat + 63) / 64, by rw [e5, e1, e2], hO.wd, ?_, by omega, fresh_of hfr, hb⟩
    rw [e3]; exact fit_rowOf _ _

theorem app_c (N : Int) (ao : Option Addr) (xs : List Nat) (cap : Nat) (x : Nat) (n : Int) (w : World) (hx : Wd w ao xs) (hf : Fit xs) (hx64 : x < 18446744073709551616) (hl : xs.length ≤ 1048576) :
    Calls Try.prog 43 #[.agg #[.int .i64 N, .slice ao xs.length cap], .int .u64 x, .int .i64 n] w fun e w' => ∃ bo dap, e = .returned (.tuple #[.agg #[.int .i64 (appN N xs n), .slice bo (appL N xs x n).length dap], .int .i64 (appE N xs n)]) ∧ Out w w' bo (appL N xs x n) dap :=
  (app_f N ao xs cap x n w hx hf hx64 hl).mono fun _ _ ⟨bo, dap, he, ho⟩ => ⟨bo, dap, he, ho.out⟩
end Go.Proofs.Ytmdmjbpehbjgpaa
