/-
  The contract of Append. The contracts of Get and Slice. The contract of the program's Put, of a row that may be and a code of 1 to 40 bits. The contracts of what the program's Next calls: slices.Equal, canonical, longer, the closure and slices.IndexFunc. Plain: the next symbol of a row of bits: the code that stands there; what was put is read.
-/
import Derived.Test.YtcjhiolginpgoaaM13
import Derived.Test.YtcjhiolginpgoaaM11
import Derived.Test.YtcjhiolginpgoaaM04
import Derived.Test.YtcjhiolginpgoaaM15
import Derived.Test.YtcjhiolginpgoaaM01
namespace Go.Proofs.Ytcjhiolginpgoaa
open Go.RowKit Num Bit

theorem app_ok (N : Int) (ao : Option Addr) (xs : List Nat) (cap : Nat) (x : Nat) (n k : Nat) (w : World) (hx : Wd w ao xs) (hf : Fit xs) (hx64 : x < 18446744073709551616) (hc : chk N xs = true) (hn : n ≤ 64) (hN : N + n ≤ 1048576) (hk : (N + n + 63) / 64 = (k : Int)) :
    Calls Try.prog 30 #[.agg #[.int .i64 N, .slice ao xs.length cap], .int .u64 x, .int .i64 n] w fun e w' => ∃ g, e = .returned (.tuple #[.agg #[.int .i64 (N + n), .slice (some ⟨g, 0, none⟩) k k], .int .i64 0]) ∧ w.heap.size ≤ g ∧ Own w' g (putL (cp xs k) N.toNat (x % 2 ^ n)) ∧ Below w.heap.size w w' := by
  obtain ⟨hc0, hc1, hc2, _⟩ := chk_out N xs hc
  obtain ⟨m, rfl⟩ := Int.eq_ofNat_of_zero_le hc0
  have K : ∀ o o', Wd ((w.alloc o).alloc o') ao xs := fun o o' => hx.keep ((below_alloc w o).alloc (by simp) o')
  have hl : xs.length ≤ 1048576 := by omega
  have HR : Hid (Room (cp xs k) m (x % 2 ^ n)) := room_of _ _ _ n (Nat.mod_lt _ (Nat.pow_pos (by decide))) hn (by rw [length_cp]; omega)
  have HM : Hid (bits .and .u64 (x : Int) (maskI n) = ((x % 2 ^ n : Nat) : Int)) := by
    unfold Hid
    rw [and_mask _ _ (Int.natCast_nonneg _) (Int.ofNat_lt.2 hx64), Int.toNat_natCast, show min ((n : Nat) : Int).toNat 64 = n by omega]
  have HX : Hid (x % 2 ^ n < 18446744073709551616) := Nat.lt_of_le_of_lt (Nat.mod_le _ _) hx64
  have HC2 : Hid ((xs.length : Int) = ((m : Int) + 63) / 64) := hc2
  clear hc2
  go_enter Try.func30, Try.ntmps30
  go_wp2_with fail
  refine (check_c _ _ _ _ _ (K _ _)).mono ?_
  rintro e w1 ⟨rfl, hb⟩
  have KK := box2_cells rfl hb
  clear hb
  obtain ⟨⟨k0, k1⟩, ⟨k2, k3⟩, ⟨k4, k5⟩, hz, hw⟩ := KK
  have hx1 : Wd w1 ao xs := hx.keep hw
  have hz0 : w.heap.size < w1.heap.size := by omega
  go_wp2_with fail
  refine (longer_c _ _ _ _ _ k _ hx1 hl hc0 hc1 (by omega) (by omega) hk).mono ?_
  rintro e w2 ⟨g, rfl, hg1, hg2, hO, hb⟩
  have m0 := (hb.cell (p := ⟨w.heap.size, 0, none⟩) hz0).trans k0
  have m2 := (hb.cell (p := ⟨w.heap.size + 1, 0, none⟩) hz).trans k2
  have m3 := (hb.cell (p := ⟨w.heap.size + 1, 1, none⟩) hz).trans k3
  have m4 := (hb.frozen (p := ⟨w.heap.size + 1, 0, none⟩) hz).trans k4
  have m5 := (hb.frozen (p := ⟨w.heap.size + 1, 1, none⟩) hz).trans k5
  have hw2 : Below w.heap.size w w2 := hw.trans (hb.mono (by omega))
  have z2 := hb.size
  have hz2 : w.heap.size < w2.heap.size := by omega
  have hz3 : w.heap.size + 1 < w2.heap.size := by omega
  clear hb k0 k1 k2 k3 k4 k5 K hx1
  go_wp2
  go_region_held3 (fun w' => w'.cell? ⟨w2.heap.size, 1, none⟩ = some (.slice (some ⟨g, 0, none⟩) k k) ∧ w'.cell? ⟨w.heap.size, 0, none⟩ = some (.int .i64 m)) (first | go_keep | (refine ⟨?_, ?_⟩ <;> assumption))
    (first | (go_at_call 47; refine (mask_c _ _).mono ?_; rintro e w' ⟨rfl, rfl⟩) | (go_at_call 46; rw [HM.out]; refine (put_l (cp xs k) k g k m (x % 2 ^ n) _ (length_cp xs k) ?_ ?_ ?_ ?_ ?_).mono ?_; (exact hO.keep (by repeat (first | exact Below.refl _ _ | apply Below.drew | apply below_drewN | refine Below.alloc ?_ (by simp) _))); omega; exact fit_cp xs hf k; exact HX.out; exact HR.out; rintro e w4 ⟨rfl, hO4, hT⟩; have q2 := turn_cell hT hz2 (by omega) m0; have q3 := turn_cell hT hz3 (by omega) m2; have q4 := turn_cell hT hz3 (by omega) m3; have q5 := turn_frozen hT hz3 (by omega) m4; have q6 := turn_frozen hT hz3 (by omega) m5; have q7 := turn_box hT (by omega); obtain ⟨q0, q1⟩ := q7; have hw4 := (hw2.trans (((below_alloc w2 _).drew).mono (by omega))).trans (hT.below (B := w.heap.size) (by omega)); clear hT))
  go_wp2
  refine bodyPost_ret (v := .tuple #[.agg #[.int .i64 ((m : Int) + n), .slice (some ⟨g, 0, none⟩) k k], .int .i64 0]) (by simp [results, Try.results30, go_sem, q3, q4]) rfl ⟨g, rfl, by omega, ?_, ?_⟩
  · rw [Int.toNat_natCast]
    exact (hO4.set_other (by simp; omega) _).set_other (by simp; omega) _
  · exact (hw4.setCell (by simp) _).setCell (by simp) _

theorem app_bad (N : Int) (ao : Option Addr) (xs : List Nat) (cap : Nat) (x : Nat) (n : Int) (w : World) (hx : Wd w ao xs) (hl : xs.length ≤ 1048576) (hE : chk N xs = false ∨ n < 0 ∨ 64 < n ∨ 1048576 < N + n) :
    Calls Try.prog 30 #[.agg #[.int .i64 N, .slice ao xs.length cap], .int .u64 x, .int .i64 n] w fun e w' => ∃ g, e = .returned (.tuple #[.agg #[.int .i64 N, .slice (some ⟨g, 0, none⟩) xs.length xs.length], .int .i64 2]) ∧ w.heap.size ≤ g ∧ Own w' g xs ∧ Below w.heap.size w w' := by
  have K : ∀ o o', Wd ((w.alloc o).alloc o') ao xs := fun o o' => hx.keep ((below_alloc w o).alloc (by simp) o')
  cases hk : chk N xs with
  | false =>
    clear hE
    go_enter Try.func30, Try.ntmps30
    go_wp2_with fail
    refine (check_c _ _ _ _ _ (K _ _)).mono ?_
    rintro e w1 ⟨rfl, hb⟩
    have KK := box2_cells rfl hb
    clear hb
    obtain ⟨⟨k0, k1⟩, ⟨k2, k3⟩, ⟨k4, k5⟩, hz, hw⟩ := KK
    have hx1 : Wd w1 ao xs := hx.keep hw
    have hz0 : w.heap.size < w1.heap.size := by omega
    go_wp2_with fail
    refine (asItIs_c _ _ _ _ _ hx1 hl).mono ?_
    rintro e w2 ⟨g, rfl, hg1, hg2, hO, hb⟩
    have m2 := (hb.cell (p := ⟨w.heap.size + 1, 0, none⟩) hz).trans k2
    have m3 := (hb.cell (p := ⟨w.heap.size + 1, 1, none⟩) hz).trans k3
    have m4 := (hb.frozen (p := ⟨w.heap.size + 1, 0, none⟩) hz).trans k4
    have m5 := (hb.frozen (p := ⟨w.heap.size + 1, 1, none⟩) hz).trans k5
    have hw2 : Below w.heap.size w w2 := hw.trans (hb.mono (by omega))
    clear hb k0 k1 k2 k3 k4 k5 K hx1
    go_wp2
    refine bodyPost_ret (v := .tuple #[.agg #[.int .i64 N, .slice (some ⟨g, 0, none⟩) xs.length xs.length], .int .i64 2]) (by simp [results, Try.results30, go_sem, m2, m3]) rfl ⟨g, rfl, by omega, ?_, ?_⟩
    · exact (hO.set_other (by simp; omega) _).set_other (by simp; omega) _
    · exact (hw2.setCell (by simp) _).setCell (by simp) _
  | true =>
    obtain ⟨hc0, hc1, _, _⟩ := chk_out N xs hk
    by_cases h1 : n < 0
    · clear hE
      go_enter Try.func30, Try.ntmps30
      go_wp2_with fail
      refine (check_c _ _ _ _ _ (K _ _)).mono ?_
      rintro e w1 ⟨rfl, hb⟩
      have KK := box2_cells rfl hb
      clear hb
      obtain ⟨⟨k0, k1⟩, ⟨k2, k3⟩, ⟨k4, k5⟩, hz, hw⟩ := KK
      have hx1 : Wd w1 ao xs := hx.keep hw
      have hz0 : w.heap.size < w1.heap.size := by omega
      go_wp2_with fail
      refine (asItIs_c _ _ _ _ _ hx1 hl).mono ?_
      rintro e w2 ⟨g, rfl, hg1, hg2, hO, hb⟩
      have m2 := (hb.cell (p := ⟨w.heap.size + 1, 0, none⟩) hz).trans k2
      have m3 := (hb.cell (p := ⟨w.heap.size + 1, 1, none⟩) hz).trans k3
      have m4 := (hb.frozen (p := ⟨w.heap.size + 1, 0, none⟩) hz).trans k4
      have m5 := (hb.frozen (p := ⟨w.heap.size + 1, 1, none⟩) hz).trans k5
      have hw2 : Below w.heap.size w w2 := hw.trans (hb.mono (by omega))
      clear hb k0 k1 k2 k3 k4 k5 K hx1
      go_wp2
      refine bodyPost_ret (v := .tuple #[.agg #[.int .i64 N, .slice (some ⟨g, 0, none⟩) xs.length xs.length], .int .i64 2]) (by simp [results, Try.results30, go_sem, m2, m3]) rfl ⟨g, rfl, by omega, ?_, ?_⟩
      · exact (hO.set_other (by simp; omega) _).set_other (by simp; omega) _
      · exact (hw2.setCell (by simp) _).setCell (by simp) _
    · have h1' : decide (n < 0) = false := by simpa using h1
      by_cases h2 : 64 < n
      · clear hE
        go_enter Try.func30, Try.ntmps30
        go_wp2_with fail
        refine (check_c _ _ _ _ _ (K _ _)).mono ?_
        rintro e w1 ⟨rfl, hb⟩
        have KK := box2_cells rfl hb
        clear hb
        obtain ⟨⟨k0, k1⟩, ⟨k2, k3⟩, ⟨k4, k5⟩, hz, hw⟩ := KK
        have hx1 : Wd w1 ao xs := hx.keep hw
        have hz0 : w.heap.size < w1.heap.size := by omega
        go_wp2_with fail
        refine (asItIs_c _ _ _ _ _ hx1 hl).mono ?_
        rintro e w2 ⟨g, rfl, hg1, hg2, hO, hb⟩
        have m2 := (hb.cell (p := ⟨w.heap.size + 1, 0, none⟩) hz).trans k2
        have m3 := (hb.cell (p := ⟨w.heap.size + 1, 1, none⟩) hz).trans k3
        have m4 := (hb.frozen (p := ⟨w.heap.size + 1, 0, none⟩) hz).trans k4
        have m5 := (hb.frozen (p := ⟨w.heap.size + 1, 1, none⟩) hz).trans k5
        have hw2 : Below w.heap.size w w2 := hw.trans (hb.mono (by omega))
        clear hb k0 k1 k2 k3 k4 k5 K hx1
        go_wp2
        refine bodyPost_ret (v := .tuple #[.agg #[.int .i64 N, .slice (some ⟨g, 0, none⟩) xs.length xs.length], .int .i64 2]) (by simp [results, Try.results30, go_sem, m2, m3]) rfl ⟨g, rfl, by omega, ?_, ?_⟩
        · exact (hO.set_other (by simp; omega) _).set_other (by simp; omega) _
        · exact (hw2.setCell (by simp) _).setCell (by simp) _
      · have h3 : 1048576 < N + n := by rcases hE with h | h | h | h <;> simp_all
        clear hE
        go_enter Try.func30, Try.ntmps30
        go_wp2_with fail
        refine (check_c _ _ _ _ _ (K _ _)).mono ?_
        rintro e w1 ⟨rfl, hb⟩
        have KK := box2_cells rfl hb
        clear hb
        obtain ⟨⟨k0, k1⟩, ⟨k2, k3⟩, ⟨k4, k5⟩, hz, hw⟩ := KK
        have hx1 : Wd w1 ao xs := hx.keep hw
        have hz0 : w.heap.size < w1.heap.size := by omega
        go_wp2_with fail
        refine (asItIs_c _ _ _ _ _ hx1 hl).mono ?_
        rintro e w2 ⟨g, rfl, hg1, hg2, hO, hb⟩
        have m2 := (hb.cell (p := ⟨w.heap.size + 1, 0, none⟩) hz).trans k2
        have m3 := (hb.cell (p := ⟨w.heap.size + 1, 1, none⟩) hz).trans k3
        have m4 := (hb.frozen (p := ⟨w.heap.size + 1, 0, none⟩) hz).trans k4
        have m5 := (hb.frozen (p := ⟨w.heap.size + 1, 1, none⟩) hz).trans k5
        have hw2 : Below w.heap.size w w2 := hw.trans (hb.mono (by omega))
        clear hb k0 k1 k2 k3 k4 k5 K hx1
        go_wp2
        refine bodyPost_ret (v := .tuple #[.agg #[.int .i64 N, .slice (some ⟨g, 0, none⟩) xs.length xs.length], .int .i64 2]) (by simp [results, Try.results30, go_sem, m2, m3]) rfl ⟨g, rfl, by omega, ?_, ?_⟩
        · exact (hO.set_other (by simp; omega) _).set_other (by simp; omega) _
        · exact (hw2.setCell (by simp) _).setCell (by simp) _

/-- As Out, and the words lie in a block that was not there. -/
def OutF (w w' : World) (ao : Option Addr) (ys : List Nat) (cap : Nat) : Prop := Wd w' ao ys ∧ Fit ys ∧ ys.length ≤ cap ∧ (∀ a, ao = some a → w.heap.size ≤ a.block) ∧ Below w.heap.size w w'
theorem OutF.out {w w' : World} {ao : Option Addr} {ys : List Nat} {cap : Nat} (h : OutF w w' ao ys cap) : Out w w' ao ys cap := ⟨h.1, h.2.1, h.2.2.1, h.2.2.2.2⟩
theorem fresh_of {w : World} {g : Nat} (h : w.heap.size ≤ g) : ∀ a : Addr, (some ⟨g, 0, none⟩ : Option Addr) = some a → w.heap.size ≤ a.block := by
  intro a ha
  cases ha
  exact h

theorem app_f (N : Int) (ao : Option Addr) (xs : List Nat) (cap : Nat) (x : Nat) (n : Int) (w : World) (hx : Wd w ao xs) (hf : Fit xs) (hx64 : x < 18446744073709551616) (hl : xs.length ≤ 1048576) :
    Calls Try.prog 30 #[.agg #[.int .i64 N, .slice ao xs.length cap], .int .u64 x, .int .i64 n] w fun e w' => ∃ bo dap, e = .returned (.tuple #[.agg #[.int .i64 (appN N xs n), .slice bo (appL N xs x n).length dap], .int .i64 (appE N xs n)]) ∧ OutF w w' bo (appL N xs x n) dap := by
  by_cases h : chk N xs = false ∨ n < 0 ∨ 64 < n ∨ 1048576 < N + n
  · have e1 : appE N xs n = 2 := by unfold appE; rw [if_pos h]
    have e2 : appN N xs n = N := by unfold appN; rw [e1]; rfl
    have e3 : appL N xs x n = xs := by unfold appL; rw [e1]; rfl
    refine (app_bad N ao xs cap x n w hx hl h).mono ?_
    rintro e w' ⟨g, rfl, hfr, hO, hb⟩
    rw [e1, e2, e3]
    exact ⟨some ⟨g, 0, none⟩, xs.length, rfl, hO.wd, hf, Nat.le_refl _, fresh_of hfr, hb⟩
  · have hk : chk N xs = true := by cases hc : chk N xs with | true => rfl | false => exact absurd (.inl hc) h
    obtain ⟨h0, h1, _, _⟩ := chk_out N xs hk
    obtain ⟨m, rfl⟩ := Int.eq_ofNat_of_zero_le (show 0 ≤ n by omega)
    have e1 : appE N xs m = 0 := by unfold appE; rw [if_neg h]
    have e2 : appN N xs m = N + m := by unfold appN; rw [e1]; rfl
    have e3 : appL N xs x m = rowOf (N + m).toNat (fun j => if j < N.toNat then bitAt xs j else x.testBit (j - N.toNat)) := by unfold appL; rw [e1]; rfl
    refine (app_ok N ao xs cap x m ((N.toNat + m + 63) / 64) w hx hf hx64 hk (by omega) (by omega) (by omega)).mono ?_
    rintro e w' ⟨g, rfl, hfr, hO, hb⟩
    have e4 := append_row N xs hf hk x m (by omega) _ rfl
    rw [show N.toNat + m = (N + m).toNat by omega, ← e3] at e4
    rw [show (N.toNat + m + 63) / 64 = ((N + m).toNat + 63) / 64 by omega] at *
    rw [e4] at hO
    have e5 : (appL N xs x m).length = ((N + m).toNat + 63) / 64 := by rw [e3, length_rowOf]
    refine ⟨some ⟨g, 0, none⟩, ((N + m).toNat + 63) / 64, by rw [e5, e1, e2], hO.wd, ?_, by omega, fresh_of hfr, hb⟩
    rw [e3]; exact fit_rowOf _ _

theorem app_c (N : Int) (ao : Option Addr) (xs : List Nat) (cap : Nat) (x : Nat) (n : Int) (w : World) (hx : Wd w ao xs) (hf : Fit xs) (hx64 : x < 18446744073709551616) (hl : xs.length ≤ 1048576) :
    Calls Try.prog 30 #[.agg #[.int .i64 N, .slice ao xs.length cap], .int .u64 x, .int .i64 n] w fun e w' => ∃ bo dap, e = .returned (.tuple #[.agg #[.int .i64 (appN N xs n), .slice bo (appL N xs x n).length dap], .int .i64 (appE N xs n)]) ∧ Out w w' bo (appL N xs x n) dap :=
  (app_f N ao xs cap x n w hx hf hx64 hl).mono fun _ _ ⟨bo, dap, he, ho⟩ => ⟨bo, dap, he, ho.out⟩
end Go.Proofs.Ytcjhiolginpgoaa

namespace Go.Proofs.Ytcjhiolginpgoaa
open Go.RowKit Num Bit

theorem get_end (xs : List Nat) (hg : Fit xs) (i : Nat) (j k : Nat) (hj : j = i / 64) (hk : k = i % 64) : (bits BinOp.and IntKind.u64 ((gt xs j : Int) / 2 ^ k) 1 == 1) = bitAt xs i := by
  subst hj hk
  have h := hg (i / 64)
  rw [bit_and _ _ (by omega) (by omega)]
  unfold bitAt
  rw [bit_test, Int.toNat_natCast, Bool.eq_iff_iff, beq_iff_eq, decide_eq_true_eq]
  omega

theorem get_c (N : Int) (ao : Option Addr) (xs : List Nat) (cap : Nat) (i : Int) (w : World) (hx : Wd w ao xs) (hg : Fit xs) :
    Calls Try.prog 34 #[.agg #[.int .i64 N, .slice ao xs.length cap], .int .i64 i] w fun e w' => e = .returned (.tuple #[.bool (getB N xs i), .int .i64 (getE N xs i)]) ∧ Below w.heap.size w w' := by
  have K : ∀ o, Wd (w.alloc o) ao xs := fun o => hx.keep (below_alloc w o)
  by_cases hE : getE N xs i = 0
  · have hk : chk N xs = true := by unfold getE at hE; cases h : chk N xs with | true => rfl | false => simp [h] at hE
    have hi : 0 ≤ i ∧ i < N := by
      unfold getE at hE; rw [if_neg (by simp [hk])] at hE
      by_cases h : i < 0 ∨ N ≤ i
      · rw [if_pos h] at hE; omega
      · omega
    obtain ⟨hc0, hc1, hc2, _⟩ := chk_out N xs hk
    obtain ⟨n, rfl⟩ := Int.eq_ofNat_of_zero_le hi.1
    obtain ⟨b, off, rfl, hb, hc⟩ := hx (by omega)
    have hE' : (getE N xs n == 0) = true := by simpa using hE
    have hB : Hid (bitAt xs n = getB N xs n) := by unfold getB; rw [hk, show decide (0 ≤ (n : Int) ∧ (n : Int) < N) = true by simpa using hi.2]; simp [Hid]
    have hcj := hc (n / 64) (by omega)
    clear hx hk hc
    obtain ⟨h0, h1⟩ := hi
    have hl : (n : Int) / 64 < (xs.length : Int) := by omega
    clear hc2 
    go_enter Try.func34, Try.ntmps34
    go_wp2_with (go_at_call 50; refine (place_c _ _ _ _ _ _ (K _)).mono ?_; rintro e w' ⟨rfl, hb⟩; obtain ⟨c0, c1, hz, hw⟩ := box_cells hb; have hcw := (hw.cell (p := ⟨_, off + n / 64, none⟩) (by assumption)).trans hcj; clear hb)
    go_ret2
    exact ⟨ret_pair (congrArg Value.bool ((get_end xs hg n _ _ rfl rfl).trans hB.out)) (congrArg (Value.int IntKind.i64) hE.symm), by assumption⟩
  · have hE' : (getE N xs i == 0) = false := by simpa using hE
    have hB : Hid (false = getB N xs i) := by
      unfold getB getE at *
      cases h : chk N xs with
      | false => simp [Hid]
      | true =>
        simp only [h] at hE
        by_cases h2 : i < 0 ∨ N ≤ i
        · have : decide (0 ≤ i ∧ i < N) = false := by simp; omega
          rw [this]; simp [Hid]
        · simp [h2] at hE
    clear hE
    go_enter Try.func34, Try.ntmps34
    go_wp2_with (go_at_call 50; refine (place_c _ _ _ _ _ _ (K _)).mono ?_; rintro e w' ⟨rfl, hb⟩; obtain ⟨c0, c1, hz, hw⟩ := box_cells hb; clear hb)
    go_ret2
    exact ⟨ret_pair (congrArg Value.bool hB.out) rfl, by assumption⟩

end Go.Proofs.Ytcjhiolginpgoaa

namespace Go.Proofs.Ytcjhiolginpgoaa
open Go.RowKit Num Bit
set_option linter.unusedVariables false
set_option linter.unusedSimpArgs false
set_option maxRecDepth 100000

theorem one2 {a b : Value} (ha : a.oneCell' = true) (hb : b.oneCell' = true) : ([a, b] : List Value).toArray.all (·.oneCell') = true := all_oneCell_toArray fun v hv => by
  simp only [List.mem_cons, List.not_mem_nil, or_false] at hv
  rcases hv with rfl | rfl
  · exact ha
  · exact hb
/-- The bits of a row with a code behind. -/
def putB (N : Nat) (B : Nat → Bool) (x L : Nat) (j : Nat) : Bool := if j < N then B j else x.testBit (L - 1 - (j - N))
theorem put_row (N L x : Nat) (B : Nat → Bool) (hx : x < 18446744073709551616) (h1 : 1 ≤ L) (h40 : L ≤ 40) (hN : N + L ≤ 1048576) :
    appE (N : Nat) (rowOf N B) (L : Nat) = 0 ∧ appN (N : Nat) (rowOf N B) (L : Nat) = ((N + L : Nat) : Int) ∧ appL (N : Nat) (rowOf N B) (rv x / 2 ^ (64 - L)) (L : Nat) = rowOf (N + L) (putB N B x L) := by
  have hk := chk_rowOf N B (by omega)
  have e1 : appE (N : Nat) (rowOf N B) (L : Nat) = 0 := by
    unfold appE
    rw [if_neg]
    rintro (h | h | h | h)
    · rw [hk] at h; cases h
    · omega
    · omega
    · omega
  refine ⟨e1, by unfold appN; rw [e1]; rfl, ?_⟩
  unfold appL
  rw [e1, if_pos rfl, show ((N : Int) + (L : Int)).toNat = N + L by omega, Int.toNat_natCast]
  refine rowOf_congr _ _ _ fun j hj => ?_
  unfold putB
  by_cases c : j < N
  · rw [if_pos c, if_pos c, bitAt_rowOf]
    simp [c]
  · rw [if_neg c, if_neg c, Nat.testBit_div_two_pow, (rv_spec x hx).2 _ (by omega)]
    congr 1
    omega
set_option maxHeartbeats 4000000 in
theorem jput_c (N L x : Nat) (B : Nat → Bool) (ao : Option Addr) (n cap : Nat) (w : World) (hn : n = (rowOf N B).length) (hW : Wd w ao (rowOf N B)) (hx : x < 18446744073709551616) (h1 : 1 ≤ L) (h40 : L ≤ 40) (hN : N + L ≤ 1048576) :
    Calls Try.prog 17 #[.agg #[.int .i64 (N : Nat), .slice ao n cap], .agg #[.int .i64 (L : Nat), .int .u64 (x : Nat)]] w fun e w' => ∃ bo dap, e = .returned (.tuple #[.agg #[.int .i64 ((N + L : Nat) : Int), .slice bo (rowOf (N + L) (putB N B x L)).length dap], .int .i64 0]) ∧ OutF w w' bo (rowOf (N + L) (putB N B x L)) dap := by
  subst hn
  obtain ⟨p1, p2, p3⟩ := put_row N L x B hx h1 h40 hN
  have hrv := (rv_spec x hx).1
  have hdl : rv x / 2 ^ (64 - L) < 18446744073709551616 := Nat.lt_of_le_of_lt (Nat.div_le_self _ _) hrv
  have hlen : (rowOf N B).length ≤ 1048576 := by rw [length_rowOf]; omega
  have CA : Hid (∀ (t : Int) (w0 : World), t = ((rv x / 2 ^ (64 - L) : Nat) : Int) → Below w.heap.size w w0 → Calls Try.prog 30 #[.agg #[.int .i64 (N : Nat), .slice ao (rowOf N B).length cap], .int .u64 t, .int .i64 (L : Nat)] w0 fun e w' => ∃ bo dap, e = .returned (.tuple #[.agg #[.int .i64 ((N + L : Nat) : Int), .slice bo (rowOf (N + L) (putB N B x L)).length dap], .int .i64 0]) ∧ OutF w0 w' bo (rowOf (N + L) (putB N B x L)) dap) := fun t w0 ht hb => by
    subst ht
    have := app_f (N : Nat) ao (rowOf N B) cap (rv x / 2 ^ (64 - L)) (L : Nat) w0 (hW.keep hb) (fit_rowOf _ _) hdl hlen
    rw [p1, p2, p3] at this
    exact this
  have CR : Hid (∀ w0, Calls Try.prog 29 #[.int .u64 (x : Nat)] w0 fun e w' => e = .returned (.int .u64 (rv x : Nat)) ∧ w' = w0) := fun w0 => jrv_c x hx w0
  obtain ⟨W, hWW⟩ : ∃ W, W = ((w.alloc (.cells #[.int .i64 (N : Nat), .slice ao (rowOf N B).length cap] 45)).alloc (.cells #[.int .i64 (L : Nat), .int .u64 (x : Nat)] 33)).alloc (.cells #[.int .i64 0, .slice none 0 0] 45) := ⟨_, rfl⟩
  have bW : Below w.heap.size w W := by rw [hWW]; exact ((below_alloc w _).alloc (by simp) _).alloc (by simp; omega) _
  have zW : Hid (W.heap.size = w.heap.size + 3) := by show _ = _; rw [hWW]; simp
  have B1 : Cel W w.heap.size [.int .i64 (N : Nat), .slice ao (rowOf N B).length cap] 45 := by rw [hWW]; exact ((Cel.new w _ _).alloc _).alloc _
  have B2 : Cel W (w.heap.size + 1) [.int .i64 (L : Nat), .int .u64 (x : Nat)] 33 := by rw [hWW]; exact (Cel.new2 w _ _ _).alloc _
  have B3 : Cel W (w.heap.size + 2) [.int .i64 0, .slice none 0 0] 45 := by
    rw [hWW]
    have := Cel.new ((w.alloc (.cells #[.int .i64 (N : Nat), .slice ao (rowOf N B).length cap] 45)).alloc (.cells #[.int .i64 (L : Nat), .int .u64 (x : Nat)] 33)) [.int .i64 0, .slice none 0 0] 45
    simpa using this
  have c0 := B1.cell 0 rfl
  have c1 := B1.cell 1 rfl
  have d0 := B2.cell 0 rfl
  have d1 := B2.cell 1 rfl
  clear hW p1 p2 p3
  generalize (rowOf N B).length = n at *
  generalize rowOf (N + L) (putB N B x L) = ys at *
  have lz : (64 : Int) - (L : Int) = ((64 - L : Nat) : Int) := by omega
  have l64 : ((64 - L : Nat) : Int) < 64 := by omega
  generalize rv x = y at *
  obtain ⟨s, hs⟩ : ∃ s : Nat, s = 64 - L := ⟨_, rfl⟩
  rw [← hs] at lz l64 CA
  clear hs hdl hrv
  have L1 : ¬ (L : Int) < 0 := by omega
  have L2 : ¬ (40 : Int) < (L : Int) := by omega
  go_enter Try.func17, Try.ntmps17
  go_wp2
  rw [← hWW]
  go_quiet ((go_at_call 29; exact Calls.quiet_of_same (CR.out _)))
  have HB1 : Hid (Below w.heap.size w (W.drewN nq)) := below_drewN bW nq
  have B3' : Cel (W.drewN nq) (w.heap.size + 1 + 1) [.int .i64 0, .slice none 0 0] 45 := B3
  have zD : Hid ((W.drewN nq).heap.size = w.heap.size + 3) := zW.out
  have et : (y : Int) / 2 ^ s = ((y / 2 ^ s : Nat) : Int) := by rw [Int.natCast_ediv, Int.natCast_pow]; rfl
  have ET := hide et
  clear B1 B2 B3 et hWW bW zW CR
  have c0' : (W.drewN nq).cell? ⟨w.heap.size, 0, none⟩ = some (.int .i64 (N : Nat)) := c0
  have c1' : (W.drewN nq).cell? ⟨w.heap.size, 1, none⟩ = some (.slice ao n cap) := c1
  have d0' : (W.drewN nq).cell? ⟨w.heap.size + 1, 0, none⟩ = some (.int .i64 (L : Nat)) := d0
  clear c0 c1 d0 d1
  generalize W.drewN nq = V at *
  go_wp2_with fail
  refine (CA.out _ _ ET.out HB1.out).mono ?_
  rintro e w2 ⟨bo, dap, rfl, hO⟩
  have hb2 := hO.2.2.2.2
  have B4 : Cel w2 (w.heap.size + 1 + 1) [.int .i64 0, .slice none 0 0] 45 := B3'.kept hb2
  have HO := hide hO
  have zs : Hid (V.heap.size ≤ w2.heap.size) := hb2.size
  clear hO hb2 B3' c0' c1' d0' CA
  have B5 := B4.alloc (.cells #[.int .i64 ((N + L : Nat) : Int), .slice bo ys.length dap] 45)
  generalize hZ : ((N + L : Nat) : Int) = Z at *
  have HZ := hide hZ
  clear hZ
  go_wp2_with (refine store_cel (w.heap.size + 1 + 1) [.int .i64 0, .slice none 0 0] [.int .i64 Z, .slice bo ys.length dap] rfl rfl B5 rfl (by kernel_rfl) (one2 rfl rfl) ?_)
  intro w5 hc5 ho5
  have HC5 := hide hc5
  have HF : Hid (OutF w w5 bo ys dap) := by
    obtain ⟨o1, o2, o3, o4, o5⟩ := HO.out
    have e1 := zD.out
    have e2 := zs.out
    have k1 := below_alloc w2 (.cells #[.int .i64 Z, .slice bo ys.length dap] 45)
    refine ⟨ho5.wd (o1.keep k1) (fun a _ ha => by have := o4 a ha; omega), o2, o3, fun a ha => by have := o4 a ha; omega, ?_⟩
    exact ((HB1.out.trans (o5.mono (by omega))).trans (k1.mono (by omega))).trans (ho5.below (by omega))
  clear hc5 ho5 HO B4 B5
  go_wp2
  (try simp only [Exit.inBlock, Exit.then])
  exact bodyPost_ret (result_cel rfl (w.heap.size + 1 + 1) _ rfl HC5.out Try.underlying45 (by kernel_rfl)) rfl ⟨bo, dap, by rw [HZ.out]; rfl, HF.out⟩
end Go.Proofs.Ytcjhiolginpgoaa

namespace Go.Proofs.Ytcjhiolginpgoaa
open Go.RowKit Num Bit Ji Hp Ka Hr
set_option linter.unusedVariables false
set_option linter.unusedSimpArgs false
set_option maxRecDepth 100000

theorem cds_fst (v : Nat → Nat) (c : Nat) (h : c < 256) : (cds v)[c * 2]? = some (.int .i64 (v c : Nat)) := bl2_fst _ _ _ _ h
theorem cds_snd (v : Nat → Nat) (c : Nat) (h : c < 256) : (cds v)[c * 2 + 1]? = some (.int .u64 (cod v c : Nat)) := bl2_snd _ _ _ _ h

set_option maxHeartbeats 2000000 in
theorem jeq_c (g1 c1 g2 c2 : Nat) (v : Nat → Nat) (w : World) (h1 : Cel w g1 (cds v) 33) (h2 : Cel w g2 (cds v) 33) :
    Calls Try.prog 48 #[.slice (some ⟨g1, 0, none⟩) 256 c1, .slice (some ⟨g2, 0, none⟩) 256 c2] w fun e w' => e = .returned (.bool true) ∧ Below w.heap.size w w' := by
  have H1 := hide h1
  have H2 := hide h2
  clear h1 h2
  go_enter Try.func48, Try.ntmps48
  go_wp2
  go_loopw [13] (fun vi wr => ∃ q : Nat, q ≤ 256 ∧ vi = .int .i64 q ∧ Hid (Below w.heap.size w wr)) (fun vi _ => 256 - (intOf vi).toNat)
  case atStart => exact ⟨0, Nat.zero_le _, rfl, Below.refl _ _⟩
  case round =>
    obtain ⟨q, hq, rfl, HB⟩ := hrel
    by_cases hlt : q < 256
    · have hltz : (q : Int) < 256 := by omega
      have a0 := (H1.out.keep HB.out H1.out.lt).cell (q * 2) (cds_fst v q hlt)
      have a1 := (H1.out.keep HB.out H1.out.lt).cell (q * 2 + 1) (cds_snd v q hlt)
      have b0 := (H2.out.keep HB.out H2.out.lt).cell (q * 2) (cds_fst v q hlt)
      have b1 := (H2.out.keep HB.out H2.out.lt).cell (q * 2 + 1) (cds_snd v q hlt)
      generalize v q = x at *
      generalize cod v q = y at *
      go_wp2
      go_quiet (fail)
      have HB2 : Hid (∀ n, Below w.heap.size w (wr.drewN n)) := fun n => below_drewN HB.out n
      go_wp2
      exact ⟨⟨q + 1, by omega, by go_num, HB2.out _⟩, by simp only [intOf]; omega⟩
    · obtain rfl : q = 256 := by omega
      go_wp2
      go_ret
      exact ⟨rfl, HB.out⟩

/-- The lengths as a list. -/
def lst (v : Nat → Nat) : List Int := (List.range 256).map fun c => (v c : Int)
theorem length_lst (v : Nat → Nat) : (lst v).length = 256 := by simp [lst]
theorem gi_lst (v : Nat → Nat) (c : Nat) (h : c < 256) : gi (lst v) c = (v c : Int) := by
  unfold gi lst
  rw [List.getD_eq_getElem?_getD, List.getElem?_map, List.getElem?_range h]
  rfl
/-- Lengths that may be, and none beyond the symbols. -/
structure Lok (v : Nat → Nat) : Prop where
  le : ∀ c, v c ≤ 40
  out : ∀ c, 256 ≤ c → v c = 0
  fit : fitb v = true
theorem cnt_lst {v : Nat → Nat} (h : ∀ c, 256 ≤ c → v c = 0) : cntOf (lst v) = v := by
  funext c
  unfold cntOf
  by_cases g : c < 256
  · rw [gi_lst v c g, Int.toNat_natCast]
  · have : gi (lst v) c = 0 := by unfold gi; rw [List.getD_eq_getElem?_getD, List.getElem?_eq_none (by rw [length_lst]; omega)]; rfl
    rw [this, h c (by omega)]
    rfl
theorem win_of {l : List Int} {top : Int} (h1 : l.length = 256) (h2 : ∀ i, i < l.length → 0 ≤ gi l i ∧ gi l i ≤ top) : win l top = true := by
  unfold win
  have : l.any (bad top) = false := any_false fun i hi => by
    have := h2 i hi
    unfold bad
    simp
    omega
  rw [this]
  simp [h1]
theorem lok_lst {v : Nat → Nat} (h : Lok v) : lok (lst v) = true := by
  unfold lok
  rw [win_of (length_lst v) (fun i hi => by rw [length_lst] at hi; rw [gi_lst v i hi]; have := h.le i; omega), cnt_lst h.out, h.fit]
  rfl
def lnQ (v : Nat → Nat) (q : Nat) : List Nat := (List.range 256).map fun c => if c < q then v c else 0
theorem lnQ_zero (v : Nat → Nat) : lnQ v 0 = List.replicate 256 0 := by
  unfold lnQ
  rw [List.eq_replicate_iff]
  refine ⟨by simp, fun b hb => ?_⟩
  obtain ⟨c, _, rfl⟩ := List.mem_map.1 hb
  simp
theorem lnQ_step (v : Nat → Nat) (q : Nat) (h : q < 256) : (lnQ v q).set q (v q) = lnQ v (q + 1) := by
  refine List.ext_getElem? fun c => ?_
  unfold lnQ
  rw [List.getElem?_set, List.length_map, List.length_range]
  by_cases c2 : c < 256
  · rw [List.getElem?_map, List.getElem?_map, List.getElem?_range c2]
    by_cases e : q = c
    · subst e
      rw [if_pos rfl, if_pos h]
      simp
    · rw [if_neg e]
      simp only [Option.map_some]
      congr 1
      by_cases d : c < q
      · rw [if_pos d, if_pos (by omega)]
      · rw [if_neg d, if_neg (by omega)]
  · rw [if_neg (by omega), List.getElem?_eq_none (by simp; omega), List.getElem?_eq_none (by simp; omega)]
theorem nd_ivh {w : World} {g : Nat} {v : Nat → Nat} (h : Cel w g (ivh (lnQ v 256)) 3) : Nd w (some ⟨g, 0, none⟩) (lst v) := fun _ => by
  refine ⟨g, 0, rfl, h.lt, fun i hi => ?_⟩
  rw [length_lst] at hi
  rw [gi_lst v i hi, Nat.zero_add]
  have := h.cell i (ivh_get _ i (by simp [lnQ]; omega))
  rw [this]
  unfold lnQ
  rw [List.getD_eq_getElem?_getD, List.getElem?_map, List.getElem?_range hi]
  simp [hi]

set_option maxHeartbeats 4000000 in
theorem jcanon_c (g cap : Nat) (v : Nat → Nat) (w : World) (hC : Cel w g (cds v) 33) (hv : Lok v) :
    Calls Try.prog 31 #[.slice (some ⟨g, 0, none⟩) 256 cap] w fun e w' => e = .returned (.bool true) ∧ Below w.heap.size w w' := by
  obtain ⟨i0, hi, hz0, hz1, hz2⟩ := info_parts info_i64
  have HCD := hide hC
  have HV := hide hv
  have hgw := hC.lt
  clear hC hv
  go_enter Try.func31, Try.ntmps31
  go_wp2_with (at_make; refine wpList_make_full _ rfl _ _ 22 rfl w.heap.size 3 i0 (.int .i64 0) 1 Try.underlying22 hi hz0 hz1 .i64 .i64 _ _ 256 rfl rfl rfl rfl ?b2 ?b3 ?b4 ?_)
  case b2 => rw [hz2]; omega
  case b3 => unfold maxLen; omega
  case b4 => simp
  intro w1 hown hgr
  have B1 := cel_made1 hown
  have hb1 : Below w.heap.size w w1 := (Below.refl _ _).grown hgr (Nat.le_refl _) (fun k h => by cases h)
  rw [← lnQ_zero v] at B1
  have HL1 := hide B1
  have HB1 := hide hb1
  clear hown hgr hb1 hi hz0 hz1 hz2 B1
  obtain ⟨gl, hgl⟩ : ∃ gl, Hid (gl = w.heap.size) := ⟨_, rfl⟩
  rw [← hgl.out] at HL1 ⊢
  go_wp2
  go_loopw [13] (fun vi wr => ∃ q : Nat, q ≤ 256 ∧ vi = .int .i64 q ∧ Hid (Cel wr gl (ivh (lnQ v q)) 3) ∧ Hid (Below w.heap.size w wr)) (fun vi _ => 256 - (intOf vi).toNat)
  case atStart => exact ⟨0, Nat.zero_le _, rfl, HL1, HB1⟩
  case round =>
    clear HL1 HB1
    obtain ⟨q, hq, rfl, HL, HB⟩ := hrel
    by_cases hlt : q < 256
    · have hltz : (q : Int) < 256 := by omega
      have a0 := (HCD.out.keep HB.out hgw).cell (q * 2) (cds_fst v q hlt)
      have a1 := (HCD.out.keep HB.out hgw).cell (q * 2 + 1) (cds_snd v q hlt)
      have n0 := HL.out.cell q (ivh_get _ q (by simp [lnQ]; omega))
      have f0 := HL.out.frozen q
      have glt : gl < wr.heap.size := HL.out.lt
      have HL1 : Hid (∀ o : Obj, Cel ((wr.setCell ⟨gl, q, none⟩ (.int .i64 (v q : Nat))).alloc o) gl (ivh (lnQ v (q + 1))) 3) := fun o => by
        have := HL.out.set q (.int .i64 (v q : Nat))
        rw [ivh_set, lnQ_step v q hlt] at this
        exact this.alloc o
      have HB1 : Hid (∀ (o : Obj) y, Below w.heap.size w ((wr.setCell ⟨gl, q, none⟩ y).alloc o)) := fun o y => (HB.out.setCell (by show w.heap.size ≤ gl; have := hgl.out; omega) y).alloc (by have := HB.out.size; simpa using this) o
      clear HL HB
      generalize v q = x at *
      generalize cod v q = y at *
      go_wp2
      exact ⟨⟨q + 1, by omega, by go_num, HL1.out _, HB1.out _ _⟩, by simp only [intOf]; omega⟩
    · obtain rfl : q = 256 := by omega
      have C1 : Hid (Calls Try.prog 10 #[.slice (some ⟨gl, 0, none⟩) 256 256] wr fun e w' => CO wr v e w') := by
        have := jcodes_c (some ⟨gl, 0, none⟩) (lst v) 256 wr (nd_ivh HL.out) (by rw [length_lst]; omega) (lok_lst HV.out)
        rw [length_lst, cnt_lst HV.out.out] at this
        exact this
      have HCE : Hid (Cel wr g (cds v) 33) := HCD.out.keep HB.out hgw
      clear HL
      go_wp2_with fail
      refine (C1.out).mono ?_
      rintro e w2 ⟨g2, rfl, hc2, hg2, hb2⟩
      have HB2 := hide (HB.out.trans (hb2.mono HB.out.size))
      have C2 := hide (jeq_c g cap g2 256 v w2 (HCE.out.kept hb2) hc2)
      clear hc2 hg2 hb2 C1 HCE
      go_wp2_with fail
      refine (C2.out).mono ?_
      rintro e w3 ⟨rfl, hb3⟩
      have HB3 := hide (HB2.out.trans (hb3.mono HB2.out.size))
      clear hb3
      go_wp2
      go_ret
      exact ⟨rfl, HB3.out⟩
theorem jlonger_c (L x : Nat) (bit : Bool) (w : World) (hL : L ≤ 64) (hx : x < 4611686018427387904) :
    Calls Try.prog 35 #[.agg #[.int .i64 (L : Nat), .int .u64 (x : Nat)], .bool bit] w fun e w' => e = .returned (.agg #[.int .i64 ((L + 1 : Nat) : Int), .int .u64 ((2 * x + (if bit = true then 1 else 0) : Nat) : Int)]) ∧ Below w.heap.size w w' := by
  cases bit with
  | false =>
    have e2 : (2 : Int) * (x : Int) = (x : Int) * 2 := by omega
    go_enter Try.func35, Try.ntmps35
    go_wp2
    refine bodyPost_ret (result_cel1 rfl (w.heap.size + 1) [.int .i64 ((L : Int) + 1), .int .u64 ((x : Int) * 2)] rfl ((Cel.new2 w _ _ _).alloc _) Try.underlying33 (by kernel_rfl)) rfl ⟨?_, ?_⟩
    · try rw [e2]
      rfl
    · exact ((below_alloc w _).alloc (by simp) _).alloc (by simp; omega) _
  | true =>
    have e2 : (2 : Int) * (x : Int) = (x : Int) * 2 := by omega
    go_enter Try.func35, Try.ntmps35
    go_wp2
    refine bodyPost_ret (result_cel1 rfl (w.heap.size + 1) [.int .i64 ((L : Int) + 1), .int .u64 ((x : Int) * 2 + 1)] rfl ((Cel.new2 w _ _ _).alloc _) Try.underlying33 (by kernel_rfl)) rfl ⟨?_, ?_⟩
    · try rw [e2]
      rfl
    · exact ((below_alloc w _).alloc (by simp) _).alloc (by simp; omega) _
/-- Does c's code begin so? -/
def beg (v : Nat → Nat) (n x c : Nat) : Bool := decide (n ≤ v c) && decide (cod v c / 2 ^ (v c - n) = x)
theorem jbeg_c (l c n x gr : Nat) (w : World) (hr : Cel w gr [.int .i64 (n : Nat), .int .u64 (x : Nat)] 33) (hl : l ≤ 40) (hc : c < 18446744073709551616) :
    Calls Try.prog 33 #[.agg #[.int .i64 (l : Nat), .int .u64 (c : Nat)], .pointer (some ⟨gr, 0, none⟩)] w fun e w' => e = .returned (.bool (decide (n ≤ l) && decide (c / 2 ^ (l - n) = x))) ∧ Below w.heap.size w w' := by
  have r0 := hr.cell 0 rfl
  have r1 := hr.cell 1 rfl
  have glt : gr < w.heap.size := hr.lt
  have b0 := below_alloc w (.cells #[.int .i64 (l : Nat), .int .u64 (c : Nat)] 33)
  have HB := hide b0
  clear hr b0
  by_cases h : n ≤ l
  · have hz : (n : Int) ≤ (l : Int) := by omega
    obtain ⟨s, hs⟩ : ∃ s : Nat, s = l - n := ⟨_, rfl⟩
    have lz : (l : Int) - (n : Int) = (s : Int) := by omega
    have s64 : (s : Int) < 64 := by omega
    have R : Hid ((decide (n ≤ l) && decide (c / 2 ^ (l - n) = x)) = decide ((c : Int) / 2 ^ s = (x : Int))) := by
      show _ = _
      rw [← hs, decide_eq_true h, Bool.true_and, decide_eq_decide]
      have e : (c : Int) / 2 ^ s = ((c / 2 ^ s : Nat) : Int) := by rw [Int.natCast_ediv, Int.natCast_pow]; rfl
      rw [e]
      constructor
      · intro g; rw [g]
      · intro g; exact Int.ofNat.inj g
    clear hs
    go_enter Try.func33, Try.ntmps33
    go_wp2
    go_quiet (fail)
    go_wp2
    go_ret
    rw [R.out]
    exact ⟨ret_bool (by rw [Bool.eq_iff_iff]; simp), below_drewN HB.out _⟩
  · have hz : ¬ (n : Int) ≤ (l : Int) := by omega
    have R : Hid ((decide (n ≤ l) && decide (c / 2 ^ (l - n) = x)) = false) := by show _ = _; rw [decide_eq_false h]; rfl
    go_enter Try.func33, Try.ntmps33
    go_wp2
    go_quiet (fail)
    go_wp2
    go_ret
    rw [R.out]
    exact ⟨rfl, below_drewN HB.out _⟩
/-- The first that begins so, or none. -/
def IdxC (v : Nat → Nat) (n x : Nat) (e : Ending) : Prop := (∃ c : Nat, c < 256 ∧ e = .returned (.int .i64 (c : Nat)) ∧ beg v n x c = true) ∨ (e = .returned (.int .i64 (-1)) ∧ ∀ c, c < 256 → beg v n x c = false)
set_option maxHeartbeats 2000000 in
theorem jidxc_c (g cap n x gr : Nat) (v : Nat → Nat) (w : World) (hC : Cel w g (cds v) 33) (hr : Cel w gr [.int .i64 (n : Nat), .int .u64 (x : Nat)] 33) (hv : ∀ c, v c ≤ 40) (hc : ∀ c, c < 256 → cod v c < 18446744073709551616) :
    Calls Try.prog 36 #[.slice (some ⟨g, 0, none⟩) 256 cap, .func (.func 33) #[] #[.pointer (some ⟨gr, 0, none⟩)]] w fun e w' => IdxC v n x e ∧ Below w.heap.size w w' := by
  have HCD := hide hC
  have C : Hid (∀ (c : Nat) (w0 : World), c < 256 → Below w.heap.size w w0 → Calls Try.prog 33 #[.agg #[.int .i64 (v c : Nat), .int .u64 (cod v c : Nat)], .pointer (some ⟨gr, 0, none⟩)] w0 fun e w' => e = .returned (.bool (beg v n x c)) ∧ Below w0.heap.size w0 w') := fun c w0 h hb => jbeg_c (v c) (cod v c) n x gr w0 (hr.keep hb hr.lt) (hv c) (hc c h)
  have hgw := hC.lt
  clear hC hr hv hc
  go_enter Try.func36, Try.ntmps36
  go_wp2
  go_loopw [8] (fun i wr => ∃ k : Nat, k ≤ 256 ∧ i = .int .i64 k ∧ Hid (∀ j, j < k → beg v n x j = false) ∧ Hid (Below w.heap.size w wr)) (fun i _ => 256 - (intOf i).toNat)
  case atStart => exact ⟨0, by omega, rfl, fun j hj => absurd hj (by omega), Below.refl _ _⟩
  case round =>
    obtain ⟨k, hk, rfl, H, HB⟩ := hrel
    by_cases hlt : k < 256
    · have hltz : (k : Int) < 256 := by omega
      have a0 := (HCD.out.keep HB.out hgw).cell (k * 2) (cds_fst v k hlt)
      have a1 := (HCD.out.keep HB.out hgw).cell (k * 2 + 1) (cds_snd v k hlt)
      have C1 := hide (C.out k wr hlt HB.out)
      cases hv : beg v n x k with
      | true =>
        have HV := hide hv
        rw [hv] at C1
        clear hv
        generalize v k = p at *
        generalize cod v k = q at *
        go_wp2_with fail
        refine (C1.out).mono ?_
        rintro e w1 ⟨rfl, hb1⟩
        have HB1 := hide (HB.out.trans (hb1.mono HB.out.size))
        clear hb1
        go_wp2
        go_ret
        exact ⟨.inl ⟨k, hlt, rfl, HV.out⟩, HB1.out⟩
      | false =>
        rw [hv] at C1
        have HN : Hid (∀ j, j < k + 1 → beg v n x j = false) := fun j hj => by
          by_cases e : j = k
          · subst e; exact hv
          · exact H.out j (by omega)
        clear H hv
        generalize v k = p at *
        generalize cod v k = q at *
        go_wp2_with fail
        refine (C1.out).mono ?_
        rintro e w1 ⟨rfl, hb1⟩
        have HB1 := hide (HB.out.trans (hb1.mono HB.out.size))
        clear hb1
        go_wp2
        exact ⟨⟨k + 1, by omega, by go_num, HN, HB1⟩, by simp only [intOf]; omega⟩
    · obtain rfl : k = 256 := by omega
      go_wp2
      go_ret
      exact ⟨.inr ⟨rfl, H.out⟩, HB.out⟩
end Go.Proofs.Ytcjhiolginpgoaa

namespace Go.Proofs.Ytcjhiolginpgoaa.Hs
open Hr

/-- The number that n bits from a place on make, the highest first. -/
def bv (f : Nat → Bool) (at_ : Nat) : Nat → Nat
  | 0 => 0
  | n + 1 => 2 * bv f at_ n + (if f (at_ + n) = true then 1 else 0)
def hit (l : Nat → Nat) (k x n : Nat) : Option Nat := (List.range k).find? fun c => decide (0 < n) && (decide (l c = n) && decide (code l k c = x))
def may (l : Nat → Nat) (k x n : Nat) : Bool := (List.range k).any fun c => decide (n < l c) && decide (code l k c / 2 ^ (l c - n) = x)
/-- The symbol, the place behind it, the error. -/
def rd (l : Nat → Nat) (k : Nat) (f : Nat → Bool) (N at_ : Nat) : Nat → Nat → Nat × Nat × Nat
  | 0, _ => (0, 0, 161)
  | u + 1, n =>
    match hit l k (bv f at_ n) n with
    | some c => (c, at_ + n, 0)
    | none => if may l k (bv f at_ n) n = true then (if N ≤ at_ + n then (0, 0, 160) else rd l k f N at_ u (n + 1)) else (0, 0, 161)
theorem bv_code (f : Nat → Bool) (at_ x L : Nat) (hx : x < 2 ^ L) (h : ∀ i, i < L → f (at_ + i) = x.testBit (L - 1 - i)) : ∀ n, n ≤ L → bv f at_ n = x / 2 ^ (L - n) := by
  intro n
  induction n with
  | zero =>
    intro _
    show 0 = _
    rw [Nat.sub_zero, Nat.div_eq_of_lt hx]
  | succ n ih =>
    intro hn
    show 2 * bv f at_ n + _ = _
    rw [ih (by omega), h n (by omega), show L - 1 - n = L - (n + 1) by omega, show L - n = (L - (n + 1)) + 1 by omega, Nat.pow_succ, ← Nat.div_div_eq_div_mul, Nat.testBit_eq_decide_div_mod_eq]
    generalize x / 2 ^ (L - (n + 1)) = y
    by_cases c : y % 2 = 1
    · rw [if_pos (decide_eq_true c)]; omega
    · rw [if_neg (by simpa using c)]; omega
theorem hit_none {l : Nat → Nat} {k c n : Nat} (h40 : l c ≤ 40) (hc : c < k) (hl : 0 < l c) (hn : n < l c) : hit l k (code l k c / 2 ^ (l c - n)) n = none := by
  unfold hit
  rw [List.find?_eq_none]
  intro a ha
  have ha := List.mem_range.1 ha
  simp only [Bool.and_eq_true, decide_eq_true_eq]
  rintro ⟨h1, rfl, h3⟩
  exact (apart l k (a := a) (b := c) h1 hl h40 ha hc (fun e => by subst e; omega) (by omega)).1 h3.symm
theorem hit_some {l : Nat → Nat} {k c : Nat} (h40 : l c ≤ 40) (hc : c < k) (hl : 0 < l c) : hit l k (code l k c) (l c) = some c := by
  unfold hit
  cases e : (List.range k).find? (fun a => decide (0 < l c) && (decide (l a = l c) && decide (code l k a = code l k c))) with
  | none =>
    rw [List.find?_eq_none] at e
    exact absurd (show _ = true by simp [hl]) (e c (List.mem_range.2 hc))
  | some a =>
    have h1 := List.find?_some e
    have ha := List.mem_range.1 (List.mem_of_find?_eq_some e)
    simp only [Bool.and_eq_true, decide_eq_true_eq] at h1
    obtain ⟨_, h2, h3⟩ := h1
    by_cases g : a = c
    · rw [g]
    · have := (apart l k (a := a) (b := c) (by omega) hl h40 ha hc g (by omega)).1
      rw [h2, Nat.sub_self, Nat.pow_zero, Nat.div_one] at this
      exact absurd h3.symm this
theorem may_true {l : Nat → Nat} {k c n : Nat} (hc : c < k) (hn : n < l c) : may l k (code l k c / 2 ^ (l c - n)) n = true := by
  unfold may
  rw [List.any_eq_true]
  exact ⟨c, List.mem_range.2 hc, by simp [hn]⟩
/-- What was put is read. -/
theorem reads (l : Nat → Nat) (k : Nat) (f : Nat → Bool) (N at_ c : Nat) (hc : c < k) (hl : 0 < l c) (h40 : l c ≤ 40) (hx : code l k c < 2 ^ l c) (hN : at_ + l c ≤ N) (h : ∀ i, i < l c → f (at_ + i) = (code l k c).testBit (l c - 1 - i)) :
    ∀ d u n, n + d = l c → d < u → rd l k f N at_ u n = (c, at_ + l c, 0) := by
  intro d
  induction d with
  | zero =>
    intro u n e hu
    obtain rfl : n = l c := by omega
    obtain ⟨u, rfl⟩ : ∃ v, u = v + 1 := ⟨u - 1, by omega⟩
    have b := bv_code f at_ _ _ hx h (l c) (Nat.le_refl _)
    rw [Nat.sub_self, Nat.pow_zero, Nat.div_one] at b
    unfold rd
    rw [b, hit_some h40 hc hl]
  | succ d ih =>
    intro u n e hu
    obtain ⟨u, rfl⟩ : ∃ v, u = v + 1 := ⟨u - 1, by omega⟩
    have b := bv_code f at_ _ _ hx h n (by omega)
    unfold rd
    rw [b, hit_none h40 hc hl (by omega), may_true hc (by omega)]
    simp only [if_true]
    rw [if_neg (by omega)]
    exact ih u (n + 1) (by omega) (by omega)
end Go.Proofs.Ytcjhiolginpgoaa.Hs
