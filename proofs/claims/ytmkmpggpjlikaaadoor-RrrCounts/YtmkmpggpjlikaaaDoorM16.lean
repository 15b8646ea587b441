/-
  The contracts of heads and small.
-/
import Derived.Test.YtmkmpggpjlikaaaDoorM15
namespace Go.Proofs.YtmkmpggpjlikaaaDoor
open Go.RowKit Num Bit
set_option linter.unusedVariables false
set_option linter.unusedSimpArgs false
set_option maxRecDepth 100000

def smB (a : RA) : Bool := (decide (a.N ≤ 3000) && (decide (a.k ≤ 3000) && (decide ((a.xs.length : Int) ≤ 3000) && (decide ((a.ys.length : Int) ≤ 3000) && (decide ((a.S.length : Int) ≤ 3000) && decide ((a.T.length : Int) ≤ 3000))))))
theorem sm_out (a : RA) (h : smB a = true) : a.N ≤ 3000 ∧ a.k ≤ 3000 ∧ (a.xs.length : Int) ≤ 3000 ∧ (a.ys.length : Int) ≤ 3000 ∧ (a.S.length : Int) ≤ 3000 ∧ (a.T.length : Int) ≤ 3000 := by
  unfold smB at h
  simp only [Bool.and_eq_true, decide_eq_true_eq] at h
  exact h
theorem KArg.ki {w : World} {cs : List Value} {a : RA} (h : KArg w cs a) (hs : smB a = true) : KI w cs a := by
  have := sm_out a hs
  exact ⟨h, by omega, by omega, by omega, by omega⟩
theorem fit22 : Fit [22] := by
  intro i
  cases i with
  | zero => decide
  | succ i => unfold gt; simp
theorem wd22 (w : World) : Wd (w.alloc (.cells #[.int .u64 22] 46)) (some ⟨w.heap.size, 0, none⟩) [22] := by
  intro _
  refine ⟨w.heap.size, 0, rfl, by simp, fun i hi => ?_⟩
  have hi : i < 1 := hi
  obtain rfl : i = 0 := by omega
  simp [gt]
theorem kE5 : kE 5 [22] = 0 := by decide +kernel
theorem kE1 : kE 1 [] = 2 := by decide +kernel
theorem told5 : gaB true 5 [22] 4 = true ∧ gaE true 5 [22] 4 = 0 ∧ grN true 5 [22] true 4 = 2 ∧ grE true 5 4 = 0 ∧ gsX true 5 [22] true 2 = 4 ∧ gsE true 5 [22] true 2 = 0 ∧ gsX true 5 [22] false 1 = 3 ∧ gsE true 5 [22] false 1 = 0 ∧ gsX true 5 [22] true 3 = 0 ∧ gsE true 5 [22] true 3 = 3 := by decide +kernel

set_option maxHeartbeats 8000000 in
theorem heads_c (w : World) : Calls Tryd.prog 7 #[] w fun e w' => e = .returned (.bool true) ∧ Below w.heap.size w w' := by
  obtain ⟨ok5, n5, x5⟩ := kB_ok 5 [22] fit22 (by decide)
  have z5 := kZ_pos 5 [22] fit22 (by decide)
  obtain ⟨W, hW⟩ : ∃ W, W = w.alloc (.cells #[.int .u64 22] 46) := ⟨_, rfl⟩
  have bW : Below w.heap.size w W := by rw [hW]; exact below_alloc w _
  have hx : Wd W (some ⟨w.heap.size, 0, none⟩) [22] := by
    rw [hW]
    exact wd22 w
  have H1 : Hid (∀ w0, w0 = W → Calls Tryd.prog 8 #[.agg #[.int .i64 5, .slice (some ⟨w.heap.size, 0, none⟩) 1 1]] w0 fun e w' => ∃ cs : List Value, e = .returned (.tuple #[.agg cs.toArray, .int .i64 0]) ∧ KI w' cs (kB 5 [22]) ∧ Below w0.heap.size w0 w') := fun w0 h => by
    subst h
    have := build_k 5 (some ⟨w.heap.size, 0, none⟩) [22] 1 w0 (by unfold I64; decide) hx fit22 (by decide) (by decide)
    rw [kE5] at this
    exact this
  have H7 : Hid (∀ w0 : World, Calls Tryd.prog 8 #[.agg #[.int .i64 1, .slice none 0 0]] w0 fun e w' => ∃ cs : List Value, e = .returned (.tuple #[.agg cs.toArray, .int .i64 2]) ∧ KI w' cs (kB 1 []) ∧ Below w0.heap.size w0 w') := fun w0 => by
    have := build_k 1 none [] 0 w0 (by unfold I64; decide) (wd0' _ _) (fun i => by unfold gt; simp) (by decide) (by decide)
    rw [kE1] at this
    exact this
  have H2 : Hid (∀ w0 cs, KI w0 cs (kB 5 [22]) → Calls Tryd.prog 10 #[.agg cs.toArray, .int .i64 4] w0 fun e w' => e = .returned (.tuple #[.bool true, .int .i64 0]) ∧ Below w0.heap.size w0 w') := fun w0 cs h => by
    have := access_k cs (kB 5 [22]) 4 w0 h (by unfold I64; decide)
    rw [ok5, n5, x5, told5.1, told5.2.1] at this
    exact this
  have H3 : Hid (∀ w0 cs, KI w0 cs (kB 5 [22]) → Calls Tryd.prog 9 #[.agg cs.toArray, .bool true, .int .i64 4] w0 fun e w' => e = .returned (.tuple #[.int .i64 2, .int .i64 0]) ∧ Below w0.heap.size w0 w') := fun w0 cs h => by
    have := rank_k cs (kB 5 [22]) true 4 w0 h (by unfold I64; decide)
    rw [ok5, n5, x5, told5.2.2.1, told5.2.2.2.1] at this
    exact this
  have H4 : Hid (∀ w0 cs, KI w0 cs (kB 5 [22]) → Calls Tryd.prog 15 #[.agg cs.toArray, .bool true, .int .i64 2] w0 fun e w' => e = .returned (.tuple #[.int .i64 4, .int .i64 0]) ∧ Below w0.heap.size w0 w') := fun w0 cs h => by
    have := select_k cs (kB 5 [22]) true 2 w0 h (by unfold I64; decide)
    rw [ok5, n5, x5, told5.2.2.2.2.1, told5.2.2.2.2.2.1] at this
    exact this
  have H5 : Hid (∀ w0 cs, KI w0 cs (kB 5 [22]) → Calls Tryd.prog 15 #[.agg cs.toArray, .bool false, .int .i64 1] w0 fun e w' => e = .returned (.tuple #[.int .i64 3, .int .i64 0]) ∧ Below w0.heap.size w0 w') := fun w0 cs h => by
    have := select_k cs (kB 5 [22]) false 1 w0 h (by unfold I64; decide)
    rw [ok5, n5, x5, told5.2.2.2.2.2.2.1, told5.2.2.2.2.2.2.2.1] at this
    exact this
  have H6 : Hid (∀ w0 cs, KI w0 cs (kB 5 [22]) → Calls Tryd.prog 15 #[.agg cs.toArray, .bool true, .int .i64 3] w0 fun e w' => e = .returned (.tuple #[.int .i64 0, .int .i64 3]) ∧ Below w0.heap.size w0 w') := fun w0 cs h => by
    have := select_k cs (kB 5 [22]) true 3 w0 h (by unfold I64; decide)
    rw [ok5, n5, x5, told5.2.2.2.2.2.2.2.2.1, told5.2.2.2.2.2.2.2.2.2] at this
    exact this
  have H8 : Hid (∀ w0 cs, KI w0 cs (kB 5 [22]) → Calls Tryd.prog 12 #[.agg cs.toArray] w0 fun e w' => e = .returned (.bool true) ∧ Below w0.heap.size w0 w') := fun w0 cs h => by
    have := check_k cs (kB 5 [22]) w0 h
    rw [ok5] at this
    exact this
  obtain ⟨Z5, hZ5⟩ : ∃ Z, Hid (Z = kZ (kB 5 [22])) := ⟨_, rfl⟩
  rw [← hZ5.out] at z5
  have H9 : Hid (∀ w0 cs, KI w0 cs (kB 5 [22]) → Calls Tryd.prog 11 #[.agg cs.toArray] w0 fun e w' => e = .returned (.int .i64 Z5) ∧ Below w0.heap.size w0 w') := fun w0 cs h => by
    have := size_k cs (kB 5 [22]) w0 h
    rw [← hZ5.out] at this
    exact this
  have HB : Hid (∀ w0 cs, KI w0 cs (kB 5 [22]) → Calls Tryd.prog 14 #[.agg cs.toArray] w0 fun e w' => ∃ bo bc, e = .returned (.agg #[.int .i64 5, .slice bo 1 bc]) ∧ Wd w' bo [22] ∧ Below w0.heap.size w0 w') := fun w0 cs h => by
    have := bits_k cs (kB 5 [22]) w0 h
    rw [n5, x5] at this
    refine this.mono ?_
    rintro e w' ⟨bo, bc, rfl, h1, _, hb⟩
    exact ⟨bo, bc, rfl, h1, hb⟩
  generalize kB 5 [22] = A5 at *
  clear ok5 n5 x5
  go_enter Tryd.func7, Tryd.ntmps7
  go_wp2_with fail
  rw [← hW]
  refine (H1.out _ rfl).mono ?_
  rintro e w1 ⟨cs, rfl, hP, hb⟩
  have hw := bW.trans (hb.mono bW.size)
  clear H1 hx bW hW W hb
  go_wp2_with (refine store_cel w1.heap.size [.int .i64 0, .int .i64 0, .int .i64 0, .int .i64 0, .slice none 0 0, .int .i64 0, .slice none 0 0, .slice none 0 0, .slice none 0 0] cs rfl rfl (Cel.new w1 [.int .i64 0, .int .i64 0, .int .i64 0, .int .i64 0, .slice none 0 0, .int .i64 0, .slice none 0 0, .slice none 0 0, .slice none 0 0] 31) hP.arg.nine hP.arg.len hP.arg.one ?_)
  intro w2 Bw2 Ow2
  have bw2 : Below w1.heap.size w1 w2 := (below_alloc w1 _).trans (Ow2.below (Nat.le_refl _))
  replace hP := hP.keep bw2
  replace hw := hw.trans (bw2.mono hw.size)
  clear Ow2 bw2
  have hB := Bw2
  clear Bw2
  generalize w1.heap.size = g at *
  go_wp2_with (refine load_obj g cs (by rfl) rfl hB Tryd.underlying31 hP.arg.len ?_)
  refine (H2.out _ _ hP).mono ?_
  rintro e w3 ⟨rfl, hb⟩
  replace hP := hP.keep hb
  replace hB := hB.kept hb
  replace hw := hw.trans (hb.mono hw.size)
  clear hb
  go_wp2_with (refine load_obj g cs (by rfl) rfl hB Tryd.underlying31 hP.arg.len ?_)
  refine (H3.out _ _ hP).mono ?_
  rintro e w4 ⟨rfl, hb⟩
  replace hP := hP.keep hb
  replace hB := hB.kept hb
  replace hw := hw.trans (hb.mono hw.size)
  clear hb
  go_wp2_with (refine load_obj g cs (by rfl) rfl hB Tryd.underlying31 hP.arg.len ?_)
  refine (H4.out _ _ hP).mono ?_
  rintro e w5 ⟨rfl, hb⟩
  replace hP := hP.keep hb
  replace hB := hB.kept hb
  replace hw := hw.trans (hb.mono hw.size)
  clear hb
  go_wp2_with (refine load_obj g cs (by rfl) rfl hB Tryd.underlying31 hP.arg.len ?_)
  refine (H5.out _ _ hP).mono ?_
  rintro e w6 ⟨rfl, hb⟩
  replace hP := hP.keep hb
  replace hB := hB.kept hb
  replace hw := hw.trans (hb.mono hw.size)
  clear hb
  go_wp2_with (refine load_obj g cs (by rfl) rfl hB Tryd.underlying31 hP.arg.len ?_)
  refine (H6.out _ _ hP).mono ?_
  rintro e w7 ⟨rfl, hb⟩
  replace hP := hP.keep hb
  replace hB := hB.kept hb
  replace hw := hw.trans (hb.mono hw.size)
  clear hb
  go_wp2_with fail
  refine (H7.out _).mono ?_
  rintro e w8 ⟨ds, rfl, hQ, hb⟩
  replace hP := hP.keep hb
  replace hB := hB.kept hb
  replace hw := hw.trans (hb.mono hw.size)
  clear hb H7
  go_wp2_with (refine store_cel w8.heap.size [.int .i64 0, .int .i64 0, .int .i64 0, .int .i64 0, .slice none 0 0, .int .i64 0, .slice none 0 0, .slice none 0 0, .slice none 0 0] ds rfl rfl (Cel.new w8 [.int .i64 0, .int .i64 0, .int .i64 0, .int .i64 0, .slice none 0 0, .int .i64 0, .slice none 0 0, .slice none 0 0, .slice none 0 0] 31) hQ.arg.nine hQ.arg.len hQ.arg.one ?_)
  intro w9 Bw9 Ow9
  have bw9 : Below w8.heap.size w8 w9 := (below_alloc w8 _).trans (Ow9.below (Nat.le_refl _))
  replace hQ := hQ.keep bw9
  replace hw := hw.trans (bw9.mono hw.size)
  replace hP := hP.keep bw9
  replace hB := hB.kept bw9
  clear Ow9 bw9
  clear Bw9 hQ
  go_wp2_with (refine load_obj g cs (by rfl) rfl hB Tryd.underlying31 hP.arg.len ?_)
  refine (H8.out _ _ hP).mono ?_
  rintro e wa ⟨rfl, hb⟩
  replace hP := hP.keep hb
  replace hB := hB.kept hb
  replace hw := hw.trans (hb.mono hw.size)
  clear hb
  go_wp2_with (refine load_obj g cs (by rfl) rfl hB Tryd.underlying31 hP.arg.len ?_)
  refine (H9.out _ _ hP).mono ?_
  rintro e wb ⟨rfl, hb⟩
  replace hP := hP.keep hb
  replace hB := hB.kept hb
  replace hw := hw.trans (hb.mono hw.size)
  clear hb
  go_wp2_with (refine load_obj g cs (by rfl) rfl hB Tryd.underlying31 hP.arg.len ?_)
  refine (HB.out _ _ hP).mono ?_
  rintro e wc ⟨ro, rc, rfl, hx2, hb⟩
  replace hw := hw.trans (hb.mono hw.size)
  clear hb HB hP hB
  have bZ := below_alloc wc (.cells #[.int .u64 22] 46)
  have S1 : Hid (∀ w0, w0 = wc.alloc (.cells #[.int .u64 22] 46) → Calls Tryd.prog 13 #[.agg #[.int .i64 5, .slice ro 1 rc], .agg #[.int .i64 5, .slice (some ⟨wc.heap.size, 0, none⟩) 1 1]] w0 fun e w' => e = .returned (.bool true) ∧ Below w0.heap.size w0 w') := fun w0 h => by
    subst h
    have := same_c 5 ro [22] rc 5 (some ⟨wc.heap.size, 0, none⟩) [22] 1 _ (hx2.keep bZ) (wd22 wc) (by decide)
    rw [show (decide ((5 : Int) = 5) && decide (([22] : List Nat) = [22])) = true by decide] at this
    exact this
  go_wp2_with fail
  refine (S1.out _ rfl).mono ?_
  rintro e wd ⟨rfl, hb⟩
  replace hw := (hw.trans (bZ.mono hw.size)).trans (hb.mono (Nat.le_trans hw.size bZ.size))
  go_wp2
  go_ret
  exact ⟨rfl, hw⟩
end Go.Proofs.YtmkmpggpjlikaaaDoor
