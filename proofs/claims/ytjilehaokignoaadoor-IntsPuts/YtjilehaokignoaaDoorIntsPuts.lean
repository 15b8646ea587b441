/-
  For every row of numbers, right or not, and all numbers: a number that is put is got, no other one is another, and what is refused leaves the row as it is (P3.2). No condition but that errors.errorType is as its text lays it (the card ties it).
-/
import Derived.Test.YtjilehaokignoaaDoorFx
import Derived.Test.YtjilehaokignoaaDoorOpenI
import Derived.Test.YtjilehaokignoaaDoorCards
import Derived.Test.YtjilehaokignoaaDoorTie
import Derived.ChangeOld
import Derived.LaidMore
import Derived.SevenTiedAt
namespace Go.Proofs.YtjilehaokignoaaDoor.intsPuts
open Go.ChangeShapes Go.WideShapes Go.ChangeAt Go.RowKit Num Bit
set_option linter.unusedVariables false
set_option maxRecDepth 100000

theorem puts_facts (N W M : Int) (xs : List Nat) (hf : Fit xs) (i : Int) (v : Nat) (hE : ipE N W M xs i v = 0) :
    ichk N W M (ipL N W M xs i v) = true ∧ igE N W M (ipL N W M xs i v) i = 0 ∧ igX N W M (ipL N W M xs i v) i = v ∧ ∀ j : Int, ¬ j = i → igX N W M (ipL N W M xs i v) j = igX N W M xs j ∧ igE N W M (ipL N W M xs i v) j = igE N W M xs j := by
  obtain ⟨g0, l0⟩ := ipE_zero N W M xs i v hE
  obtain ⟨hk, i0, i1⟩ := igE_zero N W M xs i g0
  obtain ⟨a1, a2, a3, a4, a5, a6, a7, a8⟩ := ichk_out N W M xs hk
  obtain ⟨n, rfl⟩ := Int.eq_ofNat_of_zero_le (show 0 ≤ W by omega)
  obtain ⟨k, rfl⟩ := Int.eq_ofNat_of_zero_le i0
  obtain ⟨m, rfl⟩ := Int.eq_ofNat_of_zero_le a6
  have hv : v < 2 ^ n := (lenI_fit v n).1 l0
  have ey : ipL N n m xs k v = rowOf m (fun j => if k * n ≤ j ∧ j < k * n + n then v.testBit (j - k * n) else bitAt xs j) := by
    unfold ipL; rw [if_pos hE, Int.toNat_natCast, Int.toNat_natCast, Int.toNat_natCast]
  have ck : ichk N n m (ipL N n m xs k v) = true := by
    unfold ichk
    rw [ey, chk_rowOf m _ (by omega), Bool.and_true, decide_eq_true_eq]
    exact ⟨a1, a2, a3, a4⟩
  have place : ∀ j : Nat, (j : Int) < N → j * n + n ≤ m := by
    intro j hj
    obtain ⟨_, q, _, _⟩ := get_place N n m j a1 a2 a3 a4 a7 (by omega) hj
    rw [← Int.natCast_mul] at q
    omega
  have bit : ∀ j b : Nat, (j : Int) < N → b < n → bitAt (ipL N n m xs k v) (j * n + b) = if j = k then v.testBit b else bitAt xs (j * n + b) := by
    intro j b hj hb
    have hp := place j hj
    rw [ey, bitAt_rowOf]
    simp only [show j * n + b < m by omega, decide_true, Bool.true_and]
    by_cases e : j = k
    · subst e
      rw [if_pos (by omega), if_pos rfl]
      congr 1
      omega
    · rw [if_neg e, if_neg]
      rcases Nat.lt_or_gt_of_ne e with h | h
      · have := mul_next k n j h; omega
      · have := mul_next j n k h; omega
  refine ⟨ck, igE_of _ _ _ _ _ ck (by omega) i1, ?_, ?_⟩
  · unfold igX
    rw [if_pos (igE_of _ _ _ _ _ ck (by omega) i1), Int.toNat_natCast, Int.toNat_natCast]
    refine (eq_numOf n v _ fun b => ?_).symm
    by_cases hb : b < n
    · rw [bit k b i1 hb, if_pos rfl]; simp [hb]
    · rw [Nat.testBit_lt_two_pow (Nat.lt_of_lt_of_le hv (Nat.pow_le_pow_right (by decide) (by omega)))]; simp [hb]
  · intro j hj
    have e2 : igE N n m (ipL N n m xs k v) j = igE N n m xs j := by unfold igE; rw [ck, hk]
    refine ⟨?_, e2⟩
    unfold igX
    rw [e2]
    by_cases hE2 : igE N n m xs j = 0
    · rw [if_pos hE2, if_pos hE2]
      obtain ⟨_, j0, j1⟩ := igE_zero N n m xs j hE2
      obtain ⟨q, rfl⟩ := Int.eq_ofNat_of_zero_le j0
      rw [Int.toNat_natCast, Int.toNat_natCast]
      refine numOf_congr _ _ _ fun b hb => ?_
      rw [bit q b j1 hb, if_neg (by omega)]
    · rw [if_neg hE2, if_neg hE2]

set_option maxHeartbeats 40000000 in
theorem walk (w : World) (E : ET w) (Nx Wx Mx : Int) (ax : Option Addr) (xx : List Nat) (cx : Nat) (hxN : -9223372036854775808 ≤ Nx ∧ Nx ≤ 9223372036854775807) (hxW : -9223372036854775808 ≤ Wx ∧ Wx ≤ 9223372036854775807) (hxM : -9223372036854775808 ≤ Mx ∧ Mx ≤ 9223372036854775807) (Xx : Wd w ax xx) (Fx : Fit xx) (Cx : xx.length ≤ cx) (i : Int) (hi : -9223372036854775808 ≤ i ∧ i ≤ 9223372036854775807) (v : Int) (hv : 0 ≤ v ∧ v < 18446744073709551616) (other : Int) (hother : -9223372036854775808 ≤ other ∧ other ≤ 9223372036854775807) :
    Calls Tryd.prog 6 #[.agg #[.int .i64 Nx, .int .i64 Wx, .int .i64 Mx, .slice ax xx.length cx], .int .i64 i, .int .u64 v, .int .i64 other] w fun e w' => e = .returned (.bool true) ∧ Below w.heap.size w w' := by
  obtain ⟨hi1, hi2⟩ := hi
  obtain ⟨u, rfl⟩ := Int.eq_ofNat_of_zero_le hv.1
  have hu : u < 18446744073709551616 := by omega
  by_cases s : Nx ≤ 1000 ∧ Mx ≤ 9000 ∧ (xx.length : Int) ≤ 1000
  case neg =>
    go_enter Tryd.func6, Tryd.ntmps6
    have hw : Below w.heap.size w w := Below.refl _ _
    go_wp2_with fail
    refine (ismall_f _ _ _ _ _ _ _ s).mono ?_
    rintro e w1 ⟨rfl, hb⟩
    have B := (Box4.new hb).1
    have hB : Below w.heap.size w w1 := Below.trans (by repeat (first | exact Below.refl _ _ | apply Below.drew | apply below_drewN | refine Below.alloc ?_ (by first | (simp; done) | (simp; omega)) _)) (hb.mono (by first | (simp; done) | (simp; omega) | omega))
    clear hb
    replace E := E.keep hB
    replace Xx := Xx.keep hB
    replace hw := hw.trans (hB.mono hw.size)
    clear hB
    have Bl := B.1
    have B0 := B.2.1
    have B1 := B.2.2.1
    have B2 := B.2.2.2.1
    have B3 := B.2.2.2.2
    go_wp2_with fail
    refine (heads_c _ (E.keep (by repeat (first | exact Below.refl _ _ | apply Below.drew | apply below_drewN | refine Below.alloc ?_ (by first | (simp; done) | (simp; omega)) _)))).mono ?_
    rintro e w2 ⟨rfl, hb⟩
    have hB : Below w1.heap.size w1 w2 := Below.trans (by repeat (first | exact Below.refl _ _ | apply Below.drew | apply below_drewN | refine Below.alloc ?_ (by first | (simp; done) | (simp; omega)) _)) (hb.mono (by first | (simp; done) | (simp; omega) | omega))
    clear hb
    clear Bl B0 B1 B2 B3
    replace B := B.keep hB
    replace E := E.keep hB
    replace Xx := Xx.keep hB
    replace hw := hw.trans (hB.mono hw.size)
    clear hB
    have Bl := B.1
    have B0 := B.2.1
    have B1 := B.2.2.1
    have B2 := B.2.2.2.1
    have B3 := B.2.2.2.2
    go_wp2
    go_ret
    exact ⟨rfl, hw⟩
  obtain ⟨s1, s2, s3⟩ := s
  have hl : xx.length ≤ 1048576 := by omega
  cases hk : ichk Nx Wx Mx xx with
  | false =>
    go_enter Tryd.func6, Tryd.ntmps6
    have hw : Below w.heap.size w w := Below.refl _ _
    go_wp2_with fail
    refine (ismall_t _ _ _ _ _ _ _ s1 s2 s3).mono ?_
    rintro e w1 ⟨rfl, hb⟩
    have B := (Box4.new hb).1
    have hB : Below w.heap.size w w1 := Below.trans (by repeat (first | exact Below.refl _ _ | apply Below.drew | apply below_drewN | refine Below.alloc ?_ (by first | (simp; done) | (simp; omega)) _)) (hb.mono (by first | (simp; done) | (simp; omega) | omega))
    clear hb
    replace E := E.keep hB
    replace Xx := Xx.keep hB
    replace hw := hw.trans (hB.mono hw.size)
    clear hB
    have Bl := B.1
    have B0 := B.2.1
    have B1 := B.2.2.1
    have B2 := B.2.2.2.1
    have B3 := B.2.2.2.2
    go_wp2_with fail
    refine (icheck_c _ _ _ _ _ _ _ (Xx.keep (by repeat (first | exact Below.refl _ _ | apply Below.drew | apply below_drewN | refine Below.alloc ?_ (by first | (simp; done) | (simp; omega)) _)))).mono ?_
    rintro e w2 ⟨rfl, hb⟩
    have hB : Below w1.heap.size w1 w2 := Below.trans (by repeat (first | exact Below.refl _ _ | apply Below.drew | apply below_drewN | refine Below.alloc ?_ (by first | (simp; done) | (simp; omega)) _)) (hb.mono (by first | (simp; done) | (simp; omega) | omega))
    clear hb
    clear Bl B0 B1 B2 B3
    replace B := B.keep hB
    replace E := E.keep hB
    replace Xx := Xx.keep hB
    replace hw := hw.trans (hB.mono hw.size)
    clear hB
    have Bl := B.1
    have B0 := B.2.1
    have B1 := B.2.2.1
    have B2 := B.2.2.2.1
    have B3 := B.2.2.2.2
    go_wp2_with fail
    refine (heads_c _ (E.keep (by repeat (first | exact Below.refl _ _ | apply Below.drew | apply below_drewN | refine Below.alloc ?_ (by first | (simp; done) | (simp; omega)) _)))).mono ?_
    rintro e w3 ⟨rfl, hb⟩
    have hB : Below w2.heap.size w2 w3 := Below.trans (by repeat (first | exact Below.refl _ _ | apply Below.drew | apply below_drewN | refine Below.alloc ?_ (by first | (simp; done) | (simp; omega)) _)) (hb.mono (by first | (simp; done) | (simp; omega) | omega))
    clear hb
    clear Bl B0 B1 B2 B3
    replace B := B.keep hB
    replace E := E.keep hB
    replace Xx := Xx.keep hB
    replace hw := hw.trans (hB.mono hw.size)
    clear hB
    have Bl := B.1
    have B0 := B.2.1
    have B1 := B.2.2.1
    have B2 := B.2.2.2.1
    have B3 := B.2.2.2.2
    go_wp2
    go_ret
    exact ⟨rfl, hw⟩
  | true =>
    by_cases hE : ipE Nx Wx Mx xx i u = 0
    case neg =>
      have eL : ipL Nx Wx Mx xx i u = xx := by unfold ipL; rw [if_neg hE]
      have hne : (ipE Nx Wx Mx xx i u != 0) = true := by simpa using hE
      have PUT : ∀ w0 : World, ET w0 → Wd w0 ax xx → Calls Tryd.prog 15 #[.agg #[.int .i64 Nx, .int .i64 Wx, .int .i64 Mx, .slice ax xx.length cx], .int .i64 i, .int .u64 u] w0 fun e w' => ∃ bo dap, e = .returned (.tuple #[.agg #[.int .i64 Nx, .int .i64 Wx, .int .i64 Mx, .slice bo xx.length dap], .int .i64 (ipE Nx Wx Mx xx i u)]) ∧ OutF w0 w' bo xx dap := by
        intro w0 h1 h2
        have h := iput_c Nx Wx Mx ax xx cx i u w0 h1 h2 Fx hl hu
        rw [eL] at h
        exact h
      clear hE eL
      go_enter Tryd.func6, Tryd.ntmps6
      have hw : Below w.heap.size w w := Below.refl _ _
      go_wp2_with fail
      refine (ismall_t _ _ _ _ _ _ _ s1 s2 s3).mono ?_
      rintro e w1 ⟨rfl, hb⟩
      have B := (Box4.new hb).1
      have hB : Below w.heap.size w w1 := Below.trans (by repeat (first | exact Below.refl _ _ | apply Below.drew | apply below_drewN | refine Below.alloc ?_ (by first | (simp; done) | (simp; omega)) _)) (hb.mono (by first | (simp; done) | (simp; omega) | omega))
      clear hb
      replace E := E.keep hB
      replace Xx := Xx.keep hB
      replace hw := hw.trans (hB.mono hw.size)
      clear hB
      have Bl := B.1
      have B0 := B.2.1
      have B1 := B.2.2.1
      have B2 := B.2.2.2.1
      have B3 := B.2.2.2.2
      go_wp2_with fail
      refine (icheck_c _ _ _ _ _ _ _ (Xx.keep (by repeat (first | exact Below.refl _ _ | apply Below.drew | apply below_drewN | refine Below.alloc ?_ (by first | (simp; done) | (simp; omega)) _)))).mono ?_
      rintro e w2 ⟨rfl, hb⟩
      have hB : Below w1.heap.size w1 w2 := Below.trans (by repeat (first | exact Below.refl _ _ | apply Below.drew | apply below_drewN | refine Below.alloc ?_ (by first | (simp; done) | (simp; omega)) _)) (hb.mono (by first | (simp; done) | (simp; omega) | omega))
      clear hb
      clear Bl B0 B1 B2 B3
      replace B := B.keep hB
      replace E := E.keep hB
      replace Xx := Xx.keep hB
      replace hw := hw.trans (hB.mono hw.size)
      clear hB
      have Bl := B.1
      have B0 := B.2.1
      have B1 := B.2.2.1
      have B2 := B.2.2.2.1
      have B3 := B.2.2.2.2
      go_wp2_with fail
      refine (PUT _ (E.keep (by repeat (first | exact Below.refl _ _ | apply Below.drew | apply below_drewN | refine Below.alloc ?_ (by first | (simp; done) | (simp; omega)) _))) (Xx.keep (by repeat (first | exact Below.refl _ _ | apply Below.drew | apply below_drewN | refine Below.alloc ?_ (by first | (simp; done) | (simp; omega)) _)))).mono ?_
      rintro e w3 ⟨yo, yc, rfl, Y, _, _, _, hb⟩
      have hB : Below w2.heap.size w2 w3 := Below.trans (by repeat (first | exact Below.refl _ _ | apply Below.drew | apply below_drewN | refine Below.alloc ?_ (by first | (simp; done) | (simp; omega)) _)) (hb.mono (by first | (simp; done) | (simp; omega) | omega))
      clear hb
      clear Bl B0 B1 B2 B3
      replace B := B.keep hB
      replace E := E.keep hB
      replace Xx := Xx.keep hB
      replace hw := hw.trans (hB.mono hw.size)
      clear hB
      have Bl := B.1
      have B0 := B.2.1
      have B1 := B.2.2.1
      have B2 := B.2.2.2.1
      have B3 := B.2.2.2.2
      go_wp2_with fail
      refine (isame_eq _ _ _ _ _ _ _ _ _ (Y.keep (by repeat (first | exact Below.refl _ _ | apply Below.drew | apply below_drewN | refine Below.alloc ?_ (by first | (simp; done) | (simp; omega)) _))) (Xx.keep (by repeat (first | exact Below.refl _ _ | apply Below.drew | apply below_drewN | refine Below.alloc ?_ (by first | (simp; done) | (simp; omega)) _))) hl).mono ?_
      rintro e w4 ⟨rfl, hb⟩
      have C := (Box4.new hb).1
      have hB : Below w3.heap.size w3 w4 := Below.trans (by repeat (first | exact Below.refl _ _ | apply Below.drew | apply below_drewN | refine Below.alloc ?_ (by first | (simp; done) | (simp; omega)) _)) (hb.mono (by first | (simp; done) | (simp; omega) | omega))
      clear hb
      clear Bl B0 B1 B2 B3
      replace B := B.keep hB
      replace E := E.keep hB
      replace Xx := Xx.keep hB
      replace Y := Y.keep hB
      replace hw := hw.trans (hB.mono hw.size)
      clear hB
      have Bl := B.1
      have B0 := B.2.1
      have B1 := B.2.2.1
      have B2 := B.2.2.2.1
      have B3 := B.2.2.2.2
      have Cl := C.1
      have C0 := C.2.1
      have C1 := C.2.2.1
      have C2 := C.2.2.2.1
      have C3 := C.2.2.2.2
      go_wp2_with fail
      refine (heads_c _ (E.keep (by repeat (first | exact Below.refl _ _ | apply Below.drew | apply below_drewN | refine Below.alloc ?_ (by first | (simp; done) | (simp; omega)) _)))).mono ?_
      rintro e w5 ⟨rfl, hb⟩
      have hB : Below w4.heap.size w4 w5 := Below.trans (by repeat (first | exact Below.refl _ _ | apply Below.drew | apply below_drewN | refine Below.alloc ?_ (by first | (simp; done) | (simp; omega)) _)) (hb.mono (by first | (simp; done) | (simp; omega) | omega))
      clear hb
      clear Bl B0 B1 B2 B3
      clear Cl C0 C1 C2 C3
      replace B := B.keep hB
      replace C := C.keep hB
      replace E := E.keep hB
      replace Xx := Xx.keep hB
      replace Y := Y.keep hB
      replace hw := hw.trans (hB.mono hw.size)
      clear hB
      have Bl := B.1
      have B0 := B.2.1
      have B1 := B.2.2.1
      have B2 := B.2.2.2.1
      have B3 := B.2.2.2.2
      have Cl := C.1
      have C0 := C.2.1
      have C1 := C.2.2.1
      have C2 := C.2.2.2.1
      have C3 := C.2.2.2.2
      go_wp2
      go_ret
      exact ⟨rfl, hw⟩
    case pos =>
      obtain ⟨P1, P2, P3, P4⟩ := puts_facts Nx Wx Mx xx Fx i u hE
      obtain ⟨ys, eL⟩ : ∃ ys, ys = ipL Nx Wx Mx xx i u := ⟨_, rfl⟩
      have PUT : ∀ w0 : World, ET w0 → Wd w0 ax xx → Calls Tryd.prog 15 #[.agg #[.int .i64 Nx, .int .i64 Wx, .int .i64 Mx, .slice ax xx.length cx], .int .i64 i, .int .u64 u] w0 fun e w' => ∃ bo dap, e = .returned (.tuple #[.agg #[.int .i64 Nx, .int .i64 Wx, .int .i64 Mx, .slice bo ys.length dap], .int .i64 0]) ∧ OutF w0 w' bo ys dap := by
        intro w0 h1 h2
        have h := iput_c Nx Wx Mx ax xx cx i u w0 h1 h2 Fx hl hu
        rw [hE, ← eL] at h
        exact h
      rw [← eL] at P1 P2 P3 P4
      clear hE eL
      by_cases ej : other = i
      case pos =>
        subst ej
        clear P4
        go_enter Tryd.func6, Tryd.ntmps6
        have hw : Below w.heap.size w w := Below.refl _ _
        go_wp2_with fail
        refine (ismall_t _ _ _ _ _ _ _ s1 s2 s3).mono ?_
        rintro e w1 ⟨rfl, hb⟩
        have B := (Box4.new hb).1
        have hB : Below w.heap.size w w1 := Below.trans (by repeat (first | exact Below.refl _ _ | apply Below.drew | apply below_drewN | refine Below.alloc ?_ (by first | (simp; done) | (simp; omega)) _)) (hb.mono (by first | (simp; done) | (simp; omega) | omega))
        clear hb
        replace E := E.keep hB
        replace Xx := Xx.keep hB
        replace hw := hw.trans (hB.mono hw.size)
        clear hB
        have Bl := B.1
        have B0 := B.2.1
        have B1 := B.2.2.1
        have B2 := B.2.2.2.1
        have B3 := B.2.2.2.2
        go_wp2_with fail
        refine (icheck_c _ _ _ _ _ _ _ (Xx.keep (by repeat (first | exact Below.refl _ _ | apply Below.drew | apply below_drewN | refine Below.alloc ?_ (by first | (simp; done) | (simp; omega)) _)))).mono ?_
        rintro e w2 ⟨rfl, hb⟩
        have hB : Below w1.heap.size w1 w2 := Below.trans (by repeat (first | exact Below.refl _ _ | apply Below.drew | apply below_drewN | refine Below.alloc ?_ (by first | (simp; done) | (simp; omega)) _)) (hb.mono (by first | (simp; done) | (simp; omega) | omega))
        clear hb
        clear Bl B0 B1 B2 B3
        replace B := B.keep hB
        replace E := E.keep hB
        replace Xx := Xx.keep hB
        replace hw := hw.trans (hB.mono hw.size)
        clear hB
        have Bl := B.1
        have B0 := B.2.1
        have B1 := B.2.2.1
        have B2 := B.2.2.2.1
        have B3 := B.2.2.2.2
        go_wp2_with fail
        refine (PUT _ (E.keep (by repeat (first | exact Below.refl _ _ | apply Below.drew | apply below_drewN | refine Below.alloc ?_ (by first | (simp; done) | (simp; omega)) _))) (Xx.keep (by repeat (first | exact Below.refl _ _ | apply Below.drew | apply below_drewN | refine Below.alloc ?_ (by first | (simp; done) | (simp; omega)) _)))).mono ?_
        rintro e w3 ⟨yo, yc, rfl, Y, FY, _, _, hb⟩
        have hB : Below w2.heap.size w2 w3 := Below.trans (by repeat (first | exact Below.refl _ _ | apply Below.drew | apply below_drewN | refine Below.alloc ?_ (by first | (simp; done) | (simp; omega)) _)) (hb.mono (by first | (simp; done) | (simp; omega) | omega))
        clear hb
        clear Bl B0 B1 B2 B3
        replace B := B.keep hB
        replace E := E.keep hB
        replace Xx := Xx.keep hB
        replace hw := hw.trans (hB.mono hw.size)
        clear hB
        have Bl := B.1
        have B0 := B.2.1
        have B1 := B.2.2.1
        have B2 := B.2.2.2.1
        have B3 := B.2.2.2.2
        go_wp2_with fail
        refine (iget_c _ _ _ _ _ _ _ _ (E.keep (by repeat (first | exact Below.refl _ _ | apply Below.drew | apply below_drewN | refine Below.alloc ?_ (by first | (simp; done) | (simp; omega)) _))) (Y.keep (by repeat (first | exact Below.refl _ _ | apply Below.drew | apply below_drewN | refine Below.alloc ?_ (by first | (simp; done) | (simp; omega)) _))) FY).mono ?_
        rintro e w4 ⟨rfl, hb⟩
        have C := (Box4.new hb).1
        have hB : Below w3.heap.size w3 w4 := Below.trans (by repeat (first | exact Below.refl _ _ | apply Below.drew | apply below_drewN | refine Below.alloc ?_ (by first | (simp; done) | (simp; omega)) _)) (hb.mono (by first | (simp; done) | (simp; omega) | omega))
        clear hb
        clear Bl B0 B1 B2 B3
        replace B := B.keep hB
        replace E := E.keep hB
        replace Xx := Xx.keep hB
        replace Y := Y.keep hB
        replace hw := hw.trans (hB.mono hw.size)
        clear hB
        have Bl := B.1
        have B0 := B.2.1
        have B1 := B.2.2.1
        have B2 := B.2.2.2.1
        have B3 := B.2.2.2.2
        have Cl := C.1
        have C0 := C.2.1
        have C1 := C.2.2.1
        have C2 := C.2.2.2.1
        have C3 := C.2.2.2.2
        go_wp2_with fail
        refine (iget_c _ _ _ _ _ _ _ _ (E.keep (by repeat (first | exact Below.refl _ _ | apply Below.drew | apply below_drewN | refine Below.alloc ?_ (by first | (simp; done) | (simp; omega)) _))) (Xx.keep (by repeat (first | exact Below.refl _ _ | apply Below.drew | apply below_drewN | refine Below.alloc ?_ (by first | (simp; done) | (simp; omega)) _))) Fx).mono ?_
        rintro e w5 ⟨rfl, hb⟩
        have hB : Below w4.heap.size w4 w5 := Below.trans (by repeat (first | exact Below.refl _ _ | apply Below.drew | apply below_drewN | refine Below.alloc ?_ (by first | (simp; done) | (simp; omega)) _)) (hb.mono (by first | (simp; done) | (simp; omega) | omega))
        clear hb
        clear Bl B0 B1 B2 B3
        clear Cl C0 C1 C2 C3
        replace B := B.keep hB
        replace C := C.keep hB
        replace E := E.keep hB
        replace Xx := Xx.keep hB
        replace Y := Y.keep hB
        replace hw := hw.trans (hB.mono hw.size)
        clear hB
        have Bl := B.1
        have B0 := B.2.1
        have B1 := B.2.2.1
        have B2 := B.2.2.2.1
        have B3 := B.2.2.2.2
        have Cl := C.1
        have C0 := C.2.1
        have C1 := C.2.2.1
        have C2 := C.2.2.2.1
        have C3 := C.2.2.2.2
        go_wp2_with fail
        refine (iget_c _ _ _ _ _ _ _ _ (E.keep (by repeat (first | exact Below.refl _ _ | apply Below.drew | apply below_drewN | refine Below.alloc ?_ (by first | (simp; done) | (simp; omega)) _))) (Y.keep (by repeat (first | exact Below.refl _ _ | apply Below.drew | apply below_drewN | refine Below.alloc ?_ (by first | (simp; done) | (simp; omega)) _))) FY).mono ?_
        rintro e w6 ⟨rfl, hb⟩
        have hB : Below w5.heap.size w5 w6 := Below.trans (by repeat (first | exact Below.refl _ _ | apply Below.drew | apply below_drewN | refine Below.alloc ?_ (by first | (simp; done) | (simp; omega)) _)) (hb.mono (by first | (simp; done) | (simp; omega) | omega))
        clear hb
        clear Bl B0 B1 B2 B3
        clear Cl C0 C1 C2 C3
        replace B := B.keep hB
        replace C := C.keep hB
        replace E := E.keep hB
        replace Xx := Xx.keep hB
        replace Y := Y.keep hB
        replace hw := hw.trans (hB.mono hw.size)
        clear hB
        have Bl := B.1
        have B0 := B.2.1
        have B1 := B.2.2.1
        have B2 := B.2.2.2.1
        have B3 := B.2.2.2.2
        have Cl := C.1
        have C0 := C.2.1
        have C1 := C.2.2.1
        have C2 := C.2.2.2.1
        have C3 := C.2.2.2.2
        go_wp2_with fail
        refine (icheck_c _ _ _ _ _ _ _ (Y.keep (by repeat (first | exact Below.refl _ _ | apply Below.drew | apply below_drewN | refine Below.alloc ?_ (by first | (simp; done) | (simp; omega)) _)))).mono ?_
        rintro e w7 ⟨rfl, hb⟩
        have hB : Below w6.heap.size w6 w7 := Below.trans (by repeat (first | exact Below.refl _ _ | apply Below.drew | apply below_drewN | refine Below.alloc ?_ (by first | (simp; done) | (simp; omega)) _)) (hb.mono (by first | (simp; done) | (simp; omega) | omega))
        clear hb
        clear Bl B0 B1 B2 B3
        clear Cl C0 C1 C2 C3
        replace B := B.keep hB
        replace C := C.keep hB
        replace E := E.keep hB
        replace Xx := Xx.keep hB
        replace Y := Y.keep hB
        replace hw := hw.trans (hB.mono hw.size)
        clear hB
        have Bl := B.1
        have B0 := B.2.1
        have B1 := B.2.2.1
        have B2 := B.2.2.2.1
        have B3 := B.2.2.2.2
        have Cl := C.1
        have C0 := C.2.1
        have C1 := C.2.2.1
        have C2 := C.2.2.2.1
        have C3 := C.2.2.2.2
        go_wp2_with fail
        refine (heads_c _ (E.keep (by repeat (first | exact Below.refl _ _ | apply Below.drew | apply below_drewN | refine Below.alloc ?_ (by first | (simp; done) | (simp; omega)) _)))).mono ?_
        rintro e w8 ⟨rfl, hb⟩
        have hB : Below w7.heap.size w7 w8 := Below.trans (by repeat (first | exact Below.refl _ _ | apply Below.drew | apply below_drewN | refine Below.alloc ?_ (by first | (simp; done) | (simp; omega)) _)) (hb.mono (by first | (simp; done) | (simp; omega) | omega))
        clear hb
        clear Bl B0 B1 B2 B3
        clear Cl C0 C1 C2 C3
        replace B := B.keep hB
        replace C := C.keep hB
        replace E := E.keep hB
        replace Xx := Xx.keep hB
        replace Y := Y.keep hB
        replace hw := hw.trans (hB.mono hw.size)
        clear hB
        have Bl := B.1
        have B0 := B.2.1
        have B1 := B.2.2.1
        have B2 := B.2.2.2.1
        have B3 := B.2.2.2.2
        have Cl := C.1
        have C0 := C.2.1
        have C1 := C.2.2.1
        have C2 := C.2.2.2.1
        have C3 := C.2.2.2.2
        go_wp2
        go_ret
        exact ⟨rfl, hw⟩
      case neg =>
        have ej' : (other == i) = false := by simpa using ej
        obtain ⟨G1, G2⟩ := P4 other ej
        clear P4 ej
        go_enter Tryd.func6, Tryd.ntmps6
        have hw : Below w.heap.size w w := Below.refl _ _
        go_wp2_with fail
        refine (ismall_t _ _ _ _ _ _ _ s1 s2 s3).mono ?_
        rintro e w1 ⟨rfl, hb⟩
        have B := (Box4.new hb).1
        have hB : Below w.heap.size w w1 := Below.trans (by repeat (first | exact Below.refl _ _ | apply Below.drew | apply below_drewN | refine Below.alloc ?_ (by first | (simp; done) | (simp; omega)) _)) (hb.mono (by first | (simp; done) | (simp; omega) | omega))
        clear hb
        replace E := E.keep hB
        replace Xx := Xx.keep hB
        replace hw := hw.trans (hB.mono hw.size)
        clear hB
        have Bl := B.1
        have B0 := B.2.1
        have B1 := B.2.2.1
        have B2 := B.2.2.2.1
        have B3 := B.2.2.2.2
        go_wp2_with fail
        refine (icheck_c _ _ _ _ _ _ _ (Xx.keep (by repeat (first | exact Below.refl _ _ | apply Below.drew | apply below_drewN | refine Below.alloc ?_ (by first | (simp; done) | (simp; omega)) _)))).mono ?_
        rintro e w2 ⟨rfl, hb⟩
        have hB : Below w1.heap.size w1 w2 := Below.trans (by repeat (first | exact Below.refl _ _ | apply Below.drew | apply below_drewN | refine Below.alloc ?_ (by first | (simp; done) | (simp; omega)) _)) (hb.mono (by first | (simp; done) | (simp; omega) | omega))
        clear hb
        clear Bl B0 B1 B2 B3
        replace B := B.keep hB
        replace E := E.keep hB
        replace Xx := Xx.keep hB
        replace hw := hw.trans (hB.mono hw.size)
        clear hB
        have Bl := B.1
        have B0 := B.2.1
        have B1 := B.2.2.1
        have B2 := B.2.2.2.1
        have B3 := B.2.2.2.2
        go_wp2_with fail
        refine (PUT _ (E.keep (by repeat (first | exact Below.refl _ _ | apply Below.drew | apply below_drewN | refine Below.alloc ?_ (by first | (simp; done) | (simp; omega)) _))) (Xx.keep (by repeat (first | exact Below.refl _ _ | apply Below.drew | apply below_drewN | refine Below.alloc ?_ (by first | (simp; done) | (simp; omega)) _)))).mono ?_
        rintro e w3 ⟨yo, yc, rfl, Y, FY, _, _, hb⟩
        have hB : Below w2.heap.size w2 w3 := Below.trans (by repeat (first | exact Below.refl _ _ | apply Below.drew | apply below_drewN | refine Below.alloc ?_ (by first | (simp; done) | (simp; omega)) _)) (hb.mono (by first | (simp; done) | (simp; omega) | omega))
        clear hb
        clear Bl B0 B1 B2 B3
        replace B := B.keep hB
        replace E := E.keep hB
        replace Xx := Xx.keep hB
        replace hw := hw.trans (hB.mono hw.size)
        clear hB
        have Bl := B.1
        have B0 := B.2.1
        have B1 := B.2.2.1
        have B2 := B.2.2.2.1
        have B3 := B.2.2.2.2
        go_wp2_with fail
        refine (iget_c _ _ _ _ _ _ _ _ (E.keep (by repeat (first | exact Below.refl _ _ | apply Below.drew | apply below_drewN | refine Below.alloc ?_ (by first | (simp; done) | (simp; omega)) _))) (Y.keep (by repeat (first | exact Below.refl _ _ | apply Below.drew | apply below_drewN | refine Below.alloc ?_ (by first | (simp; done) | (simp; omega)) _))) FY).mono ?_
        rintro e w4 ⟨rfl, hb⟩
        have C := (Box4.new hb).1
        have hB : Below w3.heap.size w3 w4 := Below.trans (by repeat (first | exact Below.refl _ _ | apply Below.drew | apply below_drewN | refine Below.alloc ?_ (by first | (simp; done) | (simp; omega)) _)) (hb.mono (by first | (simp; done) | (simp; omega) | omega))
        clear hb
        clear Bl B0 B1 B2 B3
        replace B := B.keep hB
        replace E := E.keep hB
        replace Xx := Xx.keep hB
        replace Y := Y.keep hB
        replace hw := hw.trans (hB.mono hw.size)
        clear hB
        have Bl := B.1
        have B0 := B.2.1
        have B1 := B.2.2.1
        have B2 := B.2.2.2.1
        have B3 := B.2.2.2.2
        have Cl := C.1
        have C0 := C.2.1
        have C1 := C.2.2.1
        have C2 := C.2.2.2.1
        have C3 := C.2.2.2.2
        go_wp2_with fail
        refine (iget_c _ _ _ _ _ _ _ _ (E.keep (by repeat (first | exact Below.refl _ _ | apply Below.drew | apply below_drewN | refine Below.alloc ?_ (by first | (simp; done) | (simp; omega)) _))) (Xx.keep (by repeat (first | exact Below.refl _ _ | apply Below.drew | apply below_drewN | refine Below.alloc ?_ (by first | (simp; done) | (simp; omega)) _))) Fx).mono ?_
        rintro e w5 ⟨rfl, hb⟩
        have hB : Below w4.heap.size w4 w5 := Below.trans (by repeat (first | exact Below.refl _ _ | apply Below.drew | apply below_drewN | refine Below.alloc ?_ (by first | (simp; done) | (simp; omega)) _)) (hb.mono (by first | (simp; done) | (simp; omega) | omega))
        clear hb
        clear Bl B0 B1 B2 B3
        clear Cl C0 C1 C2 C3
        replace B := B.keep hB
        replace C := C.keep hB
        replace E := E.keep hB
        replace Xx := Xx.keep hB
        replace Y := Y.keep hB
        replace hw := hw.trans (hB.mono hw.size)
        clear hB
        have Bl := B.1
        have B0 := B.2.1
        have B1 := B.2.2.1
        have B2 := B.2.2.2.1
        have B3 := B.2.2.2.2
        have Cl := C.1
        have C0 := C.2.1
        have C1 := C.2.2.1
        have C2 := C.2.2.2.1
        have C3 := C.2.2.2.2
        go_wp2_with fail
        refine (iget_c _ _ _ _ _ _ _ _ (E.keep (by repeat (first | exact Below.refl _ _ | apply Below.drew | apply below_drewN | refine Below.alloc ?_ (by first | (simp; done) | (simp; omega)) _))) (Y.keep (by repeat (first | exact Below.refl _ _ | apply Below.drew | apply below_drewN | refine Below.alloc ?_ (by first | (simp; done) | (simp; omega)) _))) FY).mono ?_
        rintro e w6 ⟨rfl, hb⟩
        have hB : Below w5.heap.size w5 w6 := Below.trans (by repeat (first | exact Below.refl _ _ | apply Below.drew | apply below_drewN | refine Below.alloc ?_ (by first | (simp; done) | (simp; omega)) _)) (hb.mono (by first | (simp; done) | (simp; omega) | omega))
        clear hb
        clear Bl B0 B1 B2 B3
        clear Cl C0 C1 C2 C3
        replace B := B.keep hB
        replace C := C.keep hB
        replace E := E.keep hB
        replace Xx := Xx.keep hB
        replace Y := Y.keep hB
        replace hw := hw.trans (hB.mono hw.size)
        clear hB
        have Bl := B.1
        have B0 := B.2.1
        have B1 := B.2.2.1
        have B2 := B.2.2.2.1
        have B3 := B.2.2.2.2
        have Cl := C.1
        have C0 := C.2.1
        have C1 := C.2.2.1
        have C2 := C.2.2.2.1
        have C3 := C.2.2.2.2
        go_wp2_with fail
        refine (icheck_c _ _ _ _ _ _ _ (Y.keep (by repeat (first | exact Below.refl _ _ | apply Below.drew | apply below_drewN | refine Below.alloc ?_ (by first | (simp; done) | (simp; omega)) _)))).mono ?_
        rintro e w7 ⟨rfl, hb⟩
        have hB : Below w6.heap.size w6 w7 := Below.trans (by repeat (first | exact Below.refl _ _ | apply Below.drew | apply below_drewN | refine Below.alloc ?_ (by first | (simp; done) | (simp; omega)) _)) (hb.mono (by first | (simp; done) | (simp; omega) | omega))
        clear hb
        clear Bl B0 B1 B2 B3
        clear Cl C0 C1 C2 C3
        replace B := B.keep hB
        replace C := C.keep hB
        replace E := E.keep hB
        replace Xx := Xx.keep hB
        replace Y := Y.keep hB
        replace hw := hw.trans (hB.mono hw.size)
        clear hB
        have Bl := B.1
        have B0 := B.2.1
        have B1 := B.2.2.1
        have B2 := B.2.2.2.1
        have B3 := B.2.2.2.2
        have Cl := C.1
        have C0 := C.2.1
        have C1 := C.2.2.1
        have C2 := C.2.2.2.1
        have C3 := C.2.2.2.2
        go_wp2_with fail
        refine (heads_c _ (E.keep (by repeat (first | exact Below.refl _ _ | apply Below.drew | apply below_drewN | refine Below.alloc ?_ (by first | (simp; done) | (simp; omega)) _)))).mono ?_
        rintro e w8 ⟨rfl, hb⟩
        have hB : Below w7.heap.size w7 w8 := Below.trans (by repeat (first | exact Below.refl _ _ | apply Below.drew | apply below_drewN | refine Below.alloc ?_ (by first | (simp; done) | (simp; omega)) _)) (hb.mono (by first | (simp; done) | (simp; omega) | omega))
        clear hb
        clear Bl B0 B1 B2 B3
        clear Cl C0 C1 C2 C3
        replace B := B.keep hB
        replace C := C.keep hB
        replace E := E.keep hB
        replace Xx := Xx.keep hB
        replace Y := Y.keep hB
        replace hw := hw.trans (hB.mono hw.size)
        clear hB
        have Bl := B.1
        have B0 := B.2.1
        have B1 := B.2.2.1
        have B2 := B.2.2.2.1
        have B3 := B.2.2.2.2
        have Cl := C.1
        have C0 := C.2.1
        have C1 := C.2.2.1
        have C2 := C.2.2.2.1
        have C3 := C.2.2.2.2
        go_wp2
        go_ret
        exact ⟨rfl, hw⟩

theorem door_met (os : Os) (args : Array Value) : laidMetH Tryd.prog [("errors.errorType", Rows.laid_errors_errorType)] ((World.doorLaid Tryd.prog 400 os).forCall (fun _ _ => 0) ⟨#[], args, []⟩).memory :=
  laidMetH_of_parts (laidMet_nil _ _) (by kernel_rfl)

theorem lifted (os : Os) (started : os.Started) (H : Type) (enc : TypeId × Value → H) :
    ReturnsInHanded {} Tryd.checked os 6 .any (fun w args => (Rows.intsPutsSpec.pre enc Tryd.prog Tryd.f6 [] false w args ∧ laidMetH Tryd.prog [("errors.errorType", Rows.laid_errors_errorType)] w) ∧ sizedMet enc Tryd.prog Tryd.f6 (OpenSpec.ofChange Rows.intsPutsSpec) false w args)
      (Rows.intsPutsSpec.post enc Tryd.prog Tryd.f6 false true false false) := by
  refine returnsInHanded_of_change_and (C := Tryd.checked) (X := fun w _ => laidMetH Tryd.prog [("errors.errorType", Rows.laid_errors_errorType)] w) (fun _ _ _ hh h => h.of_heap hh) own started (by kernel_rfl) Tryd.func6
    (ChangeSpec.witness_shaped (enc := enc) (C := Tryd.checked) (os := os) (X := fun w _ => laidMetH Tryd.prog [("errors.errorType", Rows.laid_errors_errorType)] w) false (World.doorLaid Tryd.prog 400 os) #[.agg #[.int .i64 0, .int .i64 0, .int .i64 0, .slice none 0 0], .int .i64 0, .int .u64 0, .int .i64 0] 8 rfl (World.shaped_of_RefB (by kernel_rfl) (by kernel_rfl)) (by kernel_rfl) (by kernel_rfl) (by kernel_rfl) (door_met os _)) ?_
  intro W base args ds gs before hval0 hW _ _ hL _
  have hval : ∀ (j : Nat) t v, Tryd.f6.params[j]? = some t → args[j]? = some v → Value.okWide Tryd.prog W .any base t v := hval0
  have hW' := hW
  obtain ⟨p, q, hA0, hV, rfl, hfz, hnd⟩ := hW
  have hA : DataW.TrodAll enc Tryd.prog W 0 (fun _ => true) true Tryd.f6.params.toList args.toList ds p := hA0
  rw [Tryd.params6] at hA hval
  obtain ⟨v0, vs0, d0, ds0, p0, q0, hargs, rfl, rfl, h0, r0⟩ := trodAll_cons hA
  obtain ⟨v1, vs1, d1, ds1, p1, q1, rfl, rfl, rfl, h1, r1⟩ := trodAll_cons r0
  obtain ⟨v2, vs2, d2, ds2, p2, q2, rfl, rfl, rfl, h2, r2⟩ := trodAll_cons r1
  obtain ⟨v3, vs3, d3, ds3, p3, q3, rfl, rfl, rfl, h3, r3⟩ := trodAll_cons r2
  obtain ⟨rfl, rfl, rfl⟩ := trodAll_nil r3
  obtain rfl : args = #[v0, v1, v2, v3] := by cases args; simp_all
  obtain ⟨rfl, rfl⟩ := trodVars_none hV
  have k0 := h0
  have lt0 : ∀ x ∈ p0, x.block < W.heap.size := by obtain ⟨m, hm⟩ := k0; exact DataW.trod_lt m _ _ _ hm
  obtain ⟨Nx, Wx, Mx, ax, xx, cx, rfl, bx1, bx2, bx3, bx4, bx5, bx6⟩ := open_ints4 (hval 0 27 v0 rfl rfl) h0
  obtain ⟨i, rfl, rfl, rfl, w1⟩ := open_int Tryd.underlying3 (hval 1 3 v1 rfl rfl) h1
  obtain ⟨v, rfl, rfl, rfl, w2⟩ := open_int Tryd.underlying31 (hval 2 31 v2 rfl rfl) h2
  obtain ⟨other, rfl, rfl, rfl, w3⟩ := open_int Tryd.underlying3 (hval 3 3 v3 rfl rfl) h3
  clear hA0 hval0
  refine (walk W (et_of_laid hL) Nx Wx Mx ax xx cx bx1 bx2 bx3 bx4 bx5 bx6 i (i64_wf _ w1) v (u64_wf _ w2) other (i64_wf _ w3)).mono fun e W' ⟨he, bel⟩ => ?_
  subst he
  exact ⟨_, rfl, _, _, _, [], _, [], hW', trodAll_mk1 (shut_bool Tryd.underlying4 _), (trodAll_cons_mk (Below.trod laidOut (by kernel_rfl) (of_decide_eq_true (by kernel_rfl)) k0 bel lt0) (trodAll_cons_mk (shut_int Tryd.underlying3 w1) (trodAll_cons_mk (shut_int Tryd.underlying31 w2) (trodAll_cons_mk (shut_int Tryd.underlying3 w3) trodAll_mk0)))), rfl, bel.frame _, fun h => by cases h⟩

theorem over : Rows.intsPutsRow.holds Tryd.pinned (OpenSpec.ofChange Rows.intsPutsSpec) :=
  OpenClaim.holds_of_wide 6 Tryd.f6 rfl rfl rfl rfl rfl rfl rfl ⟨rfl, rfl, rfl, rfl, rfl⟩ rfl rfl rfl rfl rfl (by kernel_rfl) Tryd.func6 (by kernel_rfl)
    (of_decide_eq_true (by kernel_rfl)) (by unfold Func.isWrapper; first | (rw [if_pos (by decide +kernel)]; kernel_rfl) | (rw [if_neg (by decide +kernel)]; exact ⟨rfl, rfl⟩))
    (fun os started H enc _ => lifted os started H enc)

theorem proved : Rows.IntsPutsCardSaid :=
  Claim7.holds_tied_plain_at .later [] [.handle] true (true, "ddd179aae804cd5fe4d58a7f688ecba0d555650f9f20d33ce8723e8ead9036f9") true
    over (fun _ h => by cases h) (by kernel_rfl) (fun _ h => by cases h) intsPuts_row_tie rfl ⟨rfl, rfl⟩ (by kernel_rfl) rfl
    (fun f fn hf hfn => by
      obtain rfl : f = 6 := Option.some.inj ((show Tryd.prog.funcNamed "haystack/haystacklaw03.IntsPuts" = some 6 by kernel_rfl).symm.trans hf) |>.symm
      obtain rfl : fn = Tryd.f6 := (Option.some.inj (Tryd.func6.symm.trans hfn)).symm
      exact ⟨by kernel_rfl, fun j t ht => by
        rw [Tryd.params6] at ht
        have hm : t ∈ [27, 3, 31, 3] := by simpa using Array.mem_of_getElem? ht
        have hall : ([27, 3, 31, 3].all fun u => !Tryd.prog.wantsStandIn u) = true := by kernel_rfl
        exact (show Tryd.prog.wantsStandIn t = false by simpa using List.all_eq_true.1 hall t hm)⟩)
    (by kernel_rfl)
end Go.Proofs.YtjilehaokignoaaDoor.intsPuts
namespace Go.Proofs.YtjilehaokignoaaDoor
theorem intsPuts_holds : Rows.IntsPutsCardSaid := intsPuts.proved
#print axioms intsPuts_holds
end Go.Proofs.YtjilehaokignoaaDoor
