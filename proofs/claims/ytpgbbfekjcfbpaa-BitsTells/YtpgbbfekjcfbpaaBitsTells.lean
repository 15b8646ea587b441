/-
  For every row of bits, right or not, all numbers and every list of bools: Get, Slice, New, From, Check and Ones tell what the document says (P2.1, P2.2). No condition.
-/
import Derived.Test.YtpgbbfekjcfbpaaHeads
import Derived.Test.YtpgbbfekjcfbpaaOpen
import Derived.Test.YtpgbbfekjcfbpaaOpenB
import Derived.Test.YtpgbbfekjcfbpaaRefSlice
import Derived.Test.YtpgbbfekjcfbpaaRefMake
import Derived.ChangeOld
namespace Go.Proofs.Ytpgbbfekjcfbpaa.bitsTells
open Go.ChangeShapes Go.WideShapes Go.ChangeAt Go.RowKit Num Bit
set_option linter.unusedVariables false

theorem newL_len (n : Int) : (newL n).length ≤ 1048576 := by
  unfold newL
  split
  · rename_i h
    unfold newE at h
    by_cases c : n < 0 ∨ 1048576 < n
    · rw [if_pos c] at h; omega
    · rw [length_rowOf]; omega
  · simp

set_option maxHeartbeats 40000000 in
theorem walk (w : World) (Nb : Int) (ab : Option Addr) (xb : List Nat) (cb : Nat) (hbN : -9223372036854775808 ≤ Nb ∧ Nb ≤ 9223372036854775807) (Xb : Wd w ab xb) (Fb : Fit xb) (Cb : xb.length ≤ cb) (i : Int) (hi : -9223372036854775808 ≤ i ∧ i ≤ 9223372036854775807) (n : Int) (hn : -9223372036854775808 ≤ n ∧ n ≤ 9223372036854775807) (al : Option Addr) (l : List Bool) (cl : Nat) (Xl : Bl w al l) :
    Calls Try.prog 5 #[.agg #[.int .i64 Nb, .slice ab xb.length cb], .int .i64 i, .int .i64 n, .slice al l.length cl] w fun e w' => e = .returned (.bool true) ∧ Below w.heap.size w w' := by
  obtain ⟨hi1, hi2⟩ := hi
  obtain ⟨hn1, hn2⟩ := hn
  by_cases s1 : Nb ≤ 5000
  case neg =>
    have s1' : decide (Nb ≤ 5000) = false := by simpa using s1
    go_enter Try.func5, Try.ntmps5
    have hw : Below w.heap.size w w := Below.refl _ _
    go_wp2_with fail
    refine (small_c _ _ _ _ _).mono ?_
    rintro e w1 ⟨rfl, hb⟩
    have B0 := Box.new hb
    have hB : Below w.heap.size w w1 := Below.trans (by repeat (first | exact Below.refl _ _ | apply Below.drew | apply below_drewN | refine Below.alloc ?_ (by simp) _)) (hb.mono (by first | (simp; done) | (simp; omega)))
    clear hb
    replace Xb := Xb.keep hB
    replace Xl := Xl.keep hB
    replace hw := hw.trans (hB.mono hw.size)
    clear hB
    have B0l := B0.1
    have B0u := B0.2.1
    have B0v := B0.2.2
    go_wp2_with fail
    refine (heads_c _).mono ?_
    rintro e w2 ⟨rfl, hb⟩
    have hB : Below w1.heap.size w1 w2 := Below.trans (by repeat (first | exact Below.refl _ _ | apply Below.drew | apply below_drewN | refine Below.alloc ?_ (by simp) _)) (hb.mono (by first | (simp; done) | (simp; omega)))
    clear hb
    clear B0l B0u B0v
    replace B0 := B0.keep hB
    replace Xb := Xb.keep hB
    replace Xl := Xl.keep hB
    replace hw := hw.trans (hB.mono hw.size)
    clear hB
    have B0l := B0.1
    have B0u := B0.2.1
    have B0v := B0.2.2
    go_wp2
    go_ret
    exact ⟨rfl, hw⟩
  by_cases s2 : (xb.length : Int) ≤ 5000
  case neg =>
    have s2' : decide ((xb.length : Int) ≤ 5000) = false := by simpa using s2
    go_enter Try.func5, Try.ntmps5
    have hw : Below w.heap.size w w := Below.refl _ _
    go_wp2_with fail
    refine (small_c _ _ _ _ _).mono ?_
    rintro e w1 ⟨rfl, hb⟩
    have B0 := Box.new hb
    have hB : Below w.heap.size w w1 := Below.trans (by repeat (first | exact Below.refl _ _ | apply Below.drew | apply below_drewN | refine Below.alloc ?_ (by simp) _)) (hb.mono (by first | (simp; done) | (simp; omega)))
    clear hb
    replace Xb := Xb.keep hB
    replace Xl := Xl.keep hB
    replace hw := hw.trans (hB.mono hw.size)
    clear hB
    have B0l := B0.1
    have B0u := B0.2.1
    have B0v := B0.2.2
    go_wp2_with fail
    refine (heads_c _).mono ?_
    rintro e w2 ⟨rfl, hb⟩
    have hB : Below w1.heap.size w1 w2 := Below.trans (by repeat (first | exact Below.refl _ _ | apply Below.drew | apply below_drewN | refine Below.alloc ?_ (by simp) _)) (hb.mono (by first | (simp; done) | (simp; omega)))
    clear hb
    clear B0l B0u B0v
    replace B0 := B0.keep hB
    replace Xb := Xb.keep hB
    replace Xl := Xl.keep hB
    replace hw := hw.trans (hB.mono hw.size)
    clear hB
    have B0l := B0.1
    have B0u := B0.2.1
    have B0v := B0.2.2
    go_wp2
    go_ret
    exact ⟨rfl, hw⟩
  have s1' : decide (Nb ≤ 5000) = true := by simpa using s1
  have s2' : decide ((xb.length : Int) ≤ 5000) = true := by simpa using s2
  by_cases h1 : (5000 : Int) < (l.length : Int)
  case pos =>
    go_enter Try.func5, Try.ntmps5
    have hw : Below w.heap.size w w := Below.refl _ _
    go_wp2_with fail
    refine (small_c _ _ _ _ _).mono ?_
    rintro e w1 ⟨rfl, hb⟩
    have B0 := Box.new hb
    have hB : Below w.heap.size w w1 := Below.trans (by repeat (first | exact Below.refl _ _ | apply Below.drew | apply below_drewN | refine Below.alloc ?_ (by simp) _)) (hb.mono (by first | (simp; done) | (simp; omega)))
    clear hb
    replace Xb := Xb.keep hB
    replace Xl := Xl.keep hB
    replace hw := hw.trans (hB.mono hw.size)
    clear hB
    have B0l := B0.1
    have B0u := B0.2.1
    have B0v := B0.2.2
    go_wp2_with fail
    refine (heads_c _).mono ?_
    rintro e w2 ⟨rfl, hb⟩
    have hB : Below w1.heap.size w1 w2 := Below.trans (by repeat (first | exact Below.refl _ _ | apply Below.drew | apply below_drewN | refine Below.alloc ?_ (by simp) _)) (hb.mono (by first | (simp; done) | (simp; omega)))
    clear hb
    clear B0l B0u B0v
    replace B0 := B0.keep hB
    replace Xb := Xb.keep hB
    replace Xl := Xl.keep hB
    replace hw := hw.trans (hB.mono hw.size)
    clear hB
    have B0l := B0.1
    have B0u := B0.2.1
    have B0v := B0.2.2
    go_wp2
    go_ret
    exact ⟨rfl, hw⟩
  have h1' : decide ((5000 : Int) < (l.length : Int)) = false := by simpa using h1
  by_cases h2 : 5000 < n
  case pos =>
    go_enter Try.func5, Try.ntmps5
    have hw : Below w.heap.size w w := Below.refl _ _
    go_wp2_with fail
    refine (small_c _ _ _ _ _).mono ?_
    rintro e w1 ⟨rfl, hb⟩
    have B0 := Box.new hb
    have hB : Below w.heap.size w w1 := Below.trans (by repeat (first | exact Below.refl _ _ | apply Below.drew | apply below_drewN | refine Below.alloc ?_ (by simp) _)) (hb.mono (by first | (simp; done) | (simp; omega)))
    clear hb
    replace Xb := Xb.keep hB
    replace Xl := Xl.keep hB
    replace hw := hw.trans (hB.mono hw.size)
    clear hB
    have B0l := B0.1
    have B0u := B0.2.1
    have B0v := B0.2.2
    go_wp2_with fail
    refine (heads_c _).mono ?_
    rintro e w2 ⟨rfl, hb⟩
    have hB : Below w1.heap.size w1 w2 := Below.trans (by repeat (first | exact Below.refl _ _ | apply Below.drew | apply below_drewN | refine Below.alloc ?_ (by simp) _)) (hb.mono (by first | (simp; done) | (simp; omega)))
    clear hb
    clear B0l B0u B0v
    replace B0 := B0.keep hB
    replace Xb := Xb.keep hB
    replace Xl := Xl.keep hB
    replace hw := hw.trans (hB.mono hw.size)
    clear hB
    have B0l := B0.1
    have B0u := B0.2.1
    have B0v := B0.2.2
    go_wp2
    go_ret
    exact ⟨rfl, hw⟩
  have h2' : decide (5000 < n) = false := by simpa using h2
  have LN : Hid ((newL n).length ≤ 1048576) := newL_len n
  have LF : Hid ((frL l).length ≤ 1048576) := by unfold Hid frL; rw [length_rowOf]; omega
  have LL : Hid (l.length ≤ 1048576) := by unfold Hid; omega
  go_enter Try.func5, Try.ntmps5
  have hw : Below w.heap.size w w := Below.refl _ _
  go_wp2_with fail
  refine (small_c _ _ _ _ _).mono ?_
  rintro e w1 ⟨rfl, hb⟩
  have B0 := Box.new hb
  have hB : Below w.heap.size w w1 := Below.trans (by repeat (first | exact Below.refl _ _ | apply Below.drew | apply below_drewN | refine Below.alloc ?_ (by simp) _)) (hb.mono (by first | (simp; done) | (simp; omega)))
  clear hb
  replace Xb := Xb.keep hB
  replace Xl := Xl.keep hB
  replace hw := hw.trans (hB.mono hw.size)
  clear hB
  have B0l := B0.1
  have B0u := B0.2.1
  have B0v := B0.2.2
  go_wp2_with fail
  refine (get_c _ _ _ _ _ _ (Xb.keep (by repeat (first | exact Below.refl _ _ | apply Below.drew | apply below_drewN | refine Below.alloc ?_ (by simp) _))) Fb).mono ?_
  rintro e w2 ⟨rfl, hb⟩
  have hB : Below w1.heap.size w1 w2 := Below.trans (by repeat (first | exact Below.refl _ _ | apply Below.drew | apply below_drewN | refine Below.alloc ?_ (by simp) _)) (hb.mono (by first | (simp; done) | (simp; omega)))
  clear hb
  clear B0l B0u B0v
  replace B0 := B0.keep hB
  replace Xb := Xb.keep hB
  replace Xl := Xl.keep hB
  replace hw := hw.trans (hB.mono hw.size)
  clear hB
  have B0l := B0.1
  have B0u := B0.2.1
  have B0v := B0.2.2
  go_wp2_with fail
  refine (refget_c _ _ _ _ _ _ (Xb.keep (by repeat (first | exact Below.refl _ _ | apply Below.drew | apply below_drewN | refine Below.alloc ?_ (by simp) _))) Fb).mono ?_
  rintro e w3 ⟨rfl, hb⟩
  have hB : Below w2.heap.size w2 w3 := Below.trans (by repeat (first | exact Below.refl _ _ | apply Below.drew | apply below_drewN | refine Below.alloc ?_ (by simp) _)) (hb.mono (by first | (simp; done) | (simp; omega)))
  clear hb
  clear B0l B0u B0v
  replace B0 := B0.keep hB
  replace Xb := Xb.keep hB
  replace Xl := Xl.keep hB
  replace hw := hw.trans (hB.mono hw.size)
  clear hB
  have B0l := B0.1
  have B0u := B0.2.1
  have B0v := B0.2.2
  go_wp2_with fail
  refine (slice_c _ _ _ _ _ _ _ (Xb.keep (by repeat (first | exact Below.refl _ _ | apply Below.drew | apply below_drewN | refine Below.alloc ?_ (by simp) _))) Fb hi1 hi2 hn1 hn2).mono ?_
  rintro e w4 ⟨rfl, hb⟩
  have hB : Below w3.heap.size w3 w4 := Below.trans (by repeat (first | exact Below.refl _ _ | apply Below.drew | apply below_drewN | refine Below.alloc ?_ (by simp) _)) (hb.mono (by first | (simp; done) | (simp; omega)))
  clear hb
  clear B0l B0u B0v
  replace B0 := B0.keep hB
  replace Xb := Xb.keep hB
  replace Xl := Xl.keep hB
  replace hw := hw.trans (hB.mono hw.size)
  clear hB
  have B0l := B0.1
  have B0u := B0.2.1
  have B0v := B0.2.2
  go_wp2_with fail
  refine (refslice_c _ _ _ _ _ _ _ (Xb.keep (by repeat (first | exact Below.refl _ _ | apply Below.drew | apply below_drewN | refine Below.alloc ?_ (by simp) _))) Fb hi1 hi2 hn1 hn2).mono ?_
  rintro e w5 ⟨rfl, hb⟩
  have hB : Below w4.heap.size w4 w5 := Below.trans (by repeat (first | exact Below.refl _ _ | apply Below.drew | apply below_drewN | refine Below.alloc ?_ (by simp) _)) (hb.mono (by first | (simp; done) | (simp; omega)))
  clear hb
  clear B0l B0u B0v
  replace B0 := B0.keep hB
  replace Xb := Xb.keep hB
  replace Xl := Xl.keep hB
  replace hw := hw.trans (hB.mono hw.size)
  clear hB
  have B0l := B0.1
  have B0u := B0.2.1
  have B0v := B0.2.2
  go_wp2_with fail
  refine (new_c _ _).mono ?_
  rintro e w6 ⟨po, pc, rfl, Xp, Fp, Cp, hb⟩
  have hB : Below w5.heap.size w5 w6 := Below.trans (by repeat (first | exact Below.refl _ _ | apply Below.drew | apply below_drewN | refine Below.alloc ?_ (by simp) _)) (hb.mono (by first | (simp; done) | (simp; omega)))
  clear hb
  clear B0l B0u B0v
  replace B0 := B0.keep hB
  replace Xb := Xb.keep hB
  replace Xl := Xl.keep hB
  replace hw := hw.trans (hB.mono hw.size)
  clear hB
  have B0l := B0.1
  have B0u := B0.2.1
  have B0v := B0.2.2
  go_wp2_with fail
  refine (refnew_c _ _).mono ?_
  rintro e w7 ⟨so, sc, rfl, Xs, Fs, Cs, hb⟩
  have Bp := Box.new hb
  have hB : Below w6.heap.size w6 w7 := Below.trans (by repeat (first | exact Below.refl _ _ | apply Below.drew | apply below_drewN | refine Below.alloc ?_ (by simp) _)) (hb.mono (by first | (simp; done) | (simp; omega)))
  clear hb
  clear B0l B0u B0v
  replace B0 := B0.keep hB
  replace Xb := Xb.keep hB
  replace Xl := Xl.keep hB
  replace Xp := Xp.keep hB
  replace hw := hw.trans (hB.mono hw.size)
  clear hB
  have B0l := B0.1
  have B0u := B0.2.1
  have B0v := B0.2.2
  have Bpl := Bp.1
  have Bpu := Bp.2.1
  have Bpv := Bp.2.2
  go_wp2_with fail
  refine (from_c _ _ _ _ (Xl.keep (by repeat (first | exact Below.refl _ _ | apply Below.drew | apply below_drewN | refine Below.alloc ?_ (by simp) _))) LL.out).mono ?_
  rintro e w8 ⟨uo, uc, rfl, Xu, Fu, Cu, hb⟩
  have Bs := Box.new hb
  have hB : Below w7.heap.size w7 w8 := Below.trans (by repeat (first | exact Below.refl _ _ | apply Below.drew | apply below_drewN | refine Below.alloc ?_ (by simp) _)) (hb.mono (by first | (simp; done) | (simp; omega)))
  clear hb
  clear B0l B0u B0v
  clear Bpl Bpu Bpv
  replace B0 := B0.keep hB
  replace Bp := Bp.keep hB
  replace Xb := Xb.keep hB
  replace Xl := Xl.keep hB
  replace Xp := Xp.keep hB
  replace Xs := Xs.keep hB
  replace hw := hw.trans (hB.mono hw.size)
  clear hB
  have B0l := B0.1
  have B0u := B0.2.1
  have B0v := B0.2.2
  have Bpl := Bp.1
  have Bpu := Bp.2.1
  have Bpv := Bp.2.2
  have Bsl := Bs.1
  have Bsu := Bs.2.1
  have Bsv := Bs.2.2
  go_wp2_with fail
  refine (reffrom_c _ _ _ _ (Xl.keep (by repeat (first | exact Below.refl _ _ | apply Below.drew | apply below_drewN | refine Below.alloc ?_ (by simp) _))) LL.out).mono ?_
  rintro e w9 ⟨vo, vc, rfl, Xv, Fv, Cv, hb⟩
  have Bu := Box.new hb
  have hB : Below w8.heap.size w8 w9 := Below.trans (by repeat (first | exact Below.refl _ _ | apply Below.drew | apply below_drewN | refine Below.alloc ?_ (by simp) _)) (hb.mono (by first | (simp; done) | (simp; omega)))
  clear hb
  clear B0l B0u B0v
  clear Bpl Bpu Bpv
  clear Bsl Bsu Bsv
  replace B0 := B0.keep hB
  replace Bp := Bp.keep hB
  replace Bs := Bs.keep hB
  replace Xb := Xb.keep hB
  replace Xl := Xl.keep hB
  replace Xp := Xp.keep hB
  replace Xs := Xs.keep hB
  replace Xu := Xu.keep hB
  replace hw := hw.trans (hB.mono hw.size)
  clear hB
  have B0l := B0.1
  have B0u := B0.2.1
  have B0v := B0.2.2
  have Bpl := Bp.1
  have Bpu := Bp.2.1
  have Bpv := Bp.2.2
  have Bsl := Bs.1
  have Bsu := Bs.2.1
  have Bsv := Bs.2.2
  have Bul := Bu.1
  have Buu := Bu.2.1
  have Buv := Bu.2.2
  go_wp2_with fail
  refine (same_c _ _ _ _ _ _ _ _ _ (Xp.keep (by repeat (first | exact Below.refl _ _ | apply Below.drew | apply below_drewN | refine Below.alloc ?_ (by simp) _))) (Xs.keep (by repeat (first | exact Below.refl _ _ | apply Below.drew | apply below_drewN | refine Below.alloc ?_ (by simp) _))) LN.out).mono ?_
  rintro e w10 ⟨rfl, hb⟩
  have Bv := Box.new hb
  have hB : Below w9.heap.size w9 w10 := Below.trans (by repeat (first | exact Below.refl _ _ | apply Below.drew | apply below_drewN | refine Below.alloc ?_ (by simp) _)) (hb.mono (by first | (simp; done) | (simp; omega)))
  clear hb
  clear B0l B0u B0v
  clear Bpl Bpu Bpv
  clear Bsl Bsu Bsv
  clear Bul Buu Buv
  replace B0 := B0.keep hB
  replace Bp := Bp.keep hB
  replace Bs := Bs.keep hB
  replace Bu := Bu.keep hB
  replace Xb := Xb.keep hB
  replace Xl := Xl.keep hB
  replace Xp := Xp.keep hB
  replace Xs := Xs.keep hB
  replace Xu := Xu.keep hB
  replace Xv := Xv.keep hB
  replace hw := hw.trans (hB.mono hw.size)
  clear hB
  have B0l := B0.1
  have B0u := B0.2.1
  have B0v := B0.2.2
  have Bpl := Bp.1
  have Bpu := Bp.2.1
  have Bpv := Bp.2.2
  have Bsl := Bs.1
  have Bsu := Bs.2.1
  have Bsv := Bs.2.2
  have Bul := Bu.1
  have Buu := Bu.2.1
  have Buv := Bu.2.2
  have Bvl := Bv.1
  have Bvu := Bv.2.1
  have Bvv := Bv.2.2
  go_wp2_with fail
  refine (same_c _ _ _ _ _ _ _ _ _ (Xu.keep (by repeat (first | exact Below.refl _ _ | apply Below.drew | apply below_drewN | refine Below.alloc ?_ (by simp) _))) (Xv.keep (by repeat (first | exact Below.refl _ _ | apply Below.drew | apply below_drewN | refine Below.alloc ?_ (by simp) _))) LF.out).mono ?_
  rintro e w11 ⟨rfl, hb⟩
  have hB : Below w10.heap.size w10 w11 := Below.trans (by repeat (first | exact Below.refl _ _ | apply Below.drew | apply below_drewN | refine Below.alloc ?_ (by simp) _)) (hb.mono (by first | (simp; done) | (simp; omega)))
  clear hb
  clear B0l B0u B0v
  clear Bpl Bpu Bpv
  clear Bsl Bsu Bsv
  clear Bul Buu Buv
  clear Bvl Bvu Bvv
  replace B0 := B0.keep hB
  replace Bp := Bp.keep hB
  replace Bs := Bs.keep hB
  replace Bu := Bu.keep hB
  replace Bv := Bv.keep hB
  replace Xb := Xb.keep hB
  replace Xl := Xl.keep hB
  replace Xp := Xp.keep hB
  replace Xs := Xs.keep hB
  replace Xu := Xu.keep hB
  replace Xv := Xv.keep hB
  replace hw := hw.trans (hB.mono hw.size)
  clear hB
  have B0l := B0.1
  have B0u := B0.2.1
  have B0v := B0.2.2
  have Bpl := Bp.1
  have Bpu := Bp.2.1
  have Bpv := Bp.2.2
  have Bsl := Bs.1
  have Bsu := Bs.2.1
  have Bsv := Bs.2.2
  have Bul := Bu.1
  have Buu := Bu.2.1
  have Buv := Bu.2.2
  have Bvl := Bv.1
  have Bvu := Bv.2.1
  have Bvv := Bv.2.2
  go_wp2_with fail
  go_region_held3 (fun w' => w'.cell? ⟨w.heap.size, 0, none⟩ = some (.int .i64 Nb) ∧ w'.cell? ⟨w.heap.size, 1, none⟩ = some (.slice ab xb.length cb)) (first | go_keep | (refine ⟨?_, ?_⟩ <;> assumption))
    (first | (go_at_call 10; refine (check_c _ _ _ _ _ (Xb.keep (by repeat (first | exact Below.refl _ _ | apply Below.drew | apply below_drewN | refine Below.alloc ?_ (by simp) _)))).mono ?_; rintro e wz ⟨rfl, hb⟩; replace B0 := (B0.keep (by repeat (first | exact Below.refl _ _ | apply Below.drew | apply below_drewN | refine Below.alloc ?_ (by simp) _))).keep hb; replace Bp := (Bp.keep (by repeat (first | exact Below.refl _ _ | apply Below.drew | apply below_drewN | refine Below.alloc ?_ (by simp) _))).keep hb; replace Bs := (Bs.keep (by repeat (first | exact Below.refl _ _ | apply Below.drew | apply below_drewN | refine Below.alloc ?_ (by simp) _))).keep hb; replace Bu := (Bu.keep (by repeat (first | exact Below.refl _ _ | apply Below.drew | apply below_drewN | refine Below.alloc ?_ (by simp) _))).keep hb; replace Bv := (Bv.keep (by repeat (first | exact Below.refl _ _ | apply Below.drew | apply below_drewN | refine Below.alloc ?_ (by simp) _))).keep hb; replace Xb := (Xb.keep (by repeat (first | exact Below.refl _ _ | apply Below.drew | apply below_drewN | refine Below.alloc ?_ (by simp) _))).keep hb; replace Xl := (Xl.keep (by repeat (first | exact Below.refl _ _ | apply Below.drew | apply below_drewN | refine Below.alloc ?_ (by simp) _))).keep hb; replace Xp := (Xp.keep (by repeat (first | exact Below.refl _ _ | apply Below.drew | apply below_drewN | refine Below.alloc ?_ (by simp) _))).keep hb; replace Xs := (Xs.keep (by repeat (first | exact Below.refl _ _ | apply Below.drew | apply below_drewN | refine Below.alloc ?_ (by simp) _))).keep hb; replace Xu := (Xu.keep (by repeat (first | exact Below.refl _ _ | apply Below.drew | apply below_drewN | refine Below.alloc ?_ (by simp) _))).keep hb; replace Xv := (Xv.keep (by repeat (first | exact Below.refl _ _ | apply Below.drew | apply below_drewN | refine Below.alloc ?_ (by simp) _))).keep hb; replace hw := hw.trans (Below.trans (by repeat (first | exact Below.refl _ _ | apply Below.drew | apply below_drewN | refine Below.alloc ?_ (by simp) _)) (hb.mono hw.size)); clear hb; replace B0l := B0.1; replace B0u := B0.2.1; replace B0v := B0.2.2; replace Bpl := Bp.1; replace Bpu := Bp.2.1; replace Bpv := Bp.2.2; replace Bsl := Bs.1; replace Bsu := Bs.2.1; replace Bsv := Bs.2.2; replace Bul := Bu.1; replace Buu := Bu.2.1; replace Buv := Bu.2.2; replace Bvl := Bv.1; replace Bvu := Bv.2.1; replace Bvv := Bv.2.2) | (go_at_call 22; refine (refcheck_c _ _ _ _ _ (Xb.keep (by repeat (first | exact Below.refl _ _ | apply Below.drew | apply below_drewN | refine Below.alloc ?_ (by simp) _))) Fb).mono ?_; rintro e wz ⟨rfl, hb⟩; replace B0 := (B0.keep (by repeat (first | exact Below.refl _ _ | apply Below.drew | apply below_drewN | refine Below.alloc ?_ (by simp) _))).keep hb; replace Bp := (Bp.keep (by repeat (first | exact Below.refl _ _ | apply Below.drew | apply below_drewN | refine Below.alloc ?_ (by simp) _))).keep hb; replace Bs := (Bs.keep (by repeat (first | exact Below.refl _ _ | apply Below.drew | apply below_drewN | refine Below.alloc ?_ (by simp) _))).keep hb; replace Bu := (Bu.keep (by repeat (first | exact Below.refl _ _ | apply Below.drew | apply below_drewN | refine Below.alloc ?_ (by simp) _))).keep hb; replace Bv := (Bv.keep (by repeat (first | exact Below.refl _ _ | apply Below.drew | apply below_drewN | refine Below.alloc ?_ (by simp) _))).keep hb; replace Xb := (Xb.keep (by repeat (first | exact Below.refl _ _ | apply Below.drew | apply below_drewN | refine Below.alloc ?_ (by simp) _))).keep hb; replace Xl := (Xl.keep (by repeat (first | exact Below.refl _ _ | apply Below.drew | apply below_drewN | refine Below.alloc ?_ (by simp) _))).keep hb; replace Xp := (Xp.keep (by repeat (first | exact Below.refl _ _ | apply Below.drew | apply below_drewN | refine Below.alloc ?_ (by simp) _))).keep hb; replace Xs := (Xs.keep (by repeat (first | exact Below.refl _ _ | apply Below.drew | apply below_drewN | refine Below.alloc ?_ (by simp) _))).keep hb; replace Xu := (Xu.keep (by repeat (first | exact Below.refl _ _ | apply Below.drew | apply below_drewN | refine Below.alloc ?_ (by simp) _))).keep hb; replace Xv := (Xv.keep (by repeat (first | exact Below.refl _ _ | apply Below.drew | apply below_drewN | refine Below.alloc ?_ (by simp) _))).keep hb; replace hw := hw.trans (Below.trans (by repeat (first | exact Below.refl _ _ | apply Below.drew | apply below_drewN | refine Below.alloc ?_ (by simp) _)) (hb.mono hw.size)); clear hb; replace B0l := B0.1; replace B0u := B0.2.1; replace B0v := B0.2.2; replace Bpl := Bp.1; replace Bpu := Bp.2.1; replace Bpv := Bp.2.2; replace Bsl := Bs.1; replace Bsu := Bs.2.1; replace Bsv := Bs.2.2; replace Bul := Bu.1; replace Buu := Bu.2.1; replace Buv := Bu.2.2; replace Bvl := Bv.1; replace Bvu := Bv.2.1; replace Bvv := Bv.2.2) | (go_at_call 13; refine (bones_c _ _ _ _ _ _ (Xb.keep (by repeat (first | exact Below.refl _ _ | apply Below.drew | apply below_drewN | refine Below.alloc ?_ (by simp) _))) Fb Cb).mono ?_; rintro e wz ⟨rfl, hb⟩; replace B0 := (B0.keep (by repeat (first | exact Below.refl _ _ | apply Below.drew | apply below_drewN | refine Below.alloc ?_ (by simp) _))).keep hb; replace Bp := (Bp.keep (by repeat (first | exact Below.refl _ _ | apply Below.drew | apply below_drewN | refine Below.alloc ?_ (by simp) _))).keep hb; replace Bs := (Bs.keep (by repeat (first | exact Below.refl _ _ | apply Below.drew | apply below_drewN | refine Below.alloc ?_ (by simp) _))).keep hb; replace Bu := (Bu.keep (by repeat (first | exact Below.refl _ _ | apply Below.drew | apply below_drewN | refine Below.alloc ?_ (by simp) _))).keep hb; replace Bv := (Bv.keep (by repeat (first | exact Below.refl _ _ | apply Below.drew | apply below_drewN | refine Below.alloc ?_ (by simp) _))).keep hb; replace Xb := (Xb.keep (by repeat (first | exact Below.refl _ _ | apply Below.drew | apply below_drewN | refine Below.alloc ?_ (by simp) _))).keep hb; replace Xl := (Xl.keep (by repeat (first | exact Below.refl _ _ | apply Below.drew | apply below_drewN | refine Below.alloc ?_ (by simp) _))).keep hb; replace Xp := (Xp.keep (by repeat (first | exact Below.refl _ _ | apply Below.drew | apply below_drewN | refine Below.alloc ?_ (by simp) _))).keep hb; replace Xs := (Xs.keep (by repeat (first | exact Below.refl _ _ | apply Below.drew | apply below_drewN | refine Below.alloc ?_ (by simp) _))).keep hb; replace Xu := (Xu.keep (by repeat (first | exact Below.refl _ _ | apply Below.drew | apply below_drewN | refine Below.alloc ?_ (by simp) _))).keep hb; replace Xv := (Xv.keep (by repeat (first | exact Below.refl _ _ | apply Below.drew | apply below_drewN | refine Below.alloc ?_ (by simp) _))).keep hb; replace hw := hw.trans (Below.trans (by repeat (first | exact Below.refl _ _ | apply Below.drew | apply below_drewN | refine Below.alloc ?_ (by simp) _)) (hb.mono hw.size)); clear hb; replace B0l := B0.1; replace B0u := B0.2.1; replace B0v := B0.2.2; replace Bpl := Bp.1; replace Bpu := Bp.2.1; replace Bpv := Bp.2.2; replace Bsl := Bs.1; replace Bsu := Bs.2.1; replace Bsv := Bs.2.2; replace Bul := Bu.1; replace Buu := Bu.2.1; replace Buv := Bu.2.2; replace Bvl := Bv.1; replace Bvu := Bv.2.1; replace Bvv := Bv.2.2) | (go_at_call 23; refine (refones_c _ _ _ _ _ _ (Xb.keep (by repeat (first | exact Below.refl _ _ | apply Below.drew | apply below_drewN | refine Below.alloc ?_ (by simp) _))) Fb).mono ?_; rintro e wz ⟨rfl, hb⟩; replace B0 := (B0.keep (by repeat (first | exact Below.refl _ _ | apply Below.drew | apply below_drewN | refine Below.alloc ?_ (by simp) _))).keep hb; replace Bp := (Bp.keep (by repeat (first | exact Below.refl _ _ | apply Below.drew | apply below_drewN | refine Below.alloc ?_ (by simp) _))).keep hb; replace Bs := (Bs.keep (by repeat (first | exact Below.refl _ _ | apply Below.drew | apply below_drewN | refine Below.alloc ?_ (by simp) _))).keep hb; replace Bu := (Bu.keep (by repeat (first | exact Below.refl _ _ | apply Below.drew | apply below_drewN | refine Below.alloc ?_ (by simp) _))).keep hb; replace Bv := (Bv.keep (by repeat (first | exact Below.refl _ _ | apply Below.drew | apply below_drewN | refine Below.alloc ?_ (by simp) _))).keep hb; replace Xb := (Xb.keep (by repeat (first | exact Below.refl _ _ | apply Below.drew | apply below_drewN | refine Below.alloc ?_ (by simp) _))).keep hb; replace Xl := (Xl.keep (by repeat (first | exact Below.refl _ _ | apply Below.drew | apply below_drewN | refine Below.alloc ?_ (by simp) _))).keep hb; replace Xp := (Xp.keep (by repeat (first | exact Below.refl _ _ | apply Below.drew | apply below_drewN | refine Below.alloc ?_ (by simp) _))).keep hb; replace Xs := (Xs.keep (by repeat (first | exact Below.refl _ _ | apply Below.drew | apply below_drewN | refine Below.alloc ?_ (by simp) _))).keep hb; replace Xu := (Xu.keep (by repeat (first | exact Below.refl _ _ | apply Below.drew | apply below_drewN | refine Below.alloc ?_ (by simp) _))).keep hb; replace Xv := (Xv.keep (by repeat (first | exact Below.refl _ _ | apply Below.drew | apply below_drewN | refine Below.alloc ?_ (by simp) _))).keep hb; replace hw := hw.trans (Below.trans (by repeat (first | exact Below.refl _ _ | apply Below.drew | apply below_drewN | refine Below.alloc ?_ (by simp) _)) (hb.mono hw.size)); clear hb; replace B0l := B0.1; replace B0u := B0.2.1; replace B0v := B0.2.2; replace Bpl := Bp.1; replace Bpu := Bp.2.1; replace Bpv := Bp.2.2; replace Bsl := Bs.1; replace Bsu := Bs.2.1; replace Bsv := Bs.2.2; replace Bul := Bu.1; replace Buu := Bu.2.1; replace Buv := Bu.2.2; replace Bvl := Bv.1; replace Bvu := Bv.2.1; replace Bvv := Bv.2.2) | (go_at_call 11; refine (heads_c _).mono ?_; rintro e wz ⟨rfl, hb⟩; replace B0 := (B0.keep (by repeat (first | exact Below.refl _ _ | apply Below.drew | apply below_drewN | refine Below.alloc ?_ (by simp) _))).keep hb; replace Bp := (Bp.keep (by repeat (first | exact Below.refl _ _ | apply Below.drew | apply below_drewN | refine Below.alloc ?_ (by simp) _))).keep hb; replace Bs := (Bs.keep (by repeat (first | exact Below.refl _ _ | apply Below.drew | apply below_drewN | refine Below.alloc ?_ (by simp) _))).keep hb; replace Bu := (Bu.keep (by repeat (first | exact Below.refl _ _ | apply Below.drew | apply below_drewN | refine Below.alloc ?_ (by simp) _))).keep hb; replace Bv := (Bv.keep (by repeat (first | exact Below.refl _ _ | apply Below.drew | apply below_drewN | refine Below.alloc ?_ (by simp) _))).keep hb; replace Xb := (Xb.keep (by repeat (first | exact Below.refl _ _ | apply Below.drew | apply below_drewN | refine Below.alloc ?_ (by simp) _))).keep hb; replace Xl := (Xl.keep (by repeat (first | exact Below.refl _ _ | apply Below.drew | apply below_drewN | refine Below.alloc ?_ (by simp) _))).keep hb; replace Xp := (Xp.keep (by repeat (first | exact Below.refl _ _ | apply Below.drew | apply below_drewN | refine Below.alloc ?_ (by simp) _))).keep hb; replace Xs := (Xs.keep (by repeat (first | exact Below.refl _ _ | apply Below.drew | apply below_drewN | refine Below.alloc ?_ (by simp) _))).keep hb; replace Xu := (Xu.keep (by repeat (first | exact Below.refl _ _ | apply Below.drew | apply below_drewN | refine Below.alloc ?_ (by simp) _))).keep hb; replace Xv := (Xv.keep (by repeat (first | exact Below.refl _ _ | apply Below.drew | apply below_drewN | refine Below.alloc ?_ (by simp) _))).keep hb; replace hw := hw.trans (Below.trans (by repeat (first | exact Below.refl _ _ | apply Below.drew | apply below_drewN | refine Below.alloc ?_ (by simp) _)) (hb.mono hw.size)); clear hb; replace B0l := B0.1; replace B0u := B0.2.1; replace B0v := B0.2.2; replace Bpl := Bp.1; replace Bpu := Bp.2.1; replace Bpv := Bp.2.2; replace Bsl := Bs.1; replace Bsu := Bs.2.1; replace Bsv := Bs.2.2; replace Bul := Bu.1; replace Buu := Bu.2.1; replace Buv := Bu.2.2; replace Bvl := Bv.1; replace Bvu := Bv.2.1; replace Bvv := Bv.2.2))
  go_wp2
  go_ret
  exact ⟨rfl, hw⟩

set_option maxRecDepth 100000 in
theorem lifted (os : Os) (started : os.Started) (H : Type) (enc : TypeId × Value → H) :
    ReturnsInHanded {} Try.checked os 5 .any (Rows.bitsTellsSpec.pre6 enc Try.prog Try.f5 Rows.bitsTellsRow.domain false) (Rows.bitsTellsSpec.post enc Try.prog Try.f5 false true false false) := by
  refine returnsInHanded_of_change (C := Try.checked) own started (by kernel_rfl) Try.func5
    (ChangeSpec.witness6 (enc := enc) (C := Try.checked) false ⟨#[], #[.agg #[.int .i64 0, .slice none 0 0], .int .i64 0, .int .i64 0, .slice none 0 0], []⟩ 8 (by kernel_rfl) (by kernel_rfl) (by kernel_rfl) (by kernel_rfl)) ?_
  intro W base args ds gs before hval0 hW hcnd _
  have hval : ∀ (j : Nat) t v, Try.f5.params[j]? = some t → args[j]? = some v → Value.okWide Try.prog W .any base t v := hval0
  have hW' := hW
  obtain ⟨p, q, hA0, hV, rfl, hfz, hnd⟩ := hW
  have hA : DataW.TrodAll enc Try.prog W 0 (fun _ => true) true Try.f5.params.toList args.toList ds p := hA0
  rw [Try.params5] at hA hval
  obtain ⟨v0, vs0, d0, ds0, p0, q0, hargs, rfl, rfl, h0, r0⟩ := trodAll_cons hA
  obtain ⟨v1, vs1, d1, ds1, p1, q1, rfl, rfl, rfl, h1, r1⟩ := trodAll_cons r0
  obtain ⟨v2, vs2, d2, ds2, p2, q2, rfl, rfl, rfl, h2, r2⟩ := trodAll_cons r1
  obtain ⟨v3, vs3, d3, ds3, p3, q3, rfl, rfl, rfl, h3, r3⟩ := trodAll_cons r2
  obtain ⟨rfl, rfl, rfl⟩ := trodAll_nil r3
  obtain rfl : args = #[v0, v1, v2, v3] := by cases args; simp_all
  obtain ⟨rfl, rfl⟩ := trodVars_none hV
  have k0 := h0
  have lt0 : ∀ x ∈ p0, x.block < W.heap.size := by obtain ⟨m, hm⟩ := k0; exact DataW.trod_lt m _ _ _ hm
  obtain ⟨Nb, ab, xb, cb, rfl, bb1, bb2, bb3, bb4⟩ := open_bits (hval 0 24 v0 rfl rfl) h0
  obtain ⟨i, rfl, rfl, rfl, w1⟩ := open_int Try.underlying3 (hval 1 3 v1 rfl rfl) h1
  obtain ⟨n, rfl, rfl, rfl, w2⟩ := open_int Try.underlying3 (hval 2 3 v2 rfl rfl) h2
  have k3 := h3
  have lt3 : ∀ x ∈ p3, x.block < W.heap.size := by obtain ⟨m, hm⟩ := k3; exact DataW.trod_lt m _ _ _ hm
  obtain ⟨al, l, cl, rfl, bl1⟩ := open_bl (hval 3 37 v3 rfl rfl) h3
  clear hA0 hval0
  refine (walk W Nb ab xb cb bb1 bb2 bb3 bb4 i (i64_wf _ w1) n (i64_wf _ w2) al l cl bl1).mono fun e W' ⟨he, bel⟩ => ?_
  subst he
  exact ⟨_, rfl, _, _, _, [], _, [], hW', trodAll_mk1 (shut_bool Try.underlying4 _), (trodAll_cons_mk (Below.trod laidOut (by kernel_rfl) (of_decide_eq_true (by kernel_rfl)) k0 bel lt0) (trodAll_cons_mk (shut_int Try.underlying3 w1) (trodAll_cons_mk (shut_int Try.underlying3 w2) (trodAll_cons_mk (Below.trod laidOut (by kernel_rfl) (of_decide_eq_true (by kernel_rfl)) k3 bel lt3) trodAll_mk0)))), rfl, bel.frame _, fun h => by cases h⟩

theorem over : Rows.bitsTellsRow.holds Try.pinned (OpenSpec.ofChange Rows.bitsTellsSpec) :=
  OpenClaim.holds_of_wide 5 Try.f5 rfl rfl rfl rfl rfl rfl rfl ⟨rfl, rfl, rfl, rfl, rfl⟩ rfl rfl rfl rfl rfl (by kernel_rfl) Try.func5 (by kernel_rfl)
    (of_decide_eq_true (by kernel_rfl)) (by unfold Func.isWrapper; first | (rw [if_pos (by decide +kernel)]; kernel_rfl) | (rw [if_neg (by decide +kernel)]; exact ⟨rfl, rfl⟩))
    (fun os started H enc _ => lifted os started H enc)

theorem proved : Rows.BitsTellsSaid := over
end Go.Proofs.Ytpgbbfekjcfbpaa.bitsTells
namespace Go.Proofs.Ytpgbbfekjcfbpaa
theorem bitsTells_holds : Rows.BitsTellsSaid := bitsTells.proved
#print axioms bitsTells_holds
end Go.Proofs.Ytpgbbfekjcfbpaa
