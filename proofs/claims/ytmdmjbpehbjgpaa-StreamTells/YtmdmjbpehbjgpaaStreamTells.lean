/-
  For every row of bits, right or not, every place and number: PutGamma, PutDelta, Gamma, Delta and Size tell what the document says (P4.1, P4.2). No condition.
-/
import Derived.Test.YtmdmjbpehbjgpaaStH
import Derived.Test.YtmdmjbpehbjgpaaRs3
import Derived.Test.YtmdmjbpehbjgpaaRs4
import Derived.Test.YtmdmjbpehbjgpaaSame
import Derived.Test.YtmdmjbpehbjgpaaOpen
import Derived.ChangeOld
namespace Go.Proofs.Ytmdmjbpehbjgpaa.streamTells
open Go.ChangeShapes Go.WideShapes Go.ChangeAt Go.RowKit Num Bit
set_option linter.unusedVariables false
set_option linter.unusedSimpArgs false
set_option maxRecDepth 100000

theorem size_b (d : Bool) (x : Nat) (h64 : x < 18446744073709551616) (w : World) :
    Calls Try.prog 20 #[.int .u64 x, .bool d] w fun e w' => e = .returned (.int .i64 (cL d x)) ∧ Below w.heap.size w w' :=
  (size_c d x h64 w).mono (fun e w' (h : _ ∧ w' = w) => (⟨h.1, by rw [h.2]; exact Below.refl _ _⟩ : _ ∧ Below w.heap.size w w'))
theorem pL_len (d : Bool) (N : Int) (xs : List Nat) (x : Nat) (hl : xs.length ≤ 1048576) (h64 : x < 18446744073709551616) : (pL d N xs x).length ≤ 1048576 := by
  unfold pL
  split
  · exact hl
  · unfold joinL
    split
    · rename_i h
      rw [length_rowOf]
      unfold joinE at h
      split at h
      · omega
      · omega
    · exact hl

set_option maxHeartbeats 40000000 in
theorem walk (w : World) (Nb : Int) (ab : Option Addr) (xb : List Nat) (cb : Nat) (hbN : -9223372036854775808 ≤ Nb ∧ Nb ≤ 9223372036854775807) (Xb : Wd w ab xb) (Fb : Fit xb) (Cb : xb.length ≤ cb) (i : Int) (hi : -9223372036854775808 ≤ i ∧ i ≤ 9223372036854775807) (x : Int) (hx : 0 ≤ x ∧ x < 18446744073709551616) :
    Calls Try.prog 4 #[.agg #[.int .i64 Nb, .slice ab xb.length cb], .int .i64 i, .int .u64 x] w fun e w' => e = .returned (.bool true) ∧ Below w.heap.size w w' := by
  obtain ⟨z, rfl⟩ := Int.eq_ofNat_of_zero_le hx.1
  have z64 : z < 18446744073709551616 := by omega
  by_cases s1 : Nb ≤ 3000
  case neg =>
    have s1' : decide (Nb ≤ 3000) = false := by simpa using s1
    go_enter Try.func4, Try.ntmps4
    have hw : Below w.heap.size w w := Below.refl _ _
    go_wp2_with fail
    refine (small_c _ _ _ _ _).mono ?_
    rintro e w1 ⟨rfl, hb⟩
    have Ba := Box.new hb
    have hB : Below w.heap.size w w1 := Below.trans (by repeat (first | exact Below.refl _ _ | apply Below.drew | apply below_drewN | refine Below.alloc ?_ (by first | (simp; done) | (simp; omega)) _)) (hb.mono (by first | (simp; done) | (simp; omega) | omega))
    clear hb
    replace Xb := Xb.keep hB
    replace hw := hw.trans (hB.mono hw.size)
    clear hB
    have Bal := Ba.1
    have Bau := Ba.2.1
    have Bav := Ba.2.2
    go_wp2_with fail
    refine (heads_c _).mono ?_
    rintro e w2 ⟨rfl, hb⟩
    have hB : Below w1.heap.size w1 w2 := Below.trans (by repeat (first | exact Below.refl _ _ | apply Below.drew | apply below_drewN | refine Below.alloc ?_ (by first | (simp; done) | (simp; omega)) _)) (hb.mono (by first | (simp; done) | (simp; omega) | omega))
    clear hb
    clear Bal Bau Bav
    replace Ba := Ba.keep hB
    replace Xb := Xb.keep hB
    replace hw := hw.trans (hB.mono hw.size)
    clear hB
    have Bal := Ba.1
    have Bau := Ba.2.1
    have Bav := Ba.2.2
    go_wp2
    go_ret
    exact ⟨rfl, hw⟩
  by_cases s2 : (xb.length : Int) ≤ 3000
  case neg =>
    have s2' : decide ((xb.length : Int) ≤ 3000) = false := by simpa using s2
    go_enter Try.func4, Try.ntmps4
    have hw : Below w.heap.size w w := Below.refl _ _
    go_wp2_with fail
    refine (small_c _ _ _ _ _).mono ?_
    rintro e w1 ⟨rfl, hb⟩
    have Ba := Box.new hb
    have hB : Below w.heap.size w w1 := Below.trans (by repeat (first | exact Below.refl _ _ | apply Below.drew | apply below_drewN | refine Below.alloc ?_ (by first | (simp; done) | (simp; omega)) _)) (hb.mono (by first | (simp; done) | (simp; omega) | omega))
    clear hb
    replace Xb := Xb.keep hB
    replace hw := hw.trans (hB.mono hw.size)
    clear hB
    have Bal := Ba.1
    have Bau := Ba.2.1
    have Bav := Ba.2.2
    go_wp2_with fail
    refine (heads_c _).mono ?_
    rintro e w2 ⟨rfl, hb⟩
    have hB : Below w1.heap.size w1 w2 := Below.trans (by repeat (first | exact Below.refl _ _ | apply Below.drew | apply below_drewN | refine Below.alloc ?_ (by first | (simp; done) | (simp; omega)) _)) (hb.mono (by first | (simp; done) | (simp; omega) | omega))
    clear hb
    clear Bal Bau Bav
    replace Ba := Ba.keep hB
    replace Xb := Xb.keep hB
    replace hw := hw.trans (hB.mono hw.size)
    clear hB
    have Bal := Ba.1
    have Bau := Ba.2.1
    have Bav := Ba.2.2
    go_wp2
    go_ret
    exact ⟨rfl, hw⟩
  have s1' : decide (Nb ≤ 3000) = true := by simpa using s1
  have s2' : decide ((xb.length : Int) ≤ 3000) = true := by simpa using s2
  have hl : xb.length ≤ 1048576 := by omega
  have PG : Hid (∀ w0 : World, Wd w0 ab xb → Calls Try.prog 12 #[.agg #[.int .i64 Nb, .slice ab xb.length cb], .int .u64 z] w0 fun e w' => ∃ bo dap, e = .returned (.tuple #[.agg #[.int .i64 (pN false Nb xb z), .slice bo (pL false Nb xb z).length dap], .int .i64 (pE false Nb xb z)]) ∧ OutF w0 w' bo (pL false Nb xb z) dap) := fun w0 h => putg_c Nb ab xb cb z w0 h Fb hl z64
  have RG : Hid (∀ w0 : World, Wd w0 ab xb → Calls Try.prog 15 #[.agg #[.int .i64 Nb, .slice ab xb.length cb], .int .u64 z] w0 fun e w' => ∃ bo dap, e = .returned (.tuple #[.agg #[.int .i64 (pN false Nb xb z), .slice bo (pL false Nb xb z).length dap], .int .i64 (pE false Nb xb z)]) ∧ Out w0 w' bo (pL false Nb xb z) dap) := fun w0 h => rputg_c Nb ab xb cb z w0 h Fb Cb z64
  have PD : Hid (∀ w0 : World, Wd w0 ab xb → Calls Try.prog 13 #[.agg #[.int .i64 Nb, .slice ab xb.length cb], .int .u64 z] w0 fun e w' => ∃ bo dap, e = .returned (.tuple #[.agg #[.int .i64 (pN true Nb xb z), .slice bo (pL true Nb xb z).length dap], .int .i64 (pE true Nb xb z)]) ∧ OutF w0 w' bo (pL true Nb xb z) dap) := fun w0 h => putd_c Nb ab xb cb z w0 h Fb hl z64
  have RD : Hid (∀ w0 : World, Wd w0 ab xb → Calls Try.prog 16 #[.agg #[.int .i64 Nb, .slice ab xb.length cb], .int .u64 z] w0 fun e w' => ∃ bo dap, e = .returned (.tuple #[.agg #[.int .i64 (pN true Nb xb z), .slice bo (pL true Nb xb z).length dap], .int .i64 (pE true Nb xb z)]) ∧ Out w0 w' bo (pL true Nb xb z) dap) := fun w0 h => rputd_c Nb ab xb cb z w0 h Fb Cb z64
  have LG : Hid ((pL false Nb xb z).length ≤ 1048576) := pL_len false Nb xb z hl z64
  have LD : Hid ((pL true Nb xb z).length ≤ 1048576) := pL_len true Nb xb z hl z64
  have SG : Hid (∀ w0 : World, Calls Try.prog 20 #[.int .u64 z, .bool false] w0 fun e w' => e = .returned (.int .i64 (cL false z)) ∧ Below w0.heap.size w0 w') := fun w0 => size_b false z z64 w0
  have SD : Hid (∀ w0 : World, Calls Try.prog 20 #[.int .u64 z, .bool true] w0 fun e w' => e = .returned (.int .i64 (cL true z)) ∧ Below w0.heap.size w0 w') := fun w0 => size_b true z z64 w0
  have TG : Hid (∀ w0 : World, Calls Try.prog 21 #[.int .u64 z, .bool false] w0 fun e w' => e = .returned (.int .i64 (cL false z)) ∧ Below w0.heap.size w0 w') := fun w0 => rsize_c false z z64 w0
  have TD : Hid (∀ w0 : World, Calls Try.prog 21 #[.int .u64 z, .bool true] w0 fun e w' => e = .returned (.int .i64 (cL true z)) ∧ Below w0.heap.size w0 w') := fun w0 => rsize_c true z z64 w0
  generalize pN false Nb xb z = R1 at *
  generalize pL false Nb xb z = L1 at *
  generalize pE false Nb xb z = E1 at *
  generalize pN true Nb xb z = R2 at *
  generalize pL true Nb xb z = L2 at *
  generalize pE true Nb xb z = E2 at *
  generalize cL false z = C1 at *
  generalize cL true z = C2 at *
  go_enter Try.func4, Try.ntmps4
  have hw : Below w.heap.size w w := Below.refl _ _
  go_wp2_with fail
  refine (small_c _ _ _ _ _).mono ?_
  rintro e w1 ⟨rfl, hb⟩
  have Ba := Box.new hb
  have hB : Below w.heap.size w w1 := Below.trans (by repeat (first | exact Below.refl _ _ | apply Below.drew | apply below_drewN | refine Below.alloc ?_ (by first | (simp; done) | (simp; omega)) _)) (hb.mono (by first | (simp; done) | (simp; omega) | omega))
  clear hb
  replace Xb := Xb.keep hB
  replace hw := hw.trans (hB.mono hw.size)
  clear hB
  have Bal := Ba.1
  have Bau := Ba.2.1
  have Bav := Ba.2.2
  go_wp2_with fail
  refine (PG.out _ (Xb.keep (by repeat (first | exact Below.refl _ _ | apply Below.drew | apply below_drewN | refine Below.alloc ?_ (by first | (simp; done) | (simp; omega)) _)))).mono ?_
  rintro e w2 ⟨po, pc, rfl, Xp, Fp, Cp, _, hb⟩
  have hB : Below w1.heap.size w1 w2 := Below.trans (by repeat (first | exact Below.refl _ _ | apply Below.drew | apply below_drewN | refine Below.alloc ?_ (by first | (simp; done) | (simp; omega)) _)) (hb.mono (by first | (simp; done) | (simp; omega) | omega))
  clear hb
  clear Bal Bau Bav
  replace Ba := Ba.keep hB
  replace Xb := Xb.keep hB
  replace hw := hw.trans (hB.mono hw.size)
  clear hB
  have Bal := Ba.1
  have Bau := Ba.2.1
  have Bav := Ba.2.2
  go_wp2_with fail
  refine (RG.out _ (Xb.keep (by repeat (first | exact Below.refl _ _ | apply Below.drew | apply below_drewN | refine Below.alloc ?_ (by first | (simp; done) | (simp; omega)) _)))).mono ?_
  rintro e w3 ⟨so, sc, rfl, Xs, Fs, Cs, hb⟩
  have Bp := Box.new hb
  have hB : Below w2.heap.size w2 w3 := Below.trans (by repeat (first | exact Below.refl _ _ | apply Below.drew | apply below_drewN | refine Below.alloc ?_ (by first | (simp; done) | (simp; omega)) _)) (hb.mono (by first | (simp; done) | (simp; omega) | omega))
  clear hb
  clear Bal Bau Bav
  replace Ba := Ba.keep hB
  replace Xb := Xb.keep hB
  replace Xp := Xp.keep hB
  replace hw := hw.trans (hB.mono hw.size)
  clear hB
  have Bal := Ba.1
  have Bau := Ba.2.1
  have Bav := Ba.2.2
  have Bpl := Bp.1
  have Bpu := Bp.2.1
  have Bpv := Bp.2.2
  go_wp2_with fail
  refine (PD.out _ (Xb.keep (by repeat (first | exact Below.refl _ _ | apply Below.drew | apply below_drewN | refine Below.alloc ?_ (by first | (simp; done) | (simp; omega)) _)))).mono ?_
  rintro e w4 ⟨uo, uc, rfl, Xu, Fu, Cu, _, hb⟩
  have Bs := Box.new hb
  have hB : Below w3.heap.size w3 w4 := Below.trans (by repeat (first | exact Below.refl _ _ | apply Below.drew | apply below_drewN | refine Below.alloc ?_ (by first | (simp; done) | (simp; omega)) _)) (hb.mono (by first | (simp; done) | (simp; omega) | omega))
  clear hb
  clear Bal Bau Bav
  clear Bpl Bpu Bpv
  replace Ba := Ba.keep hB
  replace Bp := Bp.keep hB
  replace Xb := Xb.keep hB
  replace Xp := Xp.keep hB
  replace Xs := Xs.keep hB
  replace hw := hw.trans (hB.mono hw.size)
  clear hB
  have Bal := Ba.1
  have Bau := Ba.2.1
  have Bav := Ba.2.2
  have Bpl := Bp.1
  have Bpu := Bp.2.1
  have Bpv := Bp.2.2
  have Bsl := Bs.1
  have Bsu := Bs.2.1
  have Bsv := Bs.2.2
  go_wp2_with fail
  refine (RD.out _ (Xb.keep (by repeat (first | exact Below.refl _ _ | apply Below.drew | apply below_drewN | refine Below.alloc ?_ (by first | (simp; done) | (simp; omega)) _)))).mono ?_
  rintro e w5 ⟨vo, vc, rfl, Xv, Fv, Cv, hb⟩
  have Bu := Box.new hb
  have hB : Below w4.heap.size w4 w5 := Below.trans (by repeat (first | exact Below.refl _ _ | apply Below.drew | apply below_drewN | refine Below.alloc ?_ (by first | (simp; done) | (simp; omega)) _)) (hb.mono (by first | (simp; done) | (simp; omega) | omega))
  clear hb
  clear Bal Bau Bav
  clear Bpl Bpu Bpv
  clear Bsl Bsu Bsv
  replace Ba := Ba.keep hB
  replace Bp := Bp.keep hB
  replace Bs := Bs.keep hB
  replace Xb := Xb.keep hB
  replace Xp := Xp.keep hB
  replace Xs := Xs.keep hB
  replace Xu := Xu.keep hB
  replace hw := hw.trans (hB.mono hw.size)
  clear hB
  have Bal := Ba.1
  have Bau := Ba.2.1
  have Bav := Ba.2.2
  have Bpl := Bp.1
  have Bpu := Bp.2.1
  have Bpv := Bp.2.2
  have Bsl := Bs.1
  have Bsu := Bs.2.1
  have Bsv := Bs.2.2
  have Bul := Bu.1
  have Buu := Bu.2.1
  have Buv := Bu.2.2
  go_wp2_with fail
  refine (gamma_c _ _ _ _ _ _ (Xb.keep (by repeat (first | exact Below.refl _ _ | apply Below.drew | apply below_drewN | refine Below.alloc ?_ (by first | (simp; done) | (simp; omega)) _))) Fb).mono ?_
  rintro e w6 ⟨rfl, hb⟩
  have Bv := Box.new hb
  have hB : Below w5.heap.size w5 w6 := Below.trans (by repeat (first | exact Below.refl _ _ | apply Below.drew | apply below_drewN | refine Below.alloc ?_ (by first | (simp; done) | (simp; omega)) _)) (hb.mono (by first | (simp; done) | (simp; omega) | omega))
  clear hb
  clear Bal Bau Bav
  clear Bpl Bpu Bpv
  clear Bsl Bsu Bsv
  clear Bul Buu Buv
  replace Ba := Ba.keep hB
  replace Bp := Bp.keep hB
  replace Bs := Bs.keep hB
  replace Bu := Bu.keep hB
  replace Xb := Xb.keep hB
  replace Xp := Xp.keep hB
  replace Xs := Xs.keep hB
  replace Xu := Xu.keep hB
  replace Xv := Xv.keep hB
  replace hw := hw.trans (hB.mono hw.size)
  clear hB
  have Bal := Ba.1
  have Bau := Ba.2.1
  have Bav := Ba.2.2
  have Bpl := Bp.1
  have Bpu := Bp.2.1
  have Bpv := Bp.2.2
  have Bsl := Bs.1
  have Bsu := Bs.2.1
  have Bsv := Bs.2.2
  have Bul := Bu.1
  have Buu := Bu.2.1
  have Buv := Bu.2.2
  have Bvl := Bv.1
  have Bvu := Bv.2.1
  have Bvv := Bv.2.2
  go_wp2_with fail
  refine (rG_c _ _ _ _ _ _ (Xb.keep (by repeat (first | exact Below.refl _ _ | apply Below.drew | apply below_drewN | refine Below.alloc ?_ (by first | (simp; done) | (simp; omega)) _))) Fb).mono ?_
  rintro e w7 ⟨rfl, hb⟩
  have hB : Below w6.heap.size w6 w7 := Below.trans (by repeat (first | exact Below.refl _ _ | apply Below.drew | apply below_drewN | refine Below.alloc ?_ (by first | (simp; done) | (simp; omega)) _)) (hb.mono (by first | (simp; done) | (simp; omega) | omega))
  clear hb
  clear Bal Bau Bav
  clear Bpl Bpu Bpv
  clear Bsl Bsu Bsv
  clear Bul Buu Buv
  clear Bvl Bvu Bvv
  replace Ba := Ba.keep hB
  replace Bp := Bp.keep hB
  replace Bs := Bs.keep hB
  replace Bu := Bu.keep hB
  replace Bv := Bv.keep hB
  replace Xb := Xb.keep hB
  replace Xp := Xp.keep hB
  replace Xs := Xs.keep hB
  replace Xu := Xu.keep hB
  replace Xv := Xv.keep hB
  replace hw := hw.trans (hB.mono hw.size)
  clear hB
  have Bal := Ba.1
  have Bau := Ba.2.1
  have Bav := Ba.2.2
  have Bpl := Bp.1
  have Bpu := Bp.2.1
  have Bpv := Bp.2.2
  have Bsl := Bs.1
  have Bsu := Bs.2.1
  have Bsv := Bs.2.2
  have Bul := Bu.1
  have Buu := Bu.2.1
  have Buv := Bu.2.2
  have Bvl := Bv.1
  have Bvu := Bv.2.1
  have Bvv := Bv.2.2
  go_wp2_with fail
  refine (delta_c _ _ _ _ _ _ (Xb.keep (by repeat (first | exact Below.refl _ _ | apply Below.drew | apply below_drewN | refine Below.alloc ?_ (by first | (simp; done) | (simp; omega)) _))) Fb).mono ?_
  rintro e w8 ⟨rfl, hb⟩
  have hB : Below w7.heap.size w7 w8 := Below.trans (by repeat (first | exact Below.refl _ _ | apply Below.drew | apply below_drewN | refine Below.alloc ?_ (by first | (simp; done) | (simp; omega)) _)) (hb.mono (by first | (simp; done) | (simp; omega) | omega))
  clear hb
  clear Bal Bau Bav
  clear Bpl Bpu Bpv
  clear Bsl Bsu Bsv
  clear Bul Buu Buv
  clear Bvl Bvu Bvv
  replace Ba := Ba.keep hB
  replace Bp := Bp.keep hB
  replace Bs := Bs.keep hB
  replace Bu := Bu.keep hB
  replace Bv := Bv.keep hB
  replace Xb := Xb.keep hB
  replace Xp := Xp.keep hB
  replace Xs := Xs.keep hB
  replace Xu := Xu.keep hB
  replace Xv := Xv.keep hB
  replace hw := hw.trans (hB.mono hw.size)
  clear hB
  have Bal := Ba.1
  have Bau := Ba.2.1
  have Bav := Ba.2.2
  have Bpl := Bp.1
  have Bpu := Bp.2.1
  have Bpv := Bp.2.2
  have Bsl := Bs.1
  have Bsu := Bs.2.1
  have Bsv := Bs.2.2
  have Bul := Bu.1
  have Buu := Bu.2.1
  have Buv := Bu.2.2
  have Bvl := Bv.1
  have Bvu := Bv.2.1
  have Bvv := Bv.2.2
  go_wp2_with fail
  refine (rD_c _ _ _ _ _ _ (Xb.keep (by repeat (first | exact Below.refl _ _ | apply Below.drew | apply below_drewN | refine Below.alloc ?_ (by first | (simp; done) | (simp; omega)) _))) Fb).mono ?_
  rintro e w9 ⟨rfl, hb⟩
  have hB : Below w8.heap.size w8 w9 := Below.trans (by repeat (first | exact Below.refl _ _ | apply Below.drew | apply below_drewN | refine Below.alloc ?_ (by first | (simp; done) | (simp; omega)) _)) (hb.mono (by first | (simp; done) | (simp; omega) | omega))
  clear hb
  clear Bal Bau Bav
  clear Bpl Bpu Bpv
  clear Bsl Bsu Bsv
  clear Bul Buu Buv
  clear Bvl Bvu Bvv
  replace Ba := Ba.keep hB
  replace Bp := Bp.keep hB
  replace Bs := Bs.keep hB
  replace Bu := Bu.keep hB
  replace Bv := Bv.keep hB
  replace Xb := Xb.keep hB
  replace Xp := Xp.keep hB
  replace Xs := Xs.keep hB
  replace Xu := Xu.keep hB
  replace Xv := Xv.keep hB
  replace hw := hw.trans (hB.mono hw.size)
  clear hB
  have Bal := Ba.1
  have Bau := Ba.2.1
  have Bav := Ba.2.2
  have Bpl := Bp.1
  have Bpu := Bp.2.1
  have Bpv := Bp.2.2
  have Bsl := Bs.1
  have Bsu := Bs.2.1
  have Bsv := Bs.2.2
  have Bul := Bu.1
  have Buu := Bu.2.1
  have Buv := Bu.2.2
  have Bvl := Bv.1
  have Bvu := Bv.2.1
  have Bvv := Bv.2.2
  go_wp2_with fail
  refine (same_c _ _ _ _ _ _ _ _ _ (Xp.keep (by repeat (first | exact Below.refl _ _ | apply Below.drew | apply below_drewN | refine Below.alloc ?_ (by first | (simp; done) | (simp; omega)) _))) (Xs.keep (by repeat (first | exact Below.refl _ _ | apply Below.drew | apply below_drewN | refine Below.alloc ?_ (by first | (simp; done) | (simp; omega)) _))) LG.out).mono ?_
  rintro e w10 ⟨rfl, hb⟩
  have hB : Below w9.heap.size w9 w10 := Below.trans (by repeat (first | exact Below.refl _ _ | apply Below.drew | apply below_drewN | refine Below.alloc ?_ (by first | (simp; done) | (simp; omega)) _)) (hb.mono (by first | (simp; done) | (simp; omega) | omega))
  clear hb
  clear Bal Bau Bav
  clear Bpl Bpu Bpv
  clear Bsl Bsu Bsv
  clear Bul Buu Buv
  clear Bvl Bvu Bvv
  replace Ba := Ba.keep hB
  replace Bp := Bp.keep hB
  replace Bs := Bs.keep hB
  replace Bu := Bu.keep hB
  replace Bv := Bv.keep hB
  replace Xb := Xb.keep hB
  replace Xp := Xp.keep hB
  replace Xs := Xs.keep hB
  replace Xu := Xu.keep hB
  replace Xv := Xv.keep hB
  replace hw := hw.trans (hB.mono hw.size)
  clear hB
  have Bal := Ba.1
  have Bau := Ba.2.1
  have Bav := Ba.2.2
  have Bpl := Bp.1
  have Bpu := Bp.2.1
  have Bpv := Bp.2.2
  have Bsl := Bs.1
  have Bsu := Bs.2.1
  have Bsv := Bs.2.2
  have Bul := Bu.1
  have Buu := Bu.2.1
  have Buv := Bu.2.2
  have Bvl := Bv.1
  have Bvu := Bv.2.1
  have Bvv := Bv.2.2
  go_wp2_with fail
  refine (same_c _ _ _ _ _ _ _ _ _ (Xu.keep (by repeat (first | exact Below.refl _ _ | apply Below.drew | apply below_drewN | refine Below.alloc ?_ (by first | (simp; done) | (simp; omega)) _))) (Xv.keep (by repeat (first | exact Below.refl _ _ | apply Below.drew | apply below_drewN | refine Below.alloc ?_ (by first | (simp; done) | (simp; omega)) _))) LD.out).mono ?_
  rintro e w11 ⟨rfl, hb⟩
  have hB : Below w10.heap.size w10 w11 := Below.trans (by repeat (first | exact Below.refl _ _ | apply Below.drew | apply below_drewN | refine Below.alloc ?_ (by first | (simp; done) | (simp; omega)) _)) (hb.mono (by first | (simp; done) | (simp; omega) | omega))
  clear hb
  clear Bal Bau Bav
  clear Bpl Bpu Bpv
  clear Bsl Bsu Bsv
  clear Bul Buu Buv
  clear Bvl Bvu Bvv
  replace Ba := Ba.keep hB
  replace Bp := Bp.keep hB
  replace Bs := Bs.keep hB
  replace Bu := Bu.keep hB
  replace Bv := Bv.keep hB
  replace Xb := Xb.keep hB
  replace Xp := Xp.keep hB
  replace Xs := Xs.keep hB
  replace Xu := Xu.keep hB
  replace Xv := Xv.keep hB
  replace hw := hw.trans (hB.mono hw.size)
  clear hB
  have Bal := Ba.1
  have Bau := Ba.2.1
  have Bav := Ba.2.2
  have Bpl := Bp.1
  have Bpu := Bp.2.1
  have Bpv := Bp.2.2
  have Bsl := Bs.1
  have Bsu := Bs.2.1
  have Bsv := Bs.2.2
  have Bul := Bu.1
  have Buu := Bu.2.1
  have Buv := Bu.2.2
  have Bvl := Bv.1
  have Bvu := Bv.2.1
  have Bvv := Bv.2.2
  go_wp2_with fail
  refine (SG.out _).mono ?_
  rintro e w12 ⟨rfl, hb⟩
  have hB : Below w11.heap.size w11 w12 := Below.trans (by repeat (first | exact Below.refl _ _ | apply Below.drew | apply below_drewN | refine Below.alloc ?_ (by first | (simp; done) | (simp; omega)) _)) (hb.mono (by first | (simp; done) | (simp; omega) | omega))
  clear hb
  clear Bal Bau Bav
  clear Bpl Bpu Bpv
  clear Bsl Bsu Bsv
  clear Bul Buu Buv
  clear Bvl Bvu Bvv
  replace Ba := Ba.keep hB
  replace Bp := Bp.keep hB
  replace Bs := Bs.keep hB
  replace Bu := Bu.keep hB
  replace Bv := Bv.keep hB
  replace Xb := Xb.keep hB
  replace Xp := Xp.keep hB
  replace Xs := Xs.keep hB
  replace Xu := Xu.keep hB
  replace Xv := Xv.keep hB
  replace hw := hw.trans (hB.mono hw.size)
  clear hB
  have Bal := Ba.1
  have Bau := Ba.2.1
  have Bav := Ba.2.2
  have Bpl := Bp.1
  have Bpu := Bp.2.1
  have Bpv := Bp.2.2
  have Bsl := Bs.1
  have Bsu := Bs.2.1
  have Bsv := Bs.2.2
  have Bul := Bu.1
  have Buu := Bu.2.1
  have Buv := Bu.2.2
  have Bvl := Bv.1
  have Bvu := Bv.2.1
  have Bvv := Bv.2.2
  go_wp2_with fail
  refine (TG.out _).mono ?_
  rintro e w13 ⟨rfl, hb⟩
  have hB : Below w12.heap.size w12 w13 := Below.trans (by repeat (first | exact Below.refl _ _ | apply Below.drew | apply below_drewN | refine Below.alloc ?_ (by first | (simp; done) | (simp; omega)) _)) (hb.mono (by first | (simp; done) | (simp; omega) | omega))
  clear hb
  clear Bal Bau Bav
  clear Bpl Bpu Bpv
  clear Bsl Bsu Bsv
  clear Bul Buu Buv
  clear Bvl Bvu Bvv
  replace Ba := Ba.keep hB
  replace Bp := Bp.keep hB
  replace Bs := Bs.keep hB
  replace Bu := Bu.keep hB
  replace Bv := Bv.keep hB
  replace Xb := Xb.keep hB
  replace Xp := Xp.keep hB
  replace Xs := Xs.keep hB
  replace Xu := Xu.keep hB
  replace Xv := Xv.keep hB
  replace hw := hw.trans (hB.mono hw.size)
  clear hB
  have Bal := Ba.1
  have Bau := Ba.2.1
  have Bav := Ba.2.2
  have Bpl := Bp.1
  have Bpu := Bp.2.1
  have Bpv := Bp.2.2
  have Bsl := Bs.1
  have Bsu := Bs.2.1
  have Bsv := Bs.2.2
  have Bul := Bu.1
  have Buu := Bu.2.1
  have Buv := Bu.2.2
  have Bvl := Bv.1
  have Bvu := Bv.2.1
  have Bvv := Bv.2.2
  go_wp2_with fail
  refine (SD.out _).mono ?_
  rintro e w14 ⟨rfl, hb⟩
  have hB : Below w13.heap.size w13 w14 := Below.trans (by repeat (first | exact Below.refl _ _ | apply Below.drew | apply below_drewN | refine Below.alloc ?_ (by first | (simp; done) | (simp; omega)) _)) (hb.mono (by first | (simp; done) | (simp; omega) | omega))
  clear hb
  clear Bal Bau Bav
  clear Bpl Bpu Bpv
  clear Bsl Bsu Bsv
  clear Bul Buu Buv
  clear Bvl Bvu Bvv
  replace Ba := Ba.keep hB
  replace Bp := Bp.keep hB
  replace Bs := Bs.keep hB
  replace Bu := Bu.keep hB
  replace Bv := Bv.keep hB
  replace Xb := Xb.keep hB
  replace Xp := Xp.keep hB
  replace Xs := Xs.keep hB
  replace Xu := Xu.keep hB
  replace Xv := Xv.keep hB
  replace hw := hw.trans (hB.mono hw.size)
  clear hB
  have Bal := Ba.1
  have Bau := Ba.2.1
  have Bav := Ba.2.2
  have Bpl := Bp.1
  have Bpu := Bp.2.1
  have Bpv := Bp.2.2
  have Bsl := Bs.1
  have Bsu := Bs.2.1
  have Bsv := Bs.2.2
  have Bul := Bu.1
  have Buu := Bu.2.1
  have Buv := Bu.2.2
  have Bvl := Bv.1
  have Bvu := Bv.2.1
  have Bvv := Bv.2.2
  go_wp2_with fail
  refine (TD.out _).mono ?_
  rintro e w15 ⟨rfl, hb⟩
  have hB : Below w14.heap.size w14 w15 := Below.trans (by repeat (first | exact Below.refl _ _ | apply Below.drew | apply below_drewN | refine Below.alloc ?_ (by first | (simp; done) | (simp; omega)) _)) (hb.mono (by first | (simp; done) | (simp; omega) | omega))
  clear hb
  clear Bal Bau Bav
  clear Bpl Bpu Bpv
  clear Bsl Bsu Bsv
  clear Bul Buu Buv
  clear Bvl Bvu Bvv
  replace Ba := Ba.keep hB
  replace Bp := Bp.keep hB
  replace Bs := Bs.keep hB
  replace Bu := Bu.keep hB
  replace Bv := Bv.keep hB
  replace Xb := Xb.keep hB
  replace Xp := Xp.keep hB
  replace Xs := Xs.keep hB
  replace Xu := Xu.keep hB
  replace Xv := Xv.keep hB
  replace hw := hw.trans (hB.mono hw.size)
  clear hB
  have Bal := Ba.1
  have Bau := Ba.2.1
  have Bav := Ba.2.2
  have Bpl := Bp.1
  have Bpu := Bp.2.1
  have Bpv := Bp.2.2
  have Bsl := Bs.1
  have Bsu := Bs.2.1
  have Bsv := Bs.2.2
  have Bul := Bu.1
  have Buu := Bu.2.1
  have Buv := Bu.2.2
  have Bvl := Bv.1
  have Bvu := Bv.2.1
  have Bvv := Bv.2.2
  go_wp2_with fail
  refine (heads_c _).mono ?_
  rintro e w16 ⟨rfl, hb⟩
  have hB : Below w15.heap.size w15 w16 := Below.trans (by repeat (first | exact Below.refl _ _ | apply Below.drew | apply below_drewN | refine Below.alloc ?_ (by first | (simp; done) | (simp; omega)) _)) (hb.mono (by first | (simp; done) | (simp; omega) | omega))
  clear hb
  clear Bal Bau Bav
  clear Bpl Bpu Bpv
  clear Bsl Bsu Bsv
  clear Bul Buu Buv
  clear Bvl Bvu Bvv
  replace Ba := Ba.keep hB
  replace Bp := Bp.keep hB
  replace Bs := Bs.keep hB
  replace Bu := Bu.keep hB
  replace Bv := Bv.keep hB
  replace Xb := Xb.keep hB
  replace Xp := Xp.keep hB
  replace Xs := Xs.keep hB
  replace Xu := Xu.keep hB
  replace Xv := Xv.keep hB
  replace hw := hw.trans (hB.mono hw.size)
  clear hB
  have Bal := Ba.1
  have Bau := Ba.2.1
  have Bav := Ba.2.2
  have Bpl := Bp.1
  have Bpu := Bp.2.1
  have Bpv := Bp.2.2
  have Bsl := Bs.1
  have Bsu := Bs.2.1
  have Bsv := Bs.2.2
  have Bul := Bu.1
  have Buu := Bu.2.1
  have Buv := Bu.2.2
  have Bvl := Bv.1
  have Bvu := Bv.2.1
  have Bvv := Bv.2.2
  go_wp2
  go_ret
  exact ⟨rfl, hw⟩

theorem lifted (os : Os) (started : os.Started) (H : Type) (enc : TypeId × Value → H) :
    ReturnsInHanded {} Try.checked os 4 .any (Rows.streamTellsSpec.pre6 enc Try.prog Try.f4 Rows.streamTellsRow.domain false) (Rows.streamTellsSpec.post enc Try.prog Try.f4 false true false false) := by
  refine returnsInHanded_of_change (C := Try.checked) own started (by kernel_rfl) Try.func4
    (ChangeSpec.witness6 (enc := enc) (C := Try.checked) false ⟨#[], #[.agg #[.int .i64 0, .slice none 0 0], .int .i64 0, .int .u64 0], []⟩ 8 (by kernel_rfl) (by kernel_rfl) (by kernel_rfl) (by kernel_rfl)) ?_
  intro W base args ds gs before hval0 hW hcnd _
  have hval : ∀ (j : Nat) t v, Try.f4.params[j]? = some t → args[j]? = some v → Value.okWide Try.prog W .any base t v := hval0
  have hW' := hW
  obtain ⟨p, q, hA0, hV, rfl, hfz, hnd⟩ := hW
  have hA : DataW.TrodAll enc Try.prog W 0 (fun _ => true) true Try.f4.params.toList args.toList ds p := hA0
  rw [Try.params4] at hA hval
  obtain ⟨v0, vs0, d0, ds0, p0, q0, hargs, rfl, rfl, h0, r0⟩ := trodAll_cons hA
  obtain ⟨v1, vs1, d1, ds1, p1, q1, rfl, rfl, rfl, h1, r1⟩ := trodAll_cons r0
  obtain ⟨v2, vs2, d2, ds2, p2, q2, rfl, rfl, rfl, h2, r2⟩ := trodAll_cons r1
  obtain ⟨rfl, rfl, rfl⟩ := trodAll_nil r2
  obtain rfl : args = #[v0, v1, v2] := by cases args; simp_all
  obtain ⟨rfl, rfl⟩ := trodVars_none hV
  have k0 := h0
  have lt0 : ∀ x ∈ p0, x.block < W.heap.size := by obtain ⟨m, hm⟩ := k0; exact DataW.trod_lt m _ _ _ hm
  obtain ⟨Nb, ab, xb, cb, rfl, bb1, bb2, bb3, bb4⟩ := open_bits (hval 0 24 v0 rfl rfl) h0
  obtain ⟨i, rfl, rfl, rfl, w1⟩ := open_int Try.underlying3 (hval 1 3 v1 rfl rfl) h1
  obtain ⟨x, rfl, rfl, rfl, w2⟩ := open_int Try.underlying27 (hval 2 27 v2 rfl rfl) h2
  clear hA0 hval0
  refine (walk W Nb ab xb cb bb1 bb2 bb3 bb4 i (i64_wf _ w1) x (u64_wf _ w2)).mono fun e W' ⟨he, bel⟩ => ?_
  subst he
  exact ⟨_, rfl, _, _, _, [], _, [], hW', trodAll_mk1 (shut_bool Try.underlying4 _), (trodAll_cons_mk (Below.trod laidOut (by kernel_rfl) (of_decide_eq_true (by kernel_rfl)) k0 bel lt0) (trodAll_cons_mk (shut_int Try.underlying3 w1) (trodAll_cons_mk (shut_int Try.underlying27 w2) trodAll_mk0))), rfl, bel.frame _, fun h => by cases h⟩

theorem over : Rows.streamTellsRow.holds Try.pinned (OpenSpec.ofChange Rows.streamTellsSpec) :=
  OpenClaim.holds_of_wide 4 Try.f4 rfl rfl rfl rfl rfl rfl rfl ⟨rfl, rfl, rfl, rfl, rfl⟩ rfl rfl rfl rfl rfl (by kernel_rfl) Try.func4 (by kernel_rfl)
    (of_decide_eq_true (by kernel_rfl)) (by unfold Func.isWrapper; first | (rw [if_pos (by decide +kernel)]; kernel_rfl) | (rw [if_neg (by decide +kernel)]; exact ⟨rfl, rfl⟩))
    (fun os started H enc _ => lifted os started H enc)

theorem proved : Rows.StreamTellsSaid := over
end Go.Proofs.Ytmdmjbpehbjgpaa.streamTells
namespace Go.Proofs.Ytmdmjbpehbjgpaa
theorem streamTells_holds : Rows.StreamTellsSaid := streamTells.proved
#print axioms streamTells_holds
end Go.Proofs.Ytmdmjbpehbjgpaa
