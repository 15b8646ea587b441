/-
  heads of the laws on rows of numbers: it answers true, and turns nothing old.
-/
import Derived.Test.YtjilehaokignoaaDoorPt2
import Derived.Test.YtjilehaokignoaaDoorLs
import Derived.Test.YtjilehaokignoaaDoorRd
namespace Go.Proofs.YtjilehaokignoaaDoor
open Go.RowKit Num Bit
set_option maxRecDepth 100000
set_option linter.unusedVariables false

theorem fit1 (v : Nat) (h : v < 18446744073709551616) : Fit [v] := by
  intro i
  cases i with
  | zero => exact h
  | succ i => exact (by decide : (0 : Nat) < 18446744073709551616)
theorem fit2 (v u : Nat) (h : v < 18446744073709551616) (h2 : u < 18446744073709551616) : Fit [v, u] := by
  intro i
  match i with
  | 0 => exact h
  | 1 => exact h2
  | i + 2 => exact (by decide : (0 : Nat) < 18446744073709551616)
theorem fit0 : Fit [] := fun _ => (by decide : (0 : Nat) < 18446744073709551616)
theorem wd0 (w : World) (ao : Option Addr) : Wd w ao [] := fun h => absurd h (by simp)

theorem hd_of (w : World) (ao : Option Addr) (cap : Nat) (hg : ET w) (hx : Wd w ao [5, 1]) : Calls Tryd.prog 8 #[.slice ao 2 cap] w fun e w' => ∃ bo dap, e = .returned (.tuple #[.agg #[.int .i64 2, .int .i64 3, .int .i64 6, .slice bo 1 dap], .int .i64 0]) ∧ OutF w w' bo [13] dap := by
  have h := of_c ao [5, 1] cap w hg hx (fit2 5 1 (by decide) (by decide)) (by decide)
  rw [show ((wm [5, 1] ([5, 1] : List Nat).length : Nat) : Int) = 3 by decide +kernel, show imN 3 [5, 1] = 2 by decide +kernel, show imW 3 [5, 1] = 3 by decide +kernel, show imM 3 [5, 1] = 6 by decide +kernel, show imL 3 [5, 1] = [13] by decide +kernel, show imE 3 [5, 1] = 0 by decide +kernel] at h
  exact h
theorem hd_put (w : World) (ao : Option Addr) (cap : Nat) (hg : ET w) (hx : Wd w ao [13]) : Calls Tryd.prog 15 #[.agg #[.int .i64 2, .int .i64 3, .int .i64 6, .slice ao 1 cap], .int .i64 1, .int .u64 7] w fun e w' => ∃ bo dap, e = .returned (.tuple #[.agg #[.int .i64 2, .int .i64 3, .int .i64 6, .slice bo 1 dap], .int .i64 0]) ∧ OutF w w' bo [61] dap := by
  have h := iput_c 2 3 6 ao [13] cap 1 7 w hg hx (fit1 13 (by decide)) (by decide) (by decide)
  rw [show ipL 2 3 6 [13] 1 7 = [61] by decide +kernel, show ipE 2 3 6 [13] 1 7 = 0 by decide +kernel] at h
  exact h
theorem hd_put8 (w : World) (ao : Option Addr) (cap : Nat) (hg : ET w) (hx : Wd w ao [13]) : Calls Tryd.prog 15 #[.agg #[.int .i64 2, .int .i64 3, .int .i64 6, .slice ao 1 cap], .int .i64 0, .int .u64 8] w fun e w' => ∃ bo dap, e = .returned (.tuple #[.agg #[.int .i64 2, .int .i64 3, .int .i64 6, .slice bo 1 dap], .int .i64 2]) ∧ OutF w w' bo [13] dap := by
  have h := iput_c 2 3 6 ao [13] cap 0 8 w hg hx (fit1 13 (by decide)) (by decide) (by decide)
  rw [show ipL 2 3 6 [13] 0 8 = [13] by decide +kernel, show ipE 2 3 6 [13] 0 8 = 2 by decide +kernel] at h
  exact h
theorem hd_get1 (w : World) (ao : Option Addr) (cap : Nat) (hg : ET w) (hx : Wd w ao [61]) : Calls Tryd.prog 13 #[.agg #[.int .i64 2, .int .i64 3, .int .i64 6, .slice ao 1 cap], .int .i64 1] w fun e w' => e = .returned (.tuple #[.int .u64 7, .int .i64 0]) ∧ Below w.heap.size w w' := by
  have h := iget_c 2 3 6 ao [61] cap 1 w hg hx (fit1 61 (by decide))
  rw [show igX 2 3 6 [61] 1 = 7 by decide +kernel, show igE 2 3 6 [61] 1 = 0 by decide +kernel] at h
  exact h
theorem hd_get2 (w : World) (ao : Option Addr) (cap : Nat) (hg : ET w) (hx : Wd w ao [13]) : Calls Tryd.prog 13 #[.agg #[.int .i64 2, .int .i64 3, .int .i64 6, .slice ao 1 cap], .int .i64 2] w fun e w' => e = .returned (.tuple #[.int .u64 0, .int .i64 3]) ∧ Below w.heap.size w w' := by
  have h := iget_c 2 3 6 ao [13] cap 2 w hg hx (fit1 13 (by decide))
  rw [show igX 2 3 6 [13] 2 = 0 by decide +kernel, show igE 2 3 6 [13] 2 = 3 by decide +kernel] at h
  exact h
theorem hd_make (w : World) (hg : ET w) : Calls Tryd.prog 9 #[.int .i64 0, .slice none 0 0] w fun e w' => e = .returned (.tuple #[.agg #[.int .i64 0, .int .i64 0, .int .i64 0, .slice none 0 0], .int .i64 2]) ∧ Below w.heap.size w w' := make_bad 0 none [] 0 w hg (wd0 _ _) fit0 (by decide) (by decide)
theorem hd_check (w : World) (ao : Option Addr) (cap : Nat) (hx : Wd w ao [61]) : Calls Tryd.prog 19 #[.agg #[.int .i64 2, .int .i64 3, .int .i64 6, .slice ao 1 cap]] w fun e w' => e = .returned (.bool true) ∧ Below w.heap.size w w' := by
  have h := icheck_c 2 3 6 ao [61] cap w hx
  rw [show ichk 2 3 6 [61] = true by decide +kernel] at h
  exact h
theorem hd_check0 (w : World) : Calls Tryd.prog 19 #[.agg #[.int .i64 0, .int .i64 0, .int .i64 0, .slice none 0 0]] w fun e w' => e = .returned (.bool false) ∧ Below w.heap.size w w' := by
  have h := icheck_c 0 0 0 none [] 0 w (wd0 _ _)
  rw [show ichk 0 0 0 [] = false by decide +kernel] at h
  exact h
theorem hd_list (w : World) (ao : Option Addr) (cap : Nat) (hx : Wd w ao [13]) : Calls Tryd.prog 10 #[.agg #[.int .i64 2, .int .i64 3, .int .i64 6, .slice ao 1 cap]] w fun e w' => ∃ bo dap, e = .returned (.slice bo 2 dap) ∧ OutF w w' bo [5, 1] dap := by
  have h := ilist_c 2 3 6 ao [13] cap w hx (fit1 13 (by decide))
  rw [show ilL 2 3 6 [13] = [5, 1] by decide +kernel] at h
  exact h
theorem hd_rows (w : World) (ao bo : Option Addr) (cap dap : Nat) (hx : Wd w ao [5, 1]) (hy : Wd w bo [5, 1]) : Calls Tryd.prog 21 #[.slice ao 2 cap, .slice bo 2 dap] w fun e w' => e = .returned (.bool true) ∧ Below w.heap.size w w' := rows_eq ao bo [5, 1] cap dap w hx hy (by decide)
theorem wd2 (w : World) (T : TypeId) : Wd (w.alloc (.cells #[.int .u64 5, .int .u64 1] T)) (some ⟨w.heap.size, 0, none⟩) [5, 1] := by
  intro _
  refine ⟨w.heap.size, 0, rfl, by simp, ?_⟩
  intro i hi
  match i, hi with
  | 0, _ => simp [gt]
  | 1, _ => simp [gt]

set_option maxHeartbeats 8000000 in
theorem heads_c (w : World) (E : ET w) : Calls Tryd.prog 7 #[] w fun e w' => e = .returned (.bool true) ∧ Below w.heap.size w w' := by
  go_enter Tryd.func7, Tryd.ntmps7
  have hw : Below w.heap.size w w := Below.refl _ _
  go_wp2_with fail
  refine (hd_of _ _ _ (E.keep (by repeat (first | exact Below.refl _ _ | apply Below.drew | apply below_drewN | refine Below.alloc ?_ (by first | (simp; done) | (simp; omega)) _))) (wd2 _ _)).mono ?_
  rintro e w1 ⟨xo, xc, rfl, X, _, _, _, hb⟩
  have hB : Below w.heap.size w w1 := Below.trans (by repeat (first | exact Below.refl _ _ | apply Below.drew | apply below_drewN | refine Below.alloc ?_ (by first | (simp; done) | (simp; omega)) _)) (hb.mono (by first | (simp; done) | (simp; omega) | omega))
  clear hb
  replace E := E.keep hB
  replace hw := hw.trans (hB.mono hw.size)
  clear hB
  obtain ⟨xb, xf, hxo, _, hxc⟩ := X (by decide)
  subst hxo
  clear hxc
  go_wp2_with fail
  refine (hd_put _ _ _ (E.keep (by repeat (first | exact Below.refl _ _ | apply Below.drew | apply below_drewN | refine Below.alloc ?_ (by first | (simp; done) | (simp; omega)) _))) (X.keep (by repeat (first | exact Below.refl _ _ | apply Below.drew | apply below_drewN | refine Below.alloc ?_ (by first | (simp; done) | (simp; omega)) _)))).mono ?_
  rintro e w2 ⟨yo, yc, rfl, Y, _, _, _, hb⟩
  have Bx := (Box4.new hb).1
  have hB : Below w1.heap.size w1 w2 := Below.trans (by repeat (first | exact Below.refl _ _ | apply Below.drew | apply below_drewN | refine Below.alloc ?_ (by first | (simp; done) | (simp; omega)) _)) (hb.mono (by first | (simp; done) | (simp; omega) | omega))
  clear hb
  replace E := E.keep hB
  replace X := X.keep hB
  replace hw := hw.trans (hB.mono hw.size)
  clear hB
  have Bxl := Bx.1
  have Bx0 := Bx.2.1
  have Bx1 := Bx.2.2.1
  have Bx2 := Bx.2.2.2.1
  have Bx3 := Bx.2.2.2.2
  go_wp2_with fail
  refine (hd_get1 _ _ _ (E.keep (by repeat (first | exact Below.refl _ _ | apply Below.drew | apply below_drewN | refine Below.alloc ?_ (by first | (simp; done) | (simp; omega)) _))) (Y.keep (by repeat (first | exact Below.refl _ _ | apply Below.drew | apply below_drewN | refine Below.alloc ?_ (by first | (simp; done) | (simp; omega)) _)))).mono ?_
  rintro e w3 ⟨rfl, hb⟩
  have By := (Box4.new hb).1
  have hB : Below w2.heap.size w2 w3 := Below.trans (by repeat (first | exact Below.refl _ _ | apply Below.drew | apply below_drewN | refine Below.alloc ?_ (by first | (simp; done) | (simp; omega)) _)) (hb.mono (by first | (simp; done) | (simp; omega) | omega))
  clear hb
  clear Bxl Bx0 Bx1 Bx2 Bx3
  replace Bx := Bx.keep hB
  replace E := E.keep hB
  replace X := X.keep hB
  replace Y := Y.keep hB
  replace hw := hw.trans (hB.mono hw.size)
  clear hB
  have Bxl := Bx.1
  have Bx0 := Bx.2.1
  have Bx1 := Bx.2.2.1
  have Bx2 := Bx.2.2.2.1
  have Bx3 := Bx.2.2.2.2
  have Byl := By.1
  have By0 := By.2.1
  have By1 := By.2.2.1
  have By2 := By.2.2.2.1
  have By3 := By.2.2.2.2
  go_wp2_with fail
  refine (hd_put8 _ _ _ (E.keep (by repeat (first | exact Below.refl _ _ | apply Below.drew | apply below_drewN | refine Below.alloc ?_ (by first | (simp; done) | (simp; omega)) _))) (X.keep (by repeat (first | exact Below.refl _ _ | apply Below.drew | apply below_drewN | refine Below.alloc ?_ (by first | (simp; done) | (simp; omega)) _)))).mono ?_
  rintro e w4 ⟨zo, zc, rfl, _, _, _, _, hb⟩
  have hB : Below w3.heap.size w3 w4 := Below.trans (by repeat (first | exact Below.refl _ _ | apply Below.drew | apply below_drewN | refine Below.alloc ?_ (by first | (simp; done) | (simp; omega)) _)) (hb.mono (by first | (simp; done) | (simp; omega) | omega))
  clear hb
  clear Bxl Bx0 Bx1 Bx2 Bx3
  clear Byl By0 By1 By2 By3
  replace Bx := Bx.keep hB
  replace By := By.keep hB
  replace E := E.keep hB
  replace X := X.keep hB
  replace Y := Y.keep hB
  replace hw := hw.trans (hB.mono hw.size)
  clear hB
  have Bxl := Bx.1
  have Bx0 := Bx.2.1
  have Bx1 := Bx.2.2.1
  have Bx2 := Bx.2.2.2.1
  have Bx3 := Bx.2.2.2.2
  have Byl := By.1
  have By0 := By.2.1
  have By1 := By.2.2.1
  have By2 := By.2.2.2.1
  have By3 := By.2.2.2.2
  go_wp2_with fail
  refine (hd_get2 _ _ _ (E.keep (by repeat (first | exact Below.refl _ _ | apply Below.drew | apply below_drewN | refine Below.alloc ?_ (by first | (simp; done) | (simp; omega)) _))) (X.keep (by repeat (first | exact Below.refl _ _ | apply Below.drew | apply below_drewN | refine Below.alloc ?_ (by first | (simp; done) | (simp; omega)) _)))).mono ?_
  rintro e w5 ⟨rfl, hb⟩
  have Bz := (Box4.new hb).1
  have hB : Below w4.heap.size w4 w5 := Below.trans (by repeat (first | exact Below.refl _ _ | apply Below.drew | apply below_drewN | refine Below.alloc ?_ (by first | (simp; done) | (simp; omega)) _)) (hb.mono (by first | (simp; done) | (simp; omega) | omega))
  clear hb
  clear Bxl Bx0 Bx1 Bx2 Bx3
  clear Byl By0 By1 By2 By3
  replace Bx := Bx.keep hB
  replace By := By.keep hB
  replace E := E.keep hB
  replace X := X.keep hB
  replace Y := Y.keep hB
  replace hw := hw.trans (hB.mono hw.size)
  clear hB
  have Bxl := Bx.1
  have Bx0 := Bx.2.1
  have Bx1 := Bx.2.2.1
  have Bx2 := Bx.2.2.2.1
  have Bx3 := Bx.2.2.2.2
  have Byl := By.1
  have By0 := By.2.1
  have By1 := By.2.2.1
  have By2 := By.2.2.2.1
  have By3 := By.2.2.2.2
  have Bzl := Bz.1
  have Bz0 := Bz.2.1
  have Bz1 := Bz.2.2.1
  have Bz2 := Bz.2.2.2.1
  have Bz3 := Bz.2.2.2.2
  go_wp2_with fail
  refine (hd_make _ (E.keep (by repeat (first | exact Below.refl _ _ | apply Below.drew | apply below_drewN | refine Below.alloc ?_ (by first | (simp; done) | (simp; omega)) _)))).mono ?_
  rintro e w6 ⟨rfl, hb⟩
  have hB : Below w5.heap.size w5 w6 := Below.trans (by repeat (first | exact Below.refl _ _ | apply Below.drew | apply below_drewN | refine Below.alloc ?_ (by first | (simp; done) | (simp; omega)) _)) (hb.mono (by first | (simp; done) | (simp; omega) | omega))
  clear hb
  clear Bxl Bx0 Bx1 Bx2 Bx3
  clear Byl By0 By1 By2 By3
  clear Bzl Bz0 Bz1 Bz2 Bz3
  replace Bx := Bx.keep hB
  replace By := By.keep hB
  replace Bz := Bz.keep hB
  replace E := E.keep hB
  replace X := X.keep hB
  replace Y := Y.keep hB
  replace hw := hw.trans (hB.mono hw.size)
  clear hB
  have Bxl := Bx.1
  have Bx0 := Bx.2.1
  have Bx1 := Bx.2.2.1
  have Bx2 := Bx.2.2.2.1
  have Bx3 := Bx.2.2.2.2
  have Byl := By.1
  have By0 := By.2.1
  have By1 := By.2.2.1
  have By2 := By.2.2.2.1
  have By3 := By.2.2.2.2
  have Bzl := Bz.1
  have Bz0 := Bz.2.1
  have Bz1 := Bz.2.2.1
  have Bz2 := Bz.2.2.2.1
  have Bz3 := Bz.2.2.2.2
  have hc0 : w6.cell? ⟨xb, xf, none⟩ = some (.int .u64 13) := by
    obtain ⟨b2, off2, e, _, hc⟩ := X (by decide)
    cases e
    exact hc 0 (by decide)
  have hxl : xb < w6.heap.size := by
    obtain ⟨b2, off2, e, hl, _⟩ := X (by decide)
    cases e
    exact hl
  go_wp2_with fail
  refine (hd_check _ _ _ (Y.keep (by repeat (first | exact Below.refl _ _ | apply Below.drew | apply below_drewN | refine Below.alloc ?_ (by first | (simp; done) | (simp; omega)) _)))).mono ?_
  rintro e w7 ⟨rfl, hb⟩
  have Bm := (Box4.new hb).1
  have hB : Below w6.heap.size w6 w7 := Below.trans (by repeat (first | exact Below.refl _ _ | apply Below.drew | apply below_drewN | refine Below.alloc ?_ (by first | (simp; done) | (simp; omega)) _)) (hb.mono (by first | (simp; done) | (simp; omega) | omega))
  clear hb
  clear Bxl Bx0 Bx1 Bx2 Bx3
  clear Byl By0 By1 By2 By3
  clear Bzl Bz0 Bz1 Bz2 Bz3
  replace Bx := Bx.keep hB
  replace By := By.keep hB
  replace Bz := Bz.keep hB
  replace E := E.keep hB
  replace X := X.keep hB
  replace Y := Y.keep hB
  replace hw := hw.trans (hB.mono hw.size)
  clear hB
  have Bxl := Bx.1
  have Bx0 := Bx.2.1
  have Bx1 := Bx.2.2.1
  have Bx2 := Bx.2.2.2.1
  have Bx3 := Bx.2.2.2.2
  have Byl := By.1
  have By0 := By.2.1
  have By1 := By.2.2.1
  have By2 := By.2.2.2.1
  have By3 := By.2.2.2.2
  have Bzl := Bz.1
  have Bz0 := Bz.2.1
  have Bz1 := Bz.2.2.1
  have Bz2 := Bz.2.2.2.1
  have Bz3 := Bz.2.2.2.2
  have Bml := Bm.1
  have Bm0 := Bm.2.1
  have Bm1 := Bm.2.2.1
  have Bm2 := Bm.2.2.2.1
  have Bm3 := Bm.2.2.2.2
  clear hc0 hxl
  go_wp2_with fail
  refine (hd_check0 _).mono ?_
  rintro e w8 ⟨rfl, hb⟩
  have hB : Below w7.heap.size w7 w8 := Below.trans (by repeat (first | exact Below.refl _ _ | apply Below.drew | apply below_drewN | refine Below.alloc ?_ (by first | (simp; done) | (simp; omega)) _)) (hb.mono (by first | (simp; done) | (simp; omega) | omega))
  clear hb
  clear Bxl Bx0 Bx1 Bx2 Bx3
  clear Byl By0 By1 By2 By3
  clear Bzl Bz0 Bz1 Bz2 Bz3
  clear Bml Bm0 Bm1 Bm2 Bm3
  replace Bx := Bx.keep hB
  replace By := By.keep hB
  replace Bz := Bz.keep hB
  replace Bm := Bm.keep hB
  replace E := E.keep hB
  replace X := X.keep hB
  replace Y := Y.keep hB
  replace hw := hw.trans (hB.mono hw.size)
  clear hB
  have Bxl := Bx.1
  have Bx0 := Bx.2.1
  have Bx1 := Bx.2.2.1
  have Bx2 := Bx.2.2.2.1
  have Bx3 := Bx.2.2.2.2
  have Byl := By.1
  have By0 := By.2.1
  have By1 := By.2.2.1
  have By2 := By.2.2.2.1
  have By3 := By.2.2.2.2
  have Bzl := Bz.1
  have Bz0 := Bz.2.1
  have Bz1 := Bz.2.2.1
  have Bz2 := Bz.2.2.2.1
  have Bz3 := Bz.2.2.2.2
  have Bml := Bm.1
  have Bm0 := Bm.2.1
  have Bm1 := Bm.2.2.1
  have Bm2 := Bm.2.2.2.1
  have Bm3 := Bm.2.2.2.2
  go_wp2_with fail
  refine (hd_list _ _ _ (X.keep (by repeat (first | exact Below.refl _ _ | apply Below.drew | apply below_drewN | refine Below.alloc ?_ (by first | (simp; done) | (simp; omega)) _)))).mono ?_
  rintro e w9 ⟨lo, lc, rfl, L, _, _, _, hb⟩
  have hB : Below w8.heap.size w8 w9 := Below.trans (by repeat (first | exact Below.refl _ _ | apply Below.drew | apply below_drewN | refine Below.alloc ?_ (by first | (simp; done) | (simp; omega)) _)) (hb.mono (by first | (simp; done) | (simp; omega) | omega))
  clear hb
  clear Bxl Bx0 Bx1 Bx2 Bx3
  clear Byl By0 By1 By2 By3
  clear Bzl Bz0 Bz1 Bz2 Bz3
  clear Bml Bm0 Bm1 Bm2 Bm3
  replace Bx := Bx.keep hB
  replace By := By.keep hB
  replace Bz := Bz.keep hB
  replace Bm := Bm.keep hB
  replace E := E.keep hB
  replace X := X.keep hB
  replace Y := Y.keep hB
  replace hw := hw.trans (hB.mono hw.size)
  clear hB
  have Bxl := Bx.1
  have Bx0 := Bx.2.1
  have Bx1 := Bx.2.2.1
  have Bx2 := Bx.2.2.2.1
  have Bx3 := Bx.2.2.2.2
  have Byl := By.1
  have By0 := By.2.1
  have By1 := By.2.2.1
  have By2 := By.2.2.2.1
  have By3 := By.2.2.2.2
  have Bzl := Bz.1
  have Bz0 := Bz.2.1
  have Bz1 := Bz.2.2.1
  have Bz2 := Bz.2.2.2.1
  have Bz3 := Bz.2.2.2.2
  have Bml := Bm.1
  have Bm0 := Bm.2.1
  have Bm1 := Bm.2.2.1
  have Bm2 := Bm.2.2.2.1
  have Bm3 := Bm.2.2.2.2
  go_wp2_with fail
  refine (hd_rows _ _ _ _ _ (L.keep (by repeat (first | exact Below.refl _ _ | apply Below.drew | apply below_drewN | refine Below.alloc ?_ (by first | (simp; done) | (simp; omega)) _))) (wd2 _ _)).mono ?_
  rintro e w10 ⟨rfl, hb⟩
  have hB : Below w9.heap.size w9 w10 := Below.trans (by repeat (first | exact Below.refl _ _ | apply Below.drew | apply below_drewN | refine Below.alloc ?_ (by first | (simp; done) | (simp; omega)) _)) (hb.mono (by first | (simp; done) | (simp; omega) | omega))
  clear hb
  clear Bxl Bx0 Bx1 Bx2 Bx3
  clear Byl By0 By1 By2 By3
  clear Bzl Bz0 Bz1 Bz2 Bz3
  clear Bml Bm0 Bm1 Bm2 Bm3
  replace Bx := Bx.keep hB
  replace By := By.keep hB
  replace Bz := Bz.keep hB
  replace Bm := Bm.keep hB
  replace E := E.keep hB
  replace X := X.keep hB
  replace Y := Y.keep hB
  replace L := L.keep hB
  replace hw := hw.trans (hB.mono hw.size)
  clear hB
  have Bxl := Bx.1
  have Bx0 := Bx.2.1
  have Bx1 := Bx.2.2.1
  have Bx2 := Bx.2.2.2.1
  have Bx3 := Bx.2.2.2.2
  have Byl := By.1
  have By0 := By.2.1
  have By1 := By.2.2.1
  have By2 := By.2.2.2.1
  have By3 := By.2.2.2.2
  have Bzl := Bz.1
  have Bz0 := Bz.2.1
  have Bz1 := Bz.2.2.1
  have Bz2 := Bz.2.2.2.1
  have Bz3 := Bz.2.2.2.2
  have Bml := Bm.1
  have Bm0 := Bm.2.1
  have Bm1 := Bm.2.2.1
  have Bm2 := Bm.2.2.2.1
  have Bm3 := Bm.2.2.2.2
  go_wp2
  go_ret
  exact ⟨rfl, hw⟩
end Go.Proofs.YtjilehaokignoaaDoor
