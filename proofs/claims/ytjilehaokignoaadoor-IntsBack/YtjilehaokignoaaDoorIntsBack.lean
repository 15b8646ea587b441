/-
  For every list of numbers and every width: what Of and Make make of at most 300 numbers is the list again, no row is less wide than that of Of, and what Make refuses is too narrow or wider than 64 (P3.3). No condition but that errors.errorType is as its text lays it (the card ties it).
-/
import Derived.Test.YtjilehaokignoaaDoorFx
import Derived.Test.YtjilehaokignoaaDoorOpenI
import Derived.Test.YtjilehaokignoaaDoorCards
import Derived.Test.YtjilehaokignoaaDoorTie
import Derived.ChangeOld
import Derived.LaidMore
import Derived.SevenTiedAt
namespace Go.Proofs.YtjilehaokignoaaDoor.intsBack
open Go.ChangeShapes Go.WideShapes Go.ChangeAt Go.RowKit Num Bit
set_option linter.unusedVariables false
set_option maxRecDepth 100000


set_option maxHeartbeats 40000000 in
theorem walk (w : World) (E : ET w) (al : Option Addr) (l : List Nat) (cl : Nat) (Xl : Wd w al l) (Fl : Fit l) (Cl : l.length ≤ cl) (width : Int) (hwidth : -9223372036854775808 ≤ width ∧ width ≤ 9223372036854775807) :
    Calls Tryd.prog 5 #[.slice al l.length cl, .int .i64 width] w fun e w' => e = .returned (.bool true) ∧ Below w.heap.size w w' := by
  obtain ⟨hi1, hi2⟩ := hwidth
  by_cases s1 : (300 : Int) < (l.length : Int)
  case pos =>
    go_enter Tryd.func5, Tryd.ntmps5
    have hw : Below w.heap.size w w := Below.refl _ _
    go_wp2_with fail
    refine (heads_c _ (E.keep (by repeat (first | exact Below.refl _ _ | apply Below.drew | apply below_drewN | refine Below.alloc ?_ (by first | (simp; done) | (simp; omega)) _)))).mono ?_
    rintro e w1 ⟨rfl, hb⟩
    have hB : Below w.heap.size w w1 := Below.trans (by repeat (first | exact Below.refl _ _ | apply Below.drew | apply below_drewN | refine Below.alloc ?_ (by first | (simp; done) | (simp; omega)) _)) (hb.mono (by first | (simp; done) | (simp; omega) | omega))
    clear hb
    replace E := E.keep hB
    replace Xl := Xl.keep hB
    replace hw := hw.trans (hB.mono hw.size)
    clear hB
    go_wp2
    go_ret
    exact ⟨rfl, hw⟩
  have hl : l.length ≤ 300 := by omega
  have HE : Hid (imE (wm l l.length) l = 0) := wm_good l Fl hl
  have hlm : l.length ≤ 1048576 := by omega
  have s1' : decide ((300 : Int) < (l.length : Int)) = false := by simpa using s1
  by_cases hE : imE width l = 0
  case neg =>
    by_cases c1 : width < ((wm l l.length : Nat) : Int)
    case pos =>
      go_enter Tryd.func5, Tryd.ntmps5
      have hw : Below w.heap.size w w := Below.refl _ _
      go_wp2_with fail
      refine (of_is _ _ _ _ (E.keep (by repeat (first | exact Below.refl _ _ | apply Below.drew | apply below_drewN | refine Below.alloc ?_ (by first | (simp; done) | (simp; omega)) _))) (Xl.keep (by repeat (first | exact Below.refl _ _ | apply Below.drew | apply below_drewN | refine Below.alloc ?_ (by first | (simp; done) | (simp; omega)) _))) Fl hl).mono ?_
      rintro e w1 ⟨xo, xc, rfl, X, _, _, _, hb⟩
      have hB : Below w.heap.size w w1 := Below.trans (by repeat (first | exact Below.refl _ _ | apply Below.drew | apply below_drewN | refine Below.alloc ?_ (by first | (simp; done) | (simp; omega)) _)) (hb.mono (by first | (simp; done) | (simp; omega) | omega))
      clear hb
      replace E := E.keep hB
      replace Xl := Xl.keep hB
      replace hw := hw.trans (hB.mono hw.size)
      clear hB
      go_wp2_with fail
      refine (list_is _ _ _ _ _ (X.keep (by repeat (first | exact Below.refl _ _ | apply Below.drew | apply below_drewN | refine Below.alloc ?_ (by first | (simp; done) | (simp; omega)) _))) HE.out).mono ?_
      rintro e w2 ⟨lo, lc, rfl, L, _, _, _, hb⟩
      have Bx := (Box4.new hb).1
      have hB : Below w1.heap.size w1 w2 := Below.trans (by repeat (first | exact Below.refl _ _ | apply Below.drew | apply below_drewN | refine Below.alloc ?_ (by first | (simp; done) | (simp; omega)) _)) (hb.mono (by first | (simp; done) | (simp; omega) | omega))
      clear hb
      replace E := E.keep hB
      replace Xl := Xl.keep hB
      replace X := X.keep hB
      replace hw := hw.trans (hB.mono hw.size)
      clear hB
      have Bxl := Bx.1
      have Bx0 := Bx.2.1
      have Bx1 := Bx.2.2.1
      have Bx2 := Bx.2.2.2.1
      have Bx3 := Bx.2.2.2.2
      go_wp2_with fail
      refine (rows_eq _ _ _ _ _ _ (L.keep (by repeat (first | exact Below.refl _ _ | apply Below.drew | apply below_drewN | refine Below.alloc ?_ (by first | (simp; done) | (simp; omega)) _))) (Xl.keep (by repeat (first | exact Below.refl _ _ | apply Below.drew | apply below_drewN | refine Below.alloc ?_ (by first | (simp; done) | (simp; omega)) _))) hlm).mono ?_
      rintro e w3 ⟨rfl, hb⟩
      have hB : Below w2.heap.size w2 w3 := Below.trans (by repeat (first | exact Below.refl _ _ | apply Below.drew | apply below_drewN | refine Below.alloc ?_ (by first | (simp; done) | (simp; omega)) _)) (hb.mono (by first | (simp; done) | (simp; omega) | omega))
      clear hb
      clear Bxl Bx0 Bx1 Bx2 Bx3
      replace Bx := Bx.keep hB
      replace E := E.keep hB
      replace Xl := Xl.keep hB
      replace X := X.keep hB
      replace L := L.keep hB
      replace hw := hw.trans (hB.mono hw.size)
      clear hB
      have Bxl := Bx.1
      have Bx0 := Bx.2.1
      have Bx1 := Bx.2.2.1
      have Bx2 := Bx.2.2.2.1
      have Bx3 := Bx.2.2.2.2
      go_wp2_with fail
      refine (check_is _ _ _ _ _ (X.keep (by repeat (first | exact Below.refl _ _ | apply Below.drew | apply below_drewN | refine Below.alloc ?_ (by first | (simp; done) | (simp; omega)) _))) HE.out).mono ?_
      rintro e w4 ⟨rfl, hb⟩
      have hB : Below w3.heap.size w3 w4 := Below.trans (by repeat (first | exact Below.refl _ _ | apply Below.drew | apply below_drewN | refine Below.alloc ?_ (by first | (simp; done) | (simp; omega)) _)) (hb.mono (by first | (simp; done) | (simp; omega) | omega))
      clear hb
      clear Bxl Bx0 Bx1 Bx2 Bx3
      replace Bx := Bx.keep hB
      replace E := E.keep hB
      replace Xl := Xl.keep hB
      replace X := X.keep hB
      replace L := L.keep hB
      replace hw := hw.trans (hB.mono hw.size)
      clear hB
      have Bxl := Bx.1
      have Bx0 := Bx.2.1
      have Bx1 := Bx.2.2.1
      have Bx2 := Bx.2.2.2.1
      have Bx3 := Bx.2.2.2.2
      go_wp2_with fail
      refine (make_bad _ _ _ _ _ (E.keep (by repeat (first | exact Below.refl _ _ | apply Below.drew | apply below_drewN | refine Below.alloc ?_ (by first | (simp; done) | (simp; omega)) _))) (Xl.keep (by repeat (first | exact Below.refl _ _ | apply Below.drew | apply below_drewN | refine Below.alloc ?_ (by first | (simp; done) | (simp; omega)) _))) Fl hE (by omega)).mono ?_
      rintro e w5 ⟨rfl, hb⟩
      have hB : Below w4.heap.size w4 w5 := Below.trans (by repeat (first | exact Below.refl _ _ | apply Below.drew | apply below_drewN | refine Below.alloc ?_ (by first | (simp; done) | (simp; omega)) _)) (hb.mono (by first | (simp; done) | (simp; omega) | omega))
      clear hb
      clear Bxl Bx0 Bx1 Bx2 Bx3
      replace Bx := Bx.keep hB
      replace E := E.keep hB
      replace Xl := Xl.keep hB
      replace X := X.keep hB
      replace L := L.keep hB
      replace hw := hw.trans (hB.mono hw.size)
      clear hB
      have Bxl := Bx.1
      have Bx0 := Bx.2.1
      have Bx1 := Bx.2.2.1
      have Bx2 := Bx.2.2.2.1
      have Bx3 := Bx.2.2.2.2
      go_wp2_with fail
      refine (heads_c _ (E.keep (by repeat (first | exact Below.refl _ _ | apply Below.drew | apply below_drewN | refine Below.alloc ?_ (by first | (simp; done) | (simp; omega)) _)))).mono ?_
      rintro e w6 ⟨rfl, hb⟩
      have By := (Box4.new hb).1
      have hB : Below w5.heap.size w5 w6 := Below.trans (by repeat (first | exact Below.refl _ _ | apply Below.drew | apply below_drewN | refine Below.alloc ?_ (by first | (simp; done) | (simp; omega)) _)) (hb.mono (by first | (simp; done) | (simp; omega) | omega))
      clear hb
      clear Bxl Bx0 Bx1 Bx2 Bx3
      replace Bx := Bx.keep hB
      replace E := E.keep hB
      replace Xl := Xl.keep hB
      replace X := X.keep hB
      replace L := L.keep hB
      replace hw := hw.trans (hB.mono hw.size)
      clear hB
      have Bxl := Bx.1
      have Bx0 := Bx.2.1
      have Bx1 := Bx.2.2.1
      have Bx2 := Bx.2.2.2.1
      have Bx3 := Bx.2.2.2.2
      have Byl := By.1
      have By0 := By.2.1
      have By1 := By.2.2.1
      have By2 := By.2.2.2.1
      have By3 := By.2.2.2.2
      go_wp2
      go_ret
      exact ⟨rfl, hw⟩
    have c2 : 64 < width := by
      refine Int.lt_of_not_ge fun h => hE (imE_of _ l ?_ h ?_ ?_)
      · have := wm_pos l l.length; omega
      · have := Int.mul_le_mul (show (l.length : Int) ≤ 300 by omega) h (by have := wm_pos l l.length; omega) (by omega)
        omega
      · intro j hj
        have := (imE_zero _ l HE.out).2.2.2 j hj
        omega
    have c1' : decide (width < ((wm l l.length : Nat) : Int)) = false := by simpa using c1
    go_enter Tryd.func5, Tryd.ntmps5
    have hw : Below w.heap.size w w := Below.refl _ _
    go_wp2_with fail
    refine (of_is _ _ _ _ (E.keep (by repeat (first | exact Below.refl _ _ | apply Below.drew | apply below_drewN | refine Below.alloc ?_ (by first | (simp; done) | (simp; omega)) _))) (Xl.keep (by repeat (first | exact Below.refl _ _ | apply Below.drew | apply below_drewN | refine Below.alloc ?_ (by first | (simp; done) | (simp; omega)) _))) Fl hl).mono ?_
    rintro e w1 ⟨xo, xc, rfl, X, _, _, _, hb⟩
    have hB : Below w.heap.size w w1 := Below.trans (by repeat (first | exact Below.refl _ _ | apply Below.drew | apply below_drewN | refine Below.alloc ?_ (by first | (simp; done) | (simp; omega)) _)) (hb.mono (by first | (simp; done) | (simp; omega) | omega))
    clear hb
    replace E := E.keep hB
    replace Xl := Xl.keep hB
    replace hw := hw.trans (hB.mono hw.size)
    clear hB
    go_wp2_with fail
    refine (list_is _ _ _ _ _ (X.keep (by repeat (first | exact Below.refl _ _ | apply Below.drew | apply below_drewN | refine Below.alloc ?_ (by first | (simp; done) | (simp; omega)) _))) HE.out).mono ?_
    rintro e w2 ⟨lo, lc, rfl, L, _, _, _, hb⟩
    have Bx := (Box4.new hb).1
    have hB : Below w1.heap.size w1 w2 := Below.trans (by repeat (first | exact Below.refl _ _ | apply Below.drew | apply below_drewN | refine Below.alloc ?_ (by first | (simp; done) | (simp; omega)) _)) (hb.mono (by first | (simp; done) | (simp; omega) | omega))
    clear hb
    replace E := E.keep hB
    replace Xl := Xl.keep hB
    replace X := X.keep hB
    replace hw := hw.trans (hB.mono hw.size)
    clear hB
    have Bxl := Bx.1
    have Bx0 := Bx.2.1
    have Bx1 := Bx.2.2.1
    have Bx2 := Bx.2.2.2.1
    have Bx3 := Bx.2.2.2.2
    go_wp2_with fail
    refine (rows_eq _ _ _ _ _ _ (L.keep (by repeat (first | exact Below.refl _ _ | apply Below.drew | apply below_drewN | refine Below.alloc ?_ (by first | (simp; done) | (simp; omega)) _))) (Xl.keep (by repeat (first | exact Below.refl _ _ | apply Below.drew | apply below_drewN | refine Below.alloc ?_ (by first | (simp; done) | (simp; omega)) _))) hlm).mono ?_
    rintro e w3 ⟨rfl, hb⟩
    have hB : Below w2.heap.size w2 w3 := Below.trans (by repeat (first | exact Below.refl _ _ | apply Below.drew | apply below_drewN | refine Below.alloc ?_ (by first | (simp; done) | (simp; omega)) _)) (hb.mono (by first | (simp; done) | (simp; omega) | omega))
    clear hb
    clear Bxl Bx0 Bx1 Bx2 Bx3
    replace Bx := Bx.keep hB
    replace E := E.keep hB
    replace Xl := Xl.keep hB
    replace X := X.keep hB
    replace L := L.keep hB
    replace hw := hw.trans (hB.mono hw.size)
    clear hB
    have Bxl := Bx.1
    have Bx0 := Bx.2.1
    have Bx1 := Bx.2.2.1
    have Bx2 := Bx.2.2.2.1
    have Bx3 := Bx.2.2.2.2
    go_wp2_with fail
    refine (check_is _ _ _ _ _ (X.keep (by repeat (first | exact Below.refl _ _ | apply Below.drew | apply below_drewN | refine Below.alloc ?_ (by first | (simp; done) | (simp; omega)) _))) HE.out).mono ?_
    rintro e w4 ⟨rfl, hb⟩
    have hB : Below w3.heap.size w3 w4 := Below.trans (by repeat (first | exact Below.refl _ _ | apply Below.drew | apply below_drewN | refine Below.alloc ?_ (by first | (simp; done) | (simp; omega)) _)) (hb.mono (by first | (simp; done) | (simp; omega) | omega))
    clear hb
    clear Bxl Bx0 Bx1 Bx2 Bx3
    replace Bx := Bx.keep hB
    replace E := E.keep hB
    replace Xl := Xl.keep hB
    replace X := X.keep hB
    replace L := L.keep hB
    replace hw := hw.trans (hB.mono hw.size)
    clear hB
    have Bxl := Bx.1
    have Bx0 := Bx.2.1
    have Bx1 := Bx.2.2.1
    have Bx2 := Bx.2.2.2.1
    have Bx3 := Bx.2.2.2.2
    go_wp2_with fail
    refine (make_bad _ _ _ _ _ (E.keep (by repeat (first | exact Below.refl _ _ | apply Below.drew | apply below_drewN | refine Below.alloc ?_ (by first | (simp; done) | (simp; omega)) _))) (Xl.keep (by repeat (first | exact Below.refl _ _ | apply Below.drew | apply below_drewN | refine Below.alloc ?_ (by first | (simp; done) | (simp; omega)) _))) Fl hE (by omega)).mono ?_
    rintro e w5 ⟨rfl, hb⟩
    have hB : Below w4.heap.size w4 w5 := Below.trans (by repeat (first | exact Below.refl _ _ | apply Below.drew | apply below_drewN | refine Below.alloc ?_ (by first | (simp; done) | (simp; omega)) _)) (hb.mono (by first | (simp; done) | (simp; omega) | omega))
    clear hb
    clear Bxl Bx0 Bx1 Bx2 Bx3
    replace Bx := Bx.keep hB
    replace E := E.keep hB
    replace Xl := Xl.keep hB
    replace X := X.keep hB
    replace L := L.keep hB
    replace hw := hw.trans (hB.mono hw.size)
    clear hB
    have Bxl := Bx.1
    have Bx0 := Bx.2.1
    have Bx1 := Bx.2.2.1
    have Bx2 := Bx.2.2.2.1
    have Bx3 := Bx.2.2.2.2
    go_wp2_with fail
    refine (heads_c _ (E.keep (by repeat (first | exact Below.refl _ _ | apply Below.drew | apply below_drewN | refine Below.alloc ?_ (by first | (simp; done) | (simp; omega)) _)))).mono ?_
    rintro e w6 ⟨rfl, hb⟩
    have By := (Box4.new hb).1
    have hB : Below w5.heap.size w5 w6 := Below.trans (by repeat (first | exact Below.refl _ _ | apply Below.drew | apply below_drewN | refine Below.alloc ?_ (by first | (simp; done) | (simp; omega)) _)) (hb.mono (by first | (simp; done) | (simp; omega) | omega))
    clear hb
    clear Bxl Bx0 Bx1 Bx2 Bx3
    replace Bx := Bx.keep hB
    replace E := E.keep hB
    replace Xl := Xl.keep hB
    replace X := X.keep hB
    replace L := L.keep hB
    replace hw := hw.trans (hB.mono hw.size)
    clear hB
    have Bxl := Bx.1
    have Bx0 := Bx.2.1
    have Bx1 := Bx.2.2.1
    have Bx2 := Bx.2.2.2.1
    have Bx3 := Bx.2.2.2.2
    have Byl := By.1
    have By0 := By.2.1
    have By1 := By.2.2.1
    have By2 := By.2.2.2.1
    have By3 := By.2.2.2.2
    go_wp2
    go_ret
    exact ⟨rfl, hw⟩
  obtain ⟨a1, a2, a3, a4⟩ := imE_zero width l hE
  obtain ⟨n, rfl⟩ := Int.eq_ofNat_of_zero_le (show 0 ≤ width by omega)
  have hge : (l.length : Int) * ((wm l l.length : Nat) : Int) ≤ (l.length : Int) * (n : Int) := Int.mul_le_mul_of_nonneg_left (wm_min n l hE) (by omega)
  have HN : Hid (imE (n : Int) l = 0) := hE
  clear a3 a4 hE
  go_enter Tryd.func5, Tryd.ntmps5
  have hw : Below w.heap.size w w := Below.refl _ _
  go_wp2_with fail
  refine (of_is _ _ _ _ (E.keep (by repeat (first | exact Below.refl _ _ | apply Below.drew | apply below_drewN | refine Below.alloc ?_ (by first | (simp; done) | (simp; omega)) _))) (Xl.keep (by repeat (first | exact Below.refl _ _ | apply Below.drew | apply below_drewN | refine Below.alloc ?_ (by first | (simp; done) | (simp; omega)) _))) Fl hl).mono ?_
  rintro e w1 ⟨xo, xc, rfl, X, _, _, _, hb⟩
  have hB : Below w.heap.size w w1 := Below.trans (by repeat (first | exact Below.refl _ _ | apply Below.drew | apply below_drewN | refine Below.alloc ?_ (by first | (simp; done) | (simp; omega)) _)) (hb.mono (by first | (simp; done) | (simp; omega) | omega))
  clear hb
  replace E := E.keep hB
  replace Xl := Xl.keep hB
  replace hw := hw.trans (hB.mono hw.size)
  clear hB
  go_wp2_with fail
  refine (list_is _ _ _ _ _ (X.keep (by repeat (first | exact Below.refl _ _ | apply Below.drew | apply below_drewN | refine Below.alloc ?_ (by first | (simp; done) | (simp; omega)) _))) HE.out).mono ?_
  rintro e w2 ⟨lo, lc, rfl, L, _, _, _, hb⟩
  have Bx := (Box4.new hb).1
  have hB : Below w1.heap.size w1 w2 := Below.trans (by repeat (first | exact Below.refl _ _ | apply Below.drew | apply below_drewN | refine Below.alloc ?_ (by first | (simp; done) | (simp; omega)) _)) (hb.mono (by first | (simp; done) | (simp; omega) | omega))
  clear hb
  replace E := E.keep hB
  replace Xl := Xl.keep hB
  replace X := X.keep hB
  replace hw := hw.trans (hB.mono hw.size)
  clear hB
  have Bxl := Bx.1
  have Bx0 := Bx.2.1
  have Bx1 := Bx.2.2.1
  have Bx2 := Bx.2.2.2.1
  have Bx3 := Bx.2.2.2.2
  go_wp2_with fail
  refine (rows_eq _ _ _ _ _ _ (L.keep (by repeat (first | exact Below.refl _ _ | apply Below.drew | apply below_drewN | refine Below.alloc ?_ (by first | (simp; done) | (simp; omega)) _))) (Xl.keep (by repeat (first | exact Below.refl _ _ | apply Below.drew | apply below_drewN | refine Below.alloc ?_ (by first | (simp; done) | (simp; omega)) _))) hlm).mono ?_
  rintro e w3 ⟨rfl, hb⟩
  have hB : Below w2.heap.size w2 w3 := Below.trans (by repeat (first | exact Below.refl _ _ | apply Below.drew | apply below_drewN | refine Below.alloc ?_ (by first | (simp; done) | (simp; omega)) _)) (hb.mono (by first | (simp; done) | (simp; omega) | omega))
  clear hb
  clear Bxl Bx0 Bx1 Bx2 Bx3
  replace Bx := Bx.keep hB
  replace E := E.keep hB
  replace Xl := Xl.keep hB
  replace X := X.keep hB
  replace L := L.keep hB
  replace hw := hw.trans (hB.mono hw.size)
  clear hB
  have Bxl := Bx.1
  have Bx0 := Bx.2.1
  have Bx1 := Bx.2.2.1
  have Bx2 := Bx.2.2.2.1
  have Bx3 := Bx.2.2.2.2
  go_wp2_with fail
  refine (check_is _ _ _ _ _ (X.keep (by repeat (first | exact Below.refl _ _ | apply Below.drew | apply below_drewN | refine Below.alloc ?_ (by first | (simp; done) | (simp; omega)) _))) HE.out).mono ?_
  rintro e w4 ⟨rfl, hb⟩
  have hB : Below w3.heap.size w3 w4 := Below.trans (by repeat (first | exact Below.refl _ _ | apply Below.drew | apply below_drewN | refine Below.alloc ?_ (by first | (simp; done) | (simp; omega)) _)) (hb.mono (by first | (simp; done) | (simp; omega) | omega))
  clear hb
  clear Bxl Bx0 Bx1 Bx2 Bx3
  replace Bx := Bx.keep hB
  replace E := E.keep hB
  replace Xl := Xl.keep hB
  replace X := X.keep hB
  replace L := L.keep hB
  replace hw := hw.trans (hB.mono hw.size)
  clear hB
  have Bxl := Bx.1
  have Bx0 := Bx.2.1
  have Bx1 := Bx.2.2.1
  have Bx2 := Bx.2.2.2.1
  have Bx3 := Bx.2.2.2.2
  go_wp2_with fail
  refine (make_is _ _ _ _ _ (E.keep (by repeat (first | exact Below.refl _ _ | apply Below.drew | apply below_drewN | refine Below.alloc ?_ (by first | (simp; done) | (simp; omega)) _))) (Xl.keep (by repeat (first | exact Below.refl _ _ | apply Below.drew | apply below_drewN | refine Below.alloc ?_ (by first | (simp; done) | (simp; omega)) _))) Fl hlm HN.out).mono ?_
  rintro e w5 ⟨yo, yc, rfl, Y, _, _, _, hb⟩
  have hB : Below w4.heap.size w4 w5 := Below.trans (by repeat (first | exact Below.refl _ _ | apply Below.drew | apply below_drewN | refine Below.alloc ?_ (by first | (simp; done) | (simp; omega)) _)) (hb.mono (by first | (simp; done) | (simp; omega) | omega))
  clear hb
  clear Bxl Bx0 Bx1 Bx2 Bx3
  replace Bx := Bx.keep hB
  replace E := E.keep hB
  replace Xl := Xl.keep hB
  replace X := X.keep hB
  replace L := L.keep hB
  replace hw := hw.trans (hB.mono hw.size)
  clear hB
  have Bxl := Bx.1
  have Bx0 := Bx.2.1
  have Bx1 := Bx.2.2.1
  have Bx2 := Bx.2.2.2.1
  have Bx3 := Bx.2.2.2.2
  go_wp2_with fail
  refine (list_is _ _ _ _ _ (Y.keep (by repeat (first | exact Below.refl _ _ | apply Below.drew | apply below_drewN | refine Below.alloc ?_ (by first | (simp; done) | (simp; omega)) _))) HN.out).mono ?_
  rintro e w6 ⟨mo, mc, rfl, L2, _, _, _, hb⟩
  have By := (Box4.new hb).1
  have hB : Below w5.heap.size w5 w6 := Below.trans (by repeat (first | exact Below.refl _ _ | apply Below.drew | apply below_drewN | refine Below.alloc ?_ (by first | (simp; done) | (simp; omega)) _)) (hb.mono (by first | (simp; done) | (simp; omega) | omega))
  clear hb
  clear Bxl Bx0 Bx1 Bx2 Bx3
  replace Bx := Bx.keep hB
  replace E := E.keep hB
  replace Xl := Xl.keep hB
  replace X := X.keep hB
  replace L := L.keep hB
  replace Y := Y.keep hB
  replace hw := hw.trans (hB.mono hw.size)
  clear hB
  have Bxl := Bx.1
  have Bx0 := Bx.2.1
  have Bx1 := Bx.2.2.1
  have Bx2 := Bx.2.2.2.1
  have Bx3 := Bx.2.2.2.2
  have Byl := By.1
  have By0 := By.2.1
  have By1 := By.2.2.1
  have By2 := By.2.2.2.1
  have By3 := By.2.2.2.2
  go_wp2_with fail
  refine (rows_eq _ _ _ _ _ _ (L2.keep (by repeat (first | exact Below.refl _ _ | apply Below.drew | apply below_drewN | refine Below.alloc ?_ (by first | (simp; done) | (simp; omega)) _))) (Xl.keep (by repeat (first | exact Below.refl _ _ | apply Below.drew | apply below_drewN | refine Below.alloc ?_ (by first | (simp; done) | (simp; omega)) _))) hlm).mono ?_
  rintro e w7 ⟨rfl, hb⟩
  have hB : Below w6.heap.size w6 w7 := Below.trans (by repeat (first | exact Below.refl _ _ | apply Below.drew | apply below_drewN | refine Below.alloc ?_ (by first | (simp; done) | (simp; omega)) _)) (hb.mono (by first | (simp; done) | (simp; omega) | omega))
  clear hb
  clear Bxl Bx0 Bx1 Bx2 Bx3
  clear Byl By0 By1 By2 By3
  replace Bx := Bx.keep hB
  replace By := By.keep hB
  replace E := E.keep hB
  replace Xl := Xl.keep hB
  replace X := X.keep hB
  replace L := L.keep hB
  replace Y := Y.keep hB
  replace L2 := L2.keep hB
  replace hw := hw.trans (hB.mono hw.size)
  clear hB
  have Bxl := Bx.1
  have Bx0 := Bx.2.1
  have Bx1 := Bx.2.2.1
  have Bx2 := Bx.2.2.2.1
  have Bx3 := Bx.2.2.2.2
  have Byl := By.1
  have By0 := By.2.1
  have By1 := By.2.2.1
  have By2 := By.2.2.2.1
  have By3 := By.2.2.2.2
  go_wp2_with fail
  refine (heads_c _ (E.keep (by repeat (first | exact Below.refl _ _ | apply Below.drew | apply below_drewN | refine Below.alloc ?_ (by first | (simp; done) | (simp; omega)) _)))).mono ?_
  rintro e w8 ⟨rfl, hb⟩
  have hB : Below w7.heap.size w7 w8 := Below.trans (by repeat (first | exact Below.refl _ _ | apply Below.drew | apply below_drewN | refine Below.alloc ?_ (by first | (simp; done) | (simp; omega)) _)) (hb.mono (by first | (simp; done) | (simp; omega) | omega))
  clear hb
  clear Bxl Bx0 Bx1 Bx2 Bx3
  clear Byl By0 By1 By2 By3
  replace Bx := Bx.keep hB
  replace By := By.keep hB
  replace E := E.keep hB
  replace Xl := Xl.keep hB
  replace X := X.keep hB
  replace L := L.keep hB
  replace Y := Y.keep hB
  replace L2 := L2.keep hB
  replace hw := hw.trans (hB.mono hw.size)
  clear hB
  have Bxl := Bx.1
  have Bx0 := Bx.2.1
  have Bx1 := Bx.2.2.1
  have Bx2 := Bx.2.2.2.1
  have Bx3 := Bx.2.2.2.2
  have Byl := By.1
  have By0 := By.2.1
  have By1 := By.2.2.1
  have By2 := By.2.2.2.1
  have By3 := By.2.2.2.2
  go_wp2
  go_ret
  exact ⟨rfl, hw⟩

theorem door_met (os : Os) (args : Array Value) : laidMetH Tryd.prog [("errors.errorType", Rows.laid_errors_errorType)] ((World.doorLaid Tryd.prog 400 os).forCall (fun _ _ => 0) ⟨#[], args, []⟩).memory :=
  laidMetH_of_parts (laidMet_nil _ _) (by kernel_rfl)

theorem lifted (os : Os) (started : os.Started) (H : Type) (enc : TypeId × Value → H) :
    ReturnsInHanded {} Tryd.checked os 5 .any (fun w args => (Rows.intsBackSpec.pre enc Tryd.prog Tryd.f5 [] false w args ∧ laidMetH Tryd.prog [("errors.errorType", Rows.laid_errors_errorType)] w) ∧ sizedMet enc Tryd.prog Tryd.f5 (OpenSpec.ofChange Rows.intsBackSpec) false w args)
      (Rows.intsBackSpec.post enc Tryd.prog Tryd.f5 false true false false) := by
  refine returnsInHanded_of_change_and (C := Tryd.checked) (X := fun w _ => laidMetH Tryd.prog [("errors.errorType", Rows.laid_errors_errorType)] w) (fun _ _ _ hh h => h.of_heap hh) own started (by kernel_rfl) Tryd.func5
    (ChangeSpec.witness_shaped (enc := enc) (C := Tryd.checked) (os := os) (X := fun w _ => laidMetH Tryd.prog [("errors.errorType", Rows.laid_errors_errorType)] w) false (World.doorLaid Tryd.prog 400 os) #[.slice none 0 0, .int .i64 0] 8 rfl (World.shaped_of_RefB (by kernel_rfl) (by kernel_rfl)) (by kernel_rfl) (by kernel_rfl) (by kernel_rfl) (door_met os _)) ?_
  intro W base args ds gs before hval0 hW _ _ hL _
  have hval : ∀ (j : Nat) t v, Tryd.f5.params[j]? = some t → args[j]? = some v → Value.okWide Tryd.prog W .any base t v := hval0
  have hW' := hW
  obtain ⟨p, q, hA0, hV, rfl, hfz, hnd⟩ := hW
  have hA : DataW.TrodAll enc Tryd.prog W 0 (fun _ => true) true Tryd.f5.params.toList args.toList ds p := hA0
  rw [Tryd.params5] at hA hval
  obtain ⟨v0, vs0, d0, ds0, p0, q0, hargs, rfl, rfl, h0, r0⟩ := trodAll_cons hA
  obtain ⟨v1, vs1, d1, ds1, p1, q1, rfl, rfl, rfl, h1, r1⟩ := trodAll_cons r0
  obtain ⟨rfl, rfl, rfl⟩ := trodAll_nil r1
  obtain rfl : args = #[v0, v1] := by cases args; simp_all
  obtain ⟨rfl, rfl⟩ := trodVars_none hV
  have k0 := h0
  have lt0 : ∀ x ∈ p0, x.block < W.heap.size := by obtain ⟨m, hm⟩ := k0; exact DataW.trod_lt m _ _ _ hm
  obtain ⟨al, l, cl, rfl, bl1, bl2, bl3⟩ := open_u64s (hval 0 22 v0 rfl rfl) h0
  obtain ⟨width, rfl, rfl, rfl, w1⟩ := open_int Tryd.underlying3 (hval 1 3 v1 rfl rfl) h1
  clear hA0 hval0
  refine (walk W (et_of_laid hL) al l cl bl1 bl2 bl3 width (i64_wf _ w1)).mono fun e W' ⟨he, bel⟩ => ?_
  subst he
  exact ⟨_, rfl, _, _, _, [], _, [], hW', trodAll_mk1 (shut_bool Tryd.underlying4 _), (trodAll_cons_mk (Below.trod laidOut (by kernel_rfl) (of_decide_eq_true (by kernel_rfl)) k0 bel lt0) (trodAll_cons_mk (shut_int Tryd.underlying3 w1) trodAll_mk0)), rfl, bel.frame _, fun h => by cases h⟩

theorem over : Rows.intsBackRow.holds Tryd.pinned (OpenSpec.ofChange Rows.intsBackSpec) :=
  OpenClaim.holds_of_wide 5 Tryd.f5 rfl rfl rfl rfl rfl rfl rfl ⟨rfl, rfl, rfl, rfl, rfl⟩ rfl rfl rfl rfl rfl (by kernel_rfl) Tryd.func5 (by kernel_rfl)
    (of_decide_eq_true (by kernel_rfl)) (by unfold Func.isWrapper; first | (rw [if_pos (by decide +kernel)]; kernel_rfl) | (rw [if_neg (by decide +kernel)]; exact ⟨rfl, rfl⟩))
    (fun os started H enc _ => lifted os started H enc)

theorem proved : Rows.IntsBackCardSaid :=
  Claim7.holds_tied_plain_at .later [] [.handle] true (true, "ddd179aae804cd5fe4d58a7f688ecba0d555650f9f20d33ce8723e8ead9036f9") true
    over (fun _ h => by cases h) (by kernel_rfl) (fun _ h => by cases h) intsBack_row_tie rfl ⟨rfl, rfl⟩ (by kernel_rfl) rfl
    (fun f fn hf hfn => by
      obtain rfl : f = 5 := Option.some.inj ((show Tryd.prog.funcNamed "haystack/haystacklaw03.IntsBack" = some 5 by kernel_rfl).symm.trans hf) |>.symm
      obtain rfl : fn = Tryd.f5 := (Option.some.inj (Tryd.func5.symm.trans hfn)).symm
      exact ⟨by kernel_rfl, fun j t ht => by
        rw [Tryd.params5] at ht
        have hm : t ∈ [22, 3] := by simpa using Array.mem_of_getElem? ht
        have hall : ([22, 3].all fun u => !Tryd.prog.wantsStandIn u) = true := by kernel_rfl
        exact (show Tryd.prog.wantsStandIn t = false by simpa using List.all_eq_true.1 hall t hm)⟩)
    (by kernel_rfl)
end Go.Proofs.YtjilehaokignoaaDoor.intsBack
namespace Go.Proofs.YtjilehaokignoaaDoor
theorem intsBack_holds : Rows.IntsBackCardSaid := intsBack.proved
#print axioms intsBack_holds
end Go.Proofs.YtjilehaokignoaaDoor
