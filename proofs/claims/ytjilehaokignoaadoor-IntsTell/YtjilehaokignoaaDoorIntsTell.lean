/-
  For every row of numbers, right or not, all numbers, every width and every list: Get, Put, Make, Of, Check and List answer what the document says (LE3.1, LE3.2). No condition but that errors.errorType is as its text lays it (the card ties it).
-/
import Derived.Test.YtjilehaokignoaaDoorFx
import Derived.Test.YtjilehaokignoaaDoorOpenI
import Derived.Test.YtjilehaokignoaaDoorCards
import Derived.Test.YtjilehaokignoaaDoorTie
import Derived.Test.YtjilehaokignoaaDoorRp
import Derived.Deep.RegionHeld3
import Derived.ChangeOld
import Derived.LaidMore
import Derived.SevenTiedAt
namespace Go.Proofs.YtjilehaokignoaaDoor.intsTell
open Go.ChangeShapes Go.WideShapes Go.ChangeAt Go.RowKit Num Bit
set_option linter.unusedVariables false
set_option maxRecDepth 100000

theorem ipL_len (N W M : Int) (xs : List Nat) (i : Int) (v : Nat) (h : xs.length ≤ 1048576) : (ipL N W M xs i v).length ≤ 1048576 := by
  unfold ipL
  split
  · rename_i hE
    obtain ⟨g0, _⟩ := ipE_zero N W M xs i v hE
    obtain ⟨hk, _, _⟩ := igE_zero N W M xs i g0
    obtain ⟨_, _, _, _, _, a6, a7, _⟩ := ichk_out N W M xs hk
    rw [length_rowOf]; omega
  · exact h
theorem imL_len (W : Int) (l : List Nat) : (imL W l).length ≤ 1048576 := by
  unfold imL
  split
  · rename_i hE
    obtain ⟨a1, a2, a3, _⟩ := imE_zero W l hE
    obtain ⟨m, rfl⟩ := Int.eq_ofNat_of_zero_le (show 0 ≤ W by omega)
    rw [← Int.natCast_mul] at a3
    rw [length_mkS, Int.toNat_natCast]; omega
  · simp
theorem ilL_len (N W M : Int) (xs : List Nat) : (ilL N W M xs).length ≤ 1048576 := by
  unfold ilL
  split
  · rename_i hk
    obtain ⟨_, _, a3, _, _, a6, a7, a8⟩ := ichk_out N W M xs hk
    simp; omega
  · simp

set_option maxHeartbeats 40000000 in
theorem walk (w : World) (E : ET w) (Nx Wx Mx : Int) (ax : Option Addr) (xx : List Nat) (cx : Nat) (hxN : -9223372036854775808 ≤ Nx ∧ Nx ≤ 9223372036854775807) (hxW : -9223372036854775808 ≤ Wx ∧ Wx ≤ 9223372036854775807) (hxM : -9223372036854775808 ≤ Mx ∧ Mx ≤ 9223372036854775807) (Xx : Wd w ax xx) (Fx : Fit xx) (Cx : xx.length ≤ cx) (i : Int) (hi : -9223372036854775808 ≤ i ∧ i ≤ 9223372036854775807) (v : Int) (hv : 0 ≤ v ∧ v < 18446744073709551616) (width : Int) (hwidth : -9223372036854775808 ≤ width ∧ width ≤ 9223372036854775807) (al : Option Addr) (l : List Nat) (cl : Nat) (Xl : Wd w al l) (Fl : Fit l) (Cl : l.length ≤ cl) :
    Calls Tryd.prog 4 #[.agg #[.int .i64 Nx, .int .i64 Wx, .int .i64 Mx, .slice ax xx.length cx], .int .i64 i, .int .u64 v, .int .i64 width, .slice al l.length cl] w fun e w' => e = .returned (.bool true) ∧ Below w.heap.size w w' := by
  obtain ⟨hi1, hi2⟩ := hi
  obtain ⟨u, rfl⟩ := Int.eq_ofNat_of_zero_le hv.1
  have hu : Hid (u < 18446744073709551616) := by unfold Hid; omega
  clear hv
  by_cases s : Nx ≤ 1000 ∧ Mx ≤ 9000 ∧ (xx.length : Int) ≤ 1000
  case neg =>
    go_enter Tryd.func4, Tryd.ntmps4
    have hw : Below w.heap.size w w := Below.refl _ _
    go_wp2_with fail
    refine (ismall_f _ _ _ _ _ _ _ s).mono ?_
    rintro e w1 ⟨rfl, hb⟩
    have B := (Box4.new hb).1
    have hB : Below w.heap.size w w1 := Below.trans (by repeat (first | exact Below.refl _ _ | apply Below.drew | apply below_drewN | refine Below.alloc ?_ (by first | (simp; done) | (simp; omega)) _)) (hb.mono (by first | (simp; done) | (simp; omega) | omega))
    clear hb
    replace E := E.keep hB
    replace Xx := Xx.keep hB
    replace Xl := Xl.keep hB
    replace hw := hw.trans (hB.mono hw.size)
    clear hB
    have Bl := B.1
    have B0 := B.2.1
    have B1 := B.2.2.1
    have B2 := B.2.2.2.1
    have B3 := B.2.2.2.2
    go_wp2_with fail
    refine (heads_c _ (E.keep (by repeat (first | exact Below.refl _ _ | apply Below.drew | apply below_drewN | refine Below.alloc ?_ (by first | (simp; done) | (simp; omega)) _)))).mono ?_
    rintro e w2 ⟨rfl, hb⟩
    have hB : Below w1.heap.size w1 w2 := Below.trans (by repeat (first | exact Below.refl _ _ | apply Below.drew | apply below_drewN | refine Below.alloc ?_ (by first | (simp; done) | (simp; omega)) _)) (hb.mono (by first | (simp; done) | (simp; omega) | omega))
    clear hb
    clear Bl B0 B1 B2 B3
    replace B := B.keep hB
    replace E := E.keep hB
    replace Xx := Xx.keep hB
    replace Xl := Xl.keep hB
    replace hw := hw.trans (hB.mono hw.size)
    clear hB
    have Bl := B.1
    have B0 := B.2.1
    have B1 := B.2.2.1
    have B2 := B.2.2.2.1
    have B3 := B.2.2.2.2
    go_wp2
    go_ret
    exact ⟨rfl, hw⟩
  obtain ⟨s1, s2, s3⟩ := s
  by_cases h1 : (300 : Int) < (l.length : Int)
  case pos =>
    go_enter Tryd.func4, Tryd.ntmps4
    have hw : Below w.heap.size w w := Below.refl _ _
    go_wp2_with fail
    refine (ismall_t _ _ _ _ _ _ _ s1 s2 s3).mono ?_
    rintro e w1 ⟨rfl, hb⟩
    have B := (Box4.new hb).1
    have hB : Below w.heap.size w w1 := Below.trans (by repeat (first | exact Below.refl _ _ | apply Below.drew | apply below_drewN | refine Below.alloc ?_ (by first | (simp; done) | (simp; omega)) _)) (hb.mono (by first | (simp; done) | (simp; omega) | omega))
    clear hb
    replace E := E.keep hB
    replace Xx := Xx.keep hB
    replace Xl := Xl.keep hB
    replace hw := hw.trans (hB.mono hw.size)
    clear hB
    have Bl := B.1
    have B0 := B.2.1
    have B1 := B.2.2.1
    have B2 := B.2.2.2.1
    have B3 := B.2.2.2.2
    go_wp2_with fail
    refine (heads_c _ (E.keep (by repeat (first | exact Below.refl _ _ | apply Below.drew | apply below_drewN | refine Below.alloc ?_ (by first | (simp; done) | (simp; omega)) _)))).mono ?_
    rintro e w2 ⟨rfl, hb⟩
    have hB : Below w1.heap.size w1 w2 := Below.trans (by repeat (first | exact Below.refl _ _ | apply Below.drew | apply below_drewN | refine Below.alloc ?_ (by first | (simp; done) | (simp; omega)) _)) (hb.mono (by first | (simp; done) | (simp; omega) | omega))
    clear hb
    clear Bl B0 B1 B2 B3
    replace B := B.keep hB
    replace E := E.keep hB
    replace Xx := Xx.keep hB
    replace Xl := Xl.keep hB
    replace hw := hw.trans (hB.mono hw.size)
    clear hB
    have Bl := B.1
    have B0 := B.2.1
    have B1 := B.2.2.1
    have B2 := B.2.2.2.1
    have B3 := B.2.2.2.2
    go_wp2
    go_ret
    exact ⟨rfl, hw⟩
  have h1' : decide ((300 : Int) < (l.length : Int)) = false := by simpa using h1
  have hl : xx.length ≤ 1048576 := by omega
  have hll : l.length ≤ 1048576 := by omega
  have hll2 : l.length ≤ 9223372036854775807 := by omega
  have LE1 : Hid ((ipL Nx Wx Mx xx i u).length ≤ 1048576) := ipL_len _ _ _ _ _ _ hl
  have LE2 : Hid ((imL width l).length ≤ 1048576) := imL_len _ _
  have LE3 : Hid ((imL (wm l l.length) l).length ≤ 1048576) := imL_len _ _
  have LE4 : Hid ((ilL Nx Wx Mx xx).length ≤ 1048576) := ilL_len _ _ _ _
  go_enter Tryd.func4, Tryd.ntmps4
  have hw : Below w.heap.size w w := Below.refl _ _
  go_wp2_with fail
  refine (ismall_t _ _ _ _ _ _ _ s1 s2 s3).mono ?_
  rintro e w1 ⟨rfl, hb⟩
  have B := (Box4.new hb).1
  have hB : Below w.heap.size w w1 := Below.trans (by repeat (first | exact Below.refl _ _ | apply Below.drew | apply below_drewN | refine Below.alloc ?_ (by first | (simp; done) | (simp; omega)) _)) (hb.mono (by first | (simp; done) | (simp; omega) | omega))
  clear hb
  replace E := E.keep hB
  replace Xx := Xx.keep hB
  replace Xl := Xl.keep hB
  replace hw := hw.trans (hB.mono hw.size)
  clear hB
  have Bl := B.1
  have B0 := B.2.1
  have B1 := B.2.2.1
  have B2 := B.2.2.2.1
  have B3 := B.2.2.2.2
  go_wp2_with fail
  refine (iget_c _ _ _ _ _ _ _ _ (E.keep (by repeat (first | exact Below.refl _ _ | apply Below.drew | apply below_drewN | refine Below.alloc ?_ (by first | (simp; done) | (simp; omega)) _))) (Xx.keep (by repeat (first | exact Below.refl _ _ | apply Below.drew | apply below_drewN | refine Below.alloc ?_ (by first | (simp; done) | (simp; omega)) _))) Fx).mono ?_
  rintro e w2 ⟨rfl, hb⟩
  have hB : Below w1.heap.size w1 w2 := Below.trans (by repeat (first | exact Below.refl _ _ | apply Below.drew | apply below_drewN | refine Below.alloc ?_ (by first | (simp; done) | (simp; omega)) _)) (hb.mono (by first | (simp; done) | (simp; omega) | omega))
  clear hb
  clear Bl B0 B1 B2 B3
  replace B := B.keep hB
  replace E := E.keep hB
  replace Xx := Xx.keep hB
  replace Xl := Xl.keep hB
  replace hw := hw.trans (hB.mono hw.size)
  clear hB
  have Bl := B.1
  have B0 := B.2.1
  have B1 := B.2.2.1
  have B2 := B.2.2.2.1
  have B3 := B.2.2.2.2
  go_wp2_with fail
  refine (irefget_c _ _ _ _ _ _ _ _ (Xx.keep (by repeat (first | exact Below.refl _ _ | apply Below.drew | apply below_drewN | refine Below.alloc ?_ (by first | (simp; done) | (simp; omega)) _))) Fx).mono ?_
  rintro e w3 ⟨rfl, hb⟩
  have hB : Below w2.heap.size w2 w3 := Below.trans (by repeat (first | exact Below.refl _ _ | apply Below.drew | apply below_drewN | refine Below.alloc ?_ (by first | (simp; done) | (simp; omega)) _)) (hb.mono (by first | (simp; done) | (simp; omega) | omega))
  clear hb
  clear Bl B0 B1 B2 B3
  replace B := B.keep hB
  replace E := E.keep hB
  replace Xx := Xx.keep hB
  replace Xl := Xl.keep hB
  replace hw := hw.trans (hB.mono hw.size)
  clear hB
  have Bl := B.1
  have B0 := B.2.1
  have B1 := B.2.2.1
  have B2 := B.2.2.2.1
  have B3 := B.2.2.2.2
  go_wp2_with fail
  refine (iput_c _ _ _ _ _ _ _ _ _ (E.keep (by repeat (first | exact Below.refl _ _ | apply Below.drew | apply below_drewN | refine Below.alloc ?_ (by first | (simp; done) | (simp; omega)) _))) (Xx.keep (by repeat (first | exact Below.refl _ _ | apply Below.drew | apply below_drewN | refine Below.alloc ?_ (by first | (simp; done) | (simp; omega)) _))) Fx hl hu.out).mono ?_
  rintro e w4 ⟨co, cc, rfl, Xc, _, _, _, hb⟩
  have hB : Below w3.heap.size w3 w4 := Below.trans (by repeat (first | exact Below.refl _ _ | apply Below.drew | apply below_drewN | refine Below.alloc ?_ (by first | (simp; done) | (simp; omega)) _)) (hb.mono (by first | (simp; done) | (simp; omega) | omega))
  clear hb
  clear Bl B0 B1 B2 B3
  replace B := B.keep hB
  replace E := E.keep hB
  replace Xx := Xx.keep hB
  replace Xl := Xl.keep hB
  replace hw := hw.trans (hB.mono hw.size)
  clear hB
  have Bl := B.1
  have B0 := B.2.1
  have B1 := B.2.2.1
  have B2 := B.2.2.2.1
  have B3 := B.2.2.2.2
  go_wp2_with fail
  refine (refput3_c _ _ _ _ _ _ _ _ _ (Xx.keep (by repeat (first | exact Below.refl _ _ | apply Below.drew | apply below_drewN | refine Below.alloc ?_ (by first | (simp; done) | (simp; omega)) _))) Fx hu.out).mono ?_
  rintro e w5 ⟨do_, dc, rfl, Xd, hb⟩
  have C := (Box4.new hb).1
  have hB : Below w4.heap.size w4 w5 := Below.trans (by repeat (first | exact Below.refl _ _ | apply Below.drew | apply below_drewN | refine Below.alloc ?_ (by first | (simp; done) | (simp; omega)) _)) (hb.mono (by first | (simp; done) | (simp; omega) | omega))
  clear hb
  clear Bl B0 B1 B2 B3
  replace B := B.keep hB
  replace E := E.keep hB
  replace Xx := Xx.keep hB
  replace Xl := Xl.keep hB
  replace Xc := Xc.keep hB
  replace hw := hw.trans (hB.mono hw.size)
  clear hB
  have Bl := B.1
  have B0 := B.2.1
  have B1 := B.2.2.1
  have B2 := B.2.2.2.1
  have B3 := B.2.2.2.2
  have Cl := C.1
  have C0 := C.2.1
  have C1 := C.2.2.1
  have C2 := C.2.2.2.1
  have C3 := C.2.2.2.2
  go_wp2_with fail
  refine (make_c _ _ _ _ _ (E.keep (by repeat (first | exact Below.refl _ _ | apply Below.drew | apply below_drewN | refine Below.alloc ?_ (by first | (simp; done) | (simp; omega)) _))) (Xl.keep (by repeat (first | exact Below.refl _ _ | apply Below.drew | apply below_drewN | refine Below.alloc ?_ (by first | (simp; done) | (simp; omega)) _))) Fl hll2).mono ?_
  rintro e w6 ⟨po, pc, rfl, Xp, _, _, _, hb⟩
  have D := (Box4.new hb).1
  have hB : Below w5.heap.size w5 w6 := Below.trans (by repeat (first | exact Below.refl _ _ | apply Below.drew | apply below_drewN | refine Below.alloc ?_ (by first | (simp; done) | (simp; omega)) _)) (hb.mono (by first | (simp; done) | (simp; omega) | omega))
  clear hb
  clear Bl B0 B1 B2 B3
  clear Cl C0 C1 C2 C3
  replace B := B.keep hB
  replace C := C.keep hB
  replace E := E.keep hB
  replace Xx := Xx.keep hB
  replace Xl := Xl.keep hB
  replace Xc := Xc.keep hB
  replace Xd := Xd.keep hB
  replace hw := hw.trans (hB.mono hw.size)
  clear hB
  have Bl := B.1
  have B0 := B.2.1
  have B1 := B.2.2.1
  have B2 := B.2.2.2.1
  have B3 := B.2.2.2.2
  have Cl := C.1
  have C0 := C.2.1
  have C1 := C.2.2.1
  have C2 := C.2.2.2.1
  have C3 := C.2.2.2.2
  have Dl := D.1
  have D0 := D.2.1
  have D1 := D.2.2.1
  have D2 := D.2.2.2.1
  have D3 := D.2.2.2.2
  go_wp2_with fail
  refine (refmake_c _ _ _ _ _ (Xl.keep (by repeat (first | exact Below.refl _ _ | apply Below.drew | apply below_drewN | refine Below.alloc ?_ (by first | (simp; done) | (simp; omega)) _))) Fl hll).mono ?_
  rintro e w7 ⟨so, sc, rfl, Xs, _, _, _, hb⟩
  have P := (Box4.new hb).1
  have hB : Below w6.heap.size w6 w7 := Below.trans (by repeat (first | exact Below.refl _ _ | apply Below.drew | apply below_drewN | refine Below.alloc ?_ (by first | (simp; done) | (simp; omega)) _)) (hb.mono (by first | (simp; done) | (simp; omega) | omega))
  clear hb
  clear Bl B0 B1 B2 B3
  clear Cl C0 C1 C2 C3
  clear Dl D0 D1 D2 D3
  replace B := B.keep hB
  replace C := C.keep hB
  replace D := D.keep hB
  replace E := E.keep hB
  replace Xx := Xx.keep hB
  replace Xl := Xl.keep hB
  replace Xc := Xc.keep hB
  replace Xd := Xd.keep hB
  replace Xp := Xp.keep hB
  replace hw := hw.trans (hB.mono hw.size)
  clear hB
  have Bl := B.1
  have B0 := B.2.1
  have B1 := B.2.2.1
  have B2 := B.2.2.2.1
  have B3 := B.2.2.2.2
  have Cl := C.1
  have C0 := C.2.1
  have C1 := C.2.2.1
  have C2 := C.2.2.2.1
  have C3 := C.2.2.2.2
  have Dl := D.1
  have D0 := D.2.1
  have D1 := D.2.2.1
  have D2 := D.2.2.2.1
  have D3 := D.2.2.2.2
  have Pl := P.1
  have P0 := P.2.1
  have P1 := P.2.2.1
  have P2 := P.2.2.2.1
  have P3 := P.2.2.2.2
  go_wp2_with fail
  refine (of_c _ _ _ _ (E.keep (by repeat (first | exact Below.refl _ _ | apply Below.drew | apply below_drewN | refine Below.alloc ?_ (by first | (simp; done) | (simp; omega)) _))) (Xl.keep (by repeat (first | exact Below.refl _ _ | apply Below.drew | apply below_drewN | refine Below.alloc ?_ (by first | (simp; done) | (simp; omega)) _))) Fl hll).mono ?_
  rintro e w8 ⟨uo, uc, rfl, Xu, _, _, _, hb⟩
  have S := (Box4.new hb).1
  have hB : Below w7.heap.size w7 w8 := Below.trans (by repeat (first | exact Below.refl _ _ | apply Below.drew | apply below_drewN | refine Below.alloc ?_ (by first | (simp; done) | (simp; omega)) _)) (hb.mono (by first | (simp; done) | (simp; omega) | omega))
  clear hb
  clear Bl B0 B1 B2 B3
  clear Cl C0 C1 C2 C3
  clear Dl D0 D1 D2 D3
  clear Pl P0 P1 P2 P3
  replace B := B.keep hB
  replace C := C.keep hB
  replace D := D.keep hB
  replace P := P.keep hB
  replace E := E.keep hB
  replace Xx := Xx.keep hB
  replace Xl := Xl.keep hB
  replace Xc := Xc.keep hB
  replace Xd := Xd.keep hB
  replace Xp := Xp.keep hB
  replace Xs := Xs.keep hB
  replace hw := hw.trans (hB.mono hw.size)
  clear hB
  have Bl := B.1
  have B0 := B.2.1
  have B1 := B.2.2.1
  have B2 := B.2.2.2.1
  have B3 := B.2.2.2.2
  have Cl := C.1
  have C0 := C.2.1
  have C1 := C.2.2.1
  have C2 := C.2.2.2.1
  have C3 := C.2.2.2.2
  have Dl := D.1
  have D0 := D.2.1
  have D1 := D.2.2.1
  have D2 := D.2.2.2.1
  have D3 := D.2.2.2.2
  have Pl := P.1
  have P0 := P.2.1
  have P1 := P.2.2.1
  have P2 := P.2.2.2.1
  have P3 := P.2.2.2.2
  have Sl := S.1
  have S0 := S.2.1
  have S1 := S.2.2.1
  have S2 := S.2.2.2.1
  have S3 := S.2.2.2.2
  go_wp2_with fail
  refine (refof_c _ _ _ _ (Xl.keep (by repeat (first | exact Below.refl _ _ | apply Below.drew | apply below_drewN | refine Below.alloc ?_ (by first | (simp; done) | (simp; omega)) _))) Fl hll).mono ?_
  rintro e w9 ⟨yo, yc, rfl, Xy, _, _, _, hb⟩
  have U := (Box4.new hb).1
  have hB : Below w8.heap.size w8 w9 := Below.trans (by repeat (first | exact Below.refl _ _ | apply Below.drew | apply below_drewN | refine Below.alloc ?_ (by first | (simp; done) | (simp; omega)) _)) (hb.mono (by first | (simp; done) | (simp; omega) | omega))
  clear hb
  clear Bl B0 B1 B2 B3
  clear Cl C0 C1 C2 C3
  clear Dl D0 D1 D2 D3
  clear Pl P0 P1 P2 P3
  clear Sl S0 S1 S2 S3
  replace B := B.keep hB
  replace C := C.keep hB
  replace D := D.keep hB
  replace P := P.keep hB
  replace S := S.keep hB
  replace E := E.keep hB
  replace Xx := Xx.keep hB
  replace Xl := Xl.keep hB
  replace Xc := Xc.keep hB
  replace Xd := Xd.keep hB
  replace Xp := Xp.keep hB
  replace Xs := Xs.keep hB
  replace Xu := Xu.keep hB
  replace hw := hw.trans (hB.mono hw.size)
  clear hB
  have Bl := B.1
  have B0 := B.2.1
  have B1 := B.2.2.1
  have B2 := B.2.2.2.1
  have B3 := B.2.2.2.2
  have Cl := C.1
  have C0 := C.2.1
  have C1 := C.2.2.1
  have C2 := C.2.2.2.1
  have C3 := C.2.2.2.2
  have Dl := D.1
  have D0 := D.2.1
  have D1 := D.2.2.1
  have D2 := D.2.2.2.1
  have D3 := D.2.2.2.2
  have Pl := P.1
  have P0 := P.2.1
  have P1 := P.2.2.1
  have P2 := P.2.2.2.1
  have P3 := P.2.2.2.2
  have Sl := S.1
  have S0 := S.2.1
  have S1 := S.2.2.1
  have S2 := S.2.2.2.1
  have S3 := S.2.2.2.2
  have Ul := U.1
  have U0 := U.2.1
  have U1 := U.2.2.1
  have U2 := U.2.2.2.1
  have U3 := U.2.2.2.2
  go_wp2_with fail
  refine (isame_eq _ _ _ _ _ _ _ _ _ (Xc.keep (by repeat (first | exact Below.refl _ _ | apply Below.drew | apply below_drewN | refine Below.alloc ?_ (by first | (simp; done) | (simp; omega)) _))) (Xd.keep (by repeat (first | exact Below.refl _ _ | apply Below.drew | apply below_drewN | refine Below.alloc ?_ (by first | (simp; done) | (simp; omega)) _))) LE1.out).mono ?_
  rintro e w10 ⟨rfl, hb⟩
  have Y := (Box4.new hb).1
  have hB : Below w9.heap.size w9 w10 := Below.trans (by repeat (first | exact Below.refl _ _ | apply Below.drew | apply below_drewN | refine Below.alloc ?_ (by first | (simp; done) | (simp; omega)) _)) (hb.mono (by first | (simp; done) | (simp; omega) | omega))
  clear hb
  clear Bl B0 B1 B2 B3
  clear Cl C0 C1 C2 C3
  clear Dl D0 D1 D2 D3
  clear Pl P0 P1 P2 P3
  clear Sl S0 S1 S2 S3
  clear Ul U0 U1 U2 U3
  replace B := B.keep hB
  replace C := C.keep hB
  replace D := D.keep hB
  replace P := P.keep hB
  replace S := S.keep hB
  replace U := U.keep hB
  replace E := E.keep hB
  replace Xx := Xx.keep hB
  replace Xl := Xl.keep hB
  replace Xc := Xc.keep hB
  replace Xd := Xd.keep hB
  replace Xp := Xp.keep hB
  replace Xs := Xs.keep hB
  replace Xu := Xu.keep hB
  replace Xy := Xy.keep hB
  replace hw := hw.trans (hB.mono hw.size)
  clear hB
  have Bl := B.1
  have B0 := B.2.1
  have B1 := B.2.2.1
  have B2 := B.2.2.2.1
  have B3 := B.2.2.2.2
  have Cl := C.1
  have C0 := C.2.1
  have C1 := C.2.2.1
  have C2 := C.2.2.2.1
  have C3 := C.2.2.2.2
  have Dl := D.1
  have D0 := D.2.1
  have D1 := D.2.2.1
  have D2 := D.2.2.2.1
  have D3 := D.2.2.2.2
  have Pl := P.1
  have P0 := P.2.1
  have P1 := P.2.2.1
  have P2 := P.2.2.2.1
  have P3 := P.2.2.2.2
  have Sl := S.1
  have S0 := S.2.1
  have S1 := S.2.2.1
  have S2 := S.2.2.2.1
  have S3 := S.2.2.2.2
  have Ul := U.1
  have U0 := U.2.1
  have U1 := U.2.2.1
  have U2 := U.2.2.2.1
  have U3 := U.2.2.2.2
  have Yl := Y.1
  have Y0 := Y.2.1
  have Y1 := Y.2.2.1
  have Y2 := Y.2.2.2.1
  have Y3 := Y.2.2.2.2
  go_wp2_with fail
  refine (isame_eq _ _ _ _ _ _ _ _ _ (Xp.keep (by repeat (first | exact Below.refl _ _ | apply Below.drew | apply below_drewN | refine Below.alloc ?_ (by first | (simp; done) | (simp; omega)) _))) (Xs.keep (by repeat (first | exact Below.refl _ _ | apply Below.drew | apply below_drewN | refine Below.alloc ?_ (by first | (simp; done) | (simp; omega)) _))) LE2.out).mono ?_
  rintro e w11 ⟨rfl, hb⟩
  have hB : Below w10.heap.size w10 w11 := Below.trans (by repeat (first | exact Below.refl _ _ | apply Below.drew | apply below_drewN | refine Below.alloc ?_ (by first | (simp; done) | (simp; omega)) _)) (hb.mono (by first | (simp; done) | (simp; omega) | omega))
  clear hb
  clear Bl B0 B1 B2 B3
  clear Cl C0 C1 C2 C3
  clear Dl D0 D1 D2 D3
  clear Pl P0 P1 P2 P3
  clear Sl S0 S1 S2 S3
  clear Ul U0 U1 U2 U3
  clear Yl Y0 Y1 Y2 Y3
  replace B := B.keep hB
  replace C := C.keep hB
  replace D := D.keep hB
  replace P := P.keep hB
  replace S := S.keep hB
  replace U := U.keep hB
  replace Y := Y.keep hB
  replace E := E.keep hB
  replace Xx := Xx.keep hB
  replace Xl := Xl.keep hB
  replace Xc := Xc.keep hB
  replace Xd := Xd.keep hB
  replace Xp := Xp.keep hB
  replace Xs := Xs.keep hB
  replace Xu := Xu.keep hB
  replace Xy := Xy.keep hB
  replace hw := hw.trans (hB.mono hw.size)
  clear hB
  have Bl := B.1
  have B0 := B.2.1
  have B1 := B.2.2.1
  have B2 := B.2.2.2.1
  have B3 := B.2.2.2.2
  have Cl := C.1
  have C0 := C.2.1
  have C1 := C.2.2.1
  have C2 := C.2.2.2.1
  have C3 := C.2.2.2.2
  have Dl := D.1
  have D0 := D.2.1
  have D1 := D.2.2.1
  have D2 := D.2.2.2.1
  have D3 := D.2.2.2.2
  have Pl := P.1
  have P0 := P.2.1
  have P1 := P.2.2.1
  have P2 := P.2.2.2.1
  have P3 := P.2.2.2.2
  have Sl := S.1
  have S0 := S.2.1
  have S1 := S.2.2.1
  have S2 := S.2.2.2.1
  have S3 := S.2.2.2.2
  have Ul := U.1
  have U0 := U.2.1
  have U1 := U.2.2.1
  have U2 := U.2.2.2.1
  have U3 := U.2.2.2.2
  have Yl := Y.1
  have Y0 := Y.2.1
  have Y1 := Y.2.2.1
  have Y2 := Y.2.2.2.1
  have Y3 := Y.2.2.2.2
  go_wp2_with fail
  refine (isame_eq _ _ _ _ _ _ _ _ _ (Xu.keep (by repeat (first | exact Below.refl _ _ | apply Below.drew | apply below_drewN | refine Below.alloc ?_ (by first | (simp; done) | (simp; omega)) _))) (Xy.keep (by repeat (first | exact Below.refl _ _ | apply Below.drew | apply below_drewN | refine Below.alloc ?_ (by first | (simp; done) | (simp; omega)) _))) LE3.out).mono ?_
  rintro e w12 ⟨rfl, hb⟩
  have hB : Below w11.heap.size w11 w12 := Below.trans (by repeat (first | exact Below.refl _ _ | apply Below.drew | apply below_drewN | refine Below.alloc ?_ (by first | (simp; done) | (simp; omega)) _)) (hb.mono (by first | (simp; done) | (simp; omega) | omega))
  clear hb
  clear Bl B0 B1 B2 B3
  clear Cl C0 C1 C2 C3
  clear Dl D0 D1 D2 D3
  clear Pl P0 P1 P2 P3
  clear Sl S0 S1 S2 S3
  clear Ul U0 U1 U2 U3
  clear Yl Y0 Y1 Y2 Y3
  replace B := B.keep hB
  replace C := C.keep hB
  replace D := D.keep hB
  replace P := P.keep hB
  replace S := S.keep hB
  replace U := U.keep hB
  replace Y := Y.keep hB
  replace E := E.keep hB
  replace Xx := Xx.keep hB
  replace Xl := Xl.keep hB
  replace Xc := Xc.keep hB
  replace Xd := Xd.keep hB
  replace Xp := Xp.keep hB
  replace Xs := Xs.keep hB
  replace Xu := Xu.keep hB
  replace Xy := Xy.keep hB
  replace hw := hw.trans (hB.mono hw.size)
  clear hB
  have Bl := B.1
  have B0 := B.2.1
  have B1 := B.2.2.1
  have B2 := B.2.2.2.1
  have B3 := B.2.2.2.2
  have Cl := C.1
  have C0 := C.2.1
  have C1 := C.2.2.1
  have C2 := C.2.2.2.1
  have C3 := C.2.2.2.2
  have Dl := D.1
  have D0 := D.2.1
  have D1 := D.2.2.1
  have D2 := D.2.2.2.1
  have D3 := D.2.2.2.2
  have Pl := P.1
  have P0 := P.2.1
  have P1 := P.2.2.1
  have P2 := P.2.2.2.1
  have P3 := P.2.2.2.2
  have Sl := S.1
  have S0 := S.2.1
  have S1 := S.2.2.1
  have S2 := S.2.2.2.1
  have S3 := S.2.2.2.2
  have Ul := U.1
  have U0 := U.2.1
  have U1 := U.2.2.1
  have U2 := U.2.2.2.1
  have U3 := U.2.2.2.2
  have Yl := Y.1
  have Y0 := Y.2.1
  have Y1 := Y.2.2.1
  have Y2 := Y.2.2.2.1
  have Y3 := Y.2.2.2.2
  go_wp2_with fail
  clear Xc Xd Xp Xs Xu Xy Xl
  clear C Cl C0 C1 C2 C3
  clear D Dl D0 D1 D2 D3
  clear P Pl P0 P1 P2 P3
  clear S Sl S0 S1 S2 S3
  clear U Ul U0 U1 U2 U3
  clear Y Yl Y0 Y1 Y2 Y3
  go_region_held3 (fun w' => w'.cell? ⟨w.heap.size, 0, none⟩ = some (.int .i64 Nx) ∧ w'.cell? ⟨w.heap.size, 1, none⟩ = some (.int .i64 Wx) ∧ w'.cell? ⟨w.heap.size, 2, none⟩ = some (.int .i64 Mx) ∧ w'.cell? ⟨w.heap.size, 3, none⟩ = some (.slice ax xx.length cx)) (first | with_reducible exact ⟨B0, B1, B2, B3⟩ | exact ⟨B0, B1, B2, B3⟩)
    (first | (go_at_call 19; refine (icheck_c _ _ _ _ _ _ _ ?_).mono ?_; (exact Xx.keep (by repeat (first | exact Below.refl _ _ | apply Below.drew | apply below_drewN | refine Below.alloc ?_ (by first | (simp; done) | (simp; omega)) _))); rintro e wz ⟨rfl, hb⟩; replace hw := hw.trans (Below.trans (by repeat (first | exact Below.refl _ _ | apply Below.drew | apply below_drewN | refine Below.alloc ?_ (by first | (simp; done) | (simp; omega)) _)) (hb.mono hw.size)); replace E := (E.keep (by repeat (first | exact Below.refl _ _ | apply Below.drew | apply below_drewN | refine Below.alloc ?_ (by first | (simp; done) | (simp; omega)) _))).keep hb; replace Xx := (Xx.keep (by repeat (first | exact Below.refl _ _ | apply Below.drew | apply below_drewN | refine Below.alloc ?_ (by first | (simp; done) | (simp; omega)) _))).keep hb; replace B := (B.keep (by repeat (first | exact Below.refl _ _ | apply Below.drew | apply below_drewN | refine Below.alloc ?_ (by first | (simp; done) | (simp; omega)) _))).keep hb; (first | (replace L1 := L1.keep hb) | skip); (first | (replace L2 := L2.keep hb) | skip); clear hb; replace Bl := B.1; replace B0 := B.2.1; replace B1 := B.2.2.1; replace B2 := B.2.2.2.1; replace B3 := B.2.2.2.2) | (go_at_call 20; refine (irefcheck_c _ _ _ _ _ _ _ ?_ Fx).mono ?_; (exact Xx.keep (by repeat (first | exact Below.refl _ _ | apply Below.drew | apply below_drewN | refine Below.alloc ?_ (by first | (simp; done) | (simp; omega)) _))); rintro e wz ⟨rfl, hb⟩; replace hw := hw.trans (Below.trans (by repeat (first | exact Below.refl _ _ | apply Below.drew | apply below_drewN | refine Below.alloc ?_ (by first | (simp; done) | (simp; omega)) _)) (hb.mono hw.size)); replace E := (E.keep (by repeat (first | exact Below.refl _ _ | apply Below.drew | apply below_drewN | refine Below.alloc ?_ (by first | (simp; done) | (simp; omega)) _))).keep hb; replace Xx := (Xx.keep (by repeat (first | exact Below.refl _ _ | apply Below.drew | apply below_drewN | refine Below.alloc ?_ (by first | (simp; done) | (simp; omega)) _))).keep hb; replace B := (B.keep (by repeat (first | exact Below.refl _ _ | apply Below.drew | apply below_drewN | refine Below.alloc ?_ (by first | (simp; done) | (simp; omega)) _))).keep hb; (first | (replace L1 := L1.keep hb) | skip); (first | (replace L2 := L2.keep hb) | skip); clear hb; replace Bl := B.1; replace B0 := B.2.1; replace B1 := B.2.2.1; replace B2 := B.2.2.2.1; replace B3 := B.2.2.2.2) | (go_at_call 10; refine (ilist_c _ _ _ _ _ _ _ ?_ Fx).mono ?_; (exact Xx.keep (by repeat (first | exact Below.refl _ _ | apply Below.drew | apply below_drewN | refine Below.alloc ?_ (by first | (simp; done) | (simp; omega)) _))); rintro e wz ⟨lo, lc, rfl, L1, _, _, _, hb⟩; replace hw := hw.trans (Below.trans (by repeat (first | exact Below.refl _ _ | apply Below.drew | apply below_drewN | refine Below.alloc ?_ (by first | (simp; done) | (simp; omega)) _)) (hb.mono hw.size)); replace E := (E.keep (by repeat (first | exact Below.refl _ _ | apply Below.drew | apply below_drewN | refine Below.alloc ?_ (by first | (simp; done) | (simp; omega)) _))).keep hb; replace Xx := (Xx.keep (by repeat (first | exact Below.refl _ _ | apply Below.drew | apply below_drewN | refine Below.alloc ?_ (by first | (simp; done) | (simp; omega)) _))).keep hb; replace B := (B.keep (by repeat (first | exact Below.refl _ _ | apply Below.drew | apply below_drewN | refine Below.alloc ?_ (by first | (simp; done) | (simp; omega)) _))).keep hb; (first | (replace L2 := L2.keep hb) | skip); clear hb; replace Bl := B.1; replace B0 := B.2.1; replace B1 := B.2.2.1; replace B2 := B.2.2.2.1; replace B3 := B.2.2.2.2) | (go_at_call 22; refine (reflist_c _ _ _ _ _ _ _ ?_ Fx).mono ?_; (exact Xx.keep (by repeat (first | exact Below.refl _ _ | apply Below.drew | apply below_drewN | refine Below.alloc ?_ (by first | (simp; done) | (simp; omega)) _))); rintro e wz ⟨mo, mc, rfl, L2, hb⟩; replace hw := hw.trans (Below.trans (by repeat (first | exact Below.refl _ _ | apply Below.drew | apply below_drewN | refine Below.alloc ?_ (by first | (simp; done) | (simp; omega)) _)) (hb.mono hw.size)); replace E := (E.keep (by repeat (first | exact Below.refl _ _ | apply Below.drew | apply below_drewN | refine Below.alloc ?_ (by first | (simp; done) | (simp; omega)) _))).keep hb; replace Xx := (Xx.keep (by repeat (first | exact Below.refl _ _ | apply Below.drew | apply below_drewN | refine Below.alloc ?_ (by first | (simp; done) | (simp; omega)) _))).keep hb; replace B := (B.keep (by repeat (first | exact Below.refl _ _ | apply Below.drew | apply below_drewN | refine Below.alloc ?_ (by first | (simp; done) | (simp; omega)) _))).keep hb; (first | (replace L1 := L1.keep hb) | skip); clear hb; replace Bl := B.1; replace B0 := B.2.1; replace B1 := B.2.2.1; replace B2 := B.2.2.2.1; replace B3 := B.2.2.2.2) | (go_at_call 21; refine (rows_eq _ _ _ _ _ _ ?_ ?_ LE4.out).mono ?_; (exact L1); (exact L2); rintro e wz ⟨rfl, hb⟩; replace hw := hw.trans (Below.trans (by repeat (first | exact Below.refl _ _ | apply Below.drew | apply below_drewN | refine Below.alloc ?_ (by first | (simp; done) | (simp; omega)) _)) (hb.mono hw.size)); replace E := (E.keep (by repeat (first | exact Below.refl _ _ | apply Below.drew | apply below_drewN | refine Below.alloc ?_ (by first | (simp; done) | (simp; omega)) _))).keep hb; replace Xx := (Xx.keep (by repeat (first | exact Below.refl _ _ | apply Below.drew | apply below_drewN | refine Below.alloc ?_ (by first | (simp; done) | (simp; omega)) _))).keep hb; replace B := (B.keep (by repeat (first | exact Below.refl _ _ | apply Below.drew | apply below_drewN | refine Below.alloc ?_ (by first | (simp; done) | (simp; omega)) _))).keep hb; (first | (replace L1 := L1.keep hb) | skip); (first | (replace L2 := L2.keep hb) | skip); clear hb; replace Bl := B.1; replace B0 := B.2.1; replace B1 := B.2.2.1; replace B2 := B.2.2.2.1; replace B3 := B.2.2.2.2) | (go_at_call 7; refine (heads_c _ ?_).mono ?_; (exact E.keep (by repeat (first | exact Below.refl _ _ | apply Below.drew | apply below_drewN | refine Below.alloc ?_ (by first | (simp; done) | (simp; omega)) _))); rintro e wz ⟨rfl, hb⟩; replace hw := hw.trans (Below.trans (by repeat (first | exact Below.refl _ _ | apply Below.drew | apply below_drewN | refine Below.alloc ?_ (by first | (simp; done) | (simp; omega)) _)) (hb.mono hw.size)); replace E := (E.keep (by repeat (first | exact Below.refl _ _ | apply Below.drew | apply below_drewN | refine Below.alloc ?_ (by first | (simp; done) | (simp; omega)) _))).keep hb; replace Xx := (Xx.keep (by repeat (first | exact Below.refl _ _ | apply Below.drew | apply below_drewN | refine Below.alloc ?_ (by first | (simp; done) | (simp; omega)) _))).keep hb; replace B := (B.keep (by repeat (first | exact Below.refl _ _ | apply Below.drew | apply below_drewN | refine Below.alloc ?_ (by first | (simp; done) | (simp; omega)) _))).keep hb; (first | (replace L1 := L1.keep hb) | skip); (first | (replace L2 := L2.keep hb) | skip); clear hb; replace Bl := B.1; replace B0 := B.2.1; replace B1 := B.2.2.1; replace B2 := B.2.2.2.1; replace B3 := B.2.2.2.2))
  all_goals (go_wp2; go_ret; exact ⟨rfl, hw⟩)

theorem door_met (os : Os) (args : Array Value) : laidMetH Tryd.prog [("errors.errorType", Rows.laid_errors_errorType)] ((World.doorLaid Tryd.prog 400 os).forCall (fun _ _ => 0) ⟨#[], args, []⟩).memory :=
  laidMetH_of_parts (laidMet_nil _ _) (by kernel_rfl)

theorem lifted (os : Os) (started : os.Started) (H : Type) (enc : TypeId × Value → H) :
    ReturnsInHanded {} Tryd.checked os 4 .any (fun w args => (Rows.intsTellSpec.pre enc Tryd.prog Tryd.f4 [] false w args ∧ laidMetH Tryd.prog [("errors.errorType", Rows.laid_errors_errorType)] w) ∧ sizedMet enc Tryd.prog Tryd.f4 (OpenSpec.ofChange Rows.intsTellSpec) false w args)
      (Rows.intsTellSpec.post enc Tryd.prog Tryd.f4 false true false false) := by
  refine returnsInHanded_of_change_and (C := Tryd.checked) (X := fun w _ => laidMetH Tryd.prog [("errors.errorType", Rows.laid_errors_errorType)] w) (fun _ _ _ hh h => h.of_heap hh) own started (by kernel_rfl) Tryd.func4
    (ChangeSpec.witness_shaped (enc := enc) (C := Tryd.checked) (os := os) (X := fun w _ => laidMetH Tryd.prog [("errors.errorType", Rows.laid_errors_errorType)] w) false (World.doorLaid Tryd.prog 400 os) #[.agg #[.int .i64 0, .int .i64 0, .int .i64 0, .slice none 0 0], .int .i64 0, .int .u64 0, .int .i64 0, .slice none 0 0] 8 rfl (World.shaped_of_RefB (by kernel_rfl) (by kernel_rfl)) (by kernel_rfl) (by kernel_rfl) (by kernel_rfl) (door_met os _)) ?_
  intro W base args ds gs before hval0 hW _ _ hL _
  have hval : ∀ (j : Nat) t v, Tryd.f4.params[j]? = some t → args[j]? = some v → Value.okWide Tryd.prog W .any base t v := hval0
  have hW' := hW
  obtain ⟨p, q, hA0, hV, rfl, hfz, hnd⟩ := hW
  have hA : DataW.TrodAll enc Tryd.prog W 0 (fun _ => true) true Tryd.f4.params.toList args.toList ds p := hA0
  rw [Tryd.params4] at hA hval
  obtain ⟨v0, vs0, d0, ds0, p0, q0, hargs, rfl, rfl, h0, r0⟩ := trodAll_cons hA
  obtain ⟨v1, vs1, d1, ds1, p1, q1, rfl, rfl, rfl, h1, r1⟩ := trodAll_cons r0
  obtain ⟨v2, vs2, d2, ds2, p2, q2, rfl, rfl, rfl, h2, r2⟩ := trodAll_cons r1
  obtain ⟨v3, vs3, d3, ds3, p3, q3, rfl, rfl, rfl, h3, r3⟩ := trodAll_cons r2
  obtain ⟨v4, vs4, d4, ds4, p4, q4, rfl, rfl, rfl, h4, r4⟩ := trodAll_cons r3
  obtain ⟨rfl, rfl, rfl⟩ := trodAll_nil r4
  obtain rfl : args = #[v0, v1, v2, v3, v4] := by cases args; simp_all
  obtain ⟨rfl, rfl⟩ := trodVars_none hV
  have k0 := h0
  have lt0 : ∀ x ∈ p0, x.block < W.heap.size := by obtain ⟨m, hm⟩ := k0; exact DataW.trod_lt m _ _ _ hm
  obtain ⟨Nx, Wx, Mx, ax, xx, cx, rfl, bx1, bx2, bx3, bx4, bx5, bx6⟩ := open_ints4 (hval 0 27 v0 rfl rfl) h0
  obtain ⟨i, rfl, rfl, rfl, w1⟩ := open_int Tryd.underlying3 (hval 1 3 v1 rfl rfl) h1
  obtain ⟨v, rfl, rfl, rfl, w2⟩ := open_int Tryd.underlying31 (hval 2 31 v2 rfl rfl) h2
  obtain ⟨width, rfl, rfl, rfl, w3⟩ := open_int Tryd.underlying3 (hval 3 3 v3 rfl rfl) h3
  have k4 := h4
  have lt4 : ∀ x ∈ p4, x.block < W.heap.size := by obtain ⟨m, hm⟩ := k4; exact DataW.trod_lt m _ _ _ hm
  obtain ⟨al, l, cl, rfl, bl1, bl2, bl3⟩ := open_u64s (hval 4 22 v4 rfl rfl) h4
  clear hA0 hval0
  refine (walk W (et_of_laid hL) Nx Wx Mx ax xx cx bx1 bx2 bx3 bx4 bx5 bx6 i (i64_wf _ w1) v (u64_wf _ w2) width (i64_wf _ w3) al l cl bl1 bl2 bl3).mono fun e W' ⟨he, bel⟩ => ?_
  subst he
  exact ⟨_, rfl, _, _, _, [], _, [], hW', trodAll_mk1 (shut_bool Tryd.underlying4 _), (trodAll_cons_mk (Below.trod laidOut (by kernel_rfl) (of_decide_eq_true (by kernel_rfl)) k0 bel lt0) (trodAll_cons_mk (shut_int Tryd.underlying3 w1) (trodAll_cons_mk (shut_int Tryd.underlying31 w2) (trodAll_cons_mk (shut_int Tryd.underlying3 w3) (trodAll_cons_mk (Below.trod laidOut (by kernel_rfl) (of_decide_eq_true (by kernel_rfl)) k4 bel lt4) trodAll_mk0))))), rfl, bel.frame _, fun h => by cases h⟩

theorem over : Rows.intsTellRow.holds Tryd.pinned (OpenSpec.ofChange Rows.intsTellSpec) :=
  OpenClaim.holds_of_wide 4 Tryd.f4 rfl rfl rfl rfl rfl rfl rfl ⟨rfl, rfl, rfl, rfl, rfl⟩ rfl rfl rfl rfl rfl (by kernel_rfl) Tryd.func4 (by kernel_rfl)
    (of_decide_eq_true (by kernel_rfl)) (by unfold Func.isWrapper; first | (rw [if_pos (by decide +kernel)]; kernel_rfl) | (rw [if_neg (by decide +kernel)]; exact ⟨rfl, rfl⟩))
    (fun os started H enc _ => lifted os started H enc)

theorem proved : Rows.IntsTellCardSaid :=
  Claim7.holds_tied_plain_at .later [] [.handle] true (true, "ddd179aae804cd5fe4d58a7f688ecba0d555650f9f20d33ce8723e8ead9036f9") true
    over (fun _ h => by cases h) (by kernel_rfl) (fun _ h => by cases h) intsTell_row_tie rfl ⟨rfl, rfl⟩ (by kernel_rfl) rfl
    (fun f fn hf hfn => by
      obtain rfl : f = 4 := Option.some.inj ((show Tryd.prog.funcNamed "haystack/haystacklaw03.IntsTell" = some 4 by kernel_rfl).symm.trans hf) |>.symm
      obtain rfl : fn = Tryd.f4 := (Option.some.inj (Tryd.func4.symm.trans hfn)).symm
      exact ⟨by kernel_rfl, fun j t ht => by
        rw [Tryd.params4] at ht
        have hm : t ∈ [27, 3, 31, 3, 22] := by simpa using Array.mem_of_getElem? ht
        have hall : ([27, 3, 31, 3, 22].all fun u => !Tryd.prog.wantsStandIn u) = true := by kernel_rfl
        exact (show Tryd.prog.wantsStandIn t = false by simpa using List.all_eq_true.1 hall t hm)⟩)
    (by kernel_rfl)
end Go.Proofs.YtjilehaokignoaaDoor.intsTell
namespace Go.Proofs.YtjilehaokignoaaDoor
theorem intsTell_holds : Rows.IntsTellCardSaid := intsTell.proved
#print axioms intsTell_holds
end Go.Proofs.YtjilehaokignoaaDoor
