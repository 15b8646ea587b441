/-
  heads: it answers true, and turns nothing old.
-/
import Derived.Test.YtjilehaokignoaaHeadC
namespace Go.Proofs.Ytjilehaokignoaa
open Go.RowKit Num Bit

set_option maxHeartbeats 4000000 in
theorem heads_c (w : World) : Calls Try.prog 5 #[] w fun e w' => e = .returned (.bool true) ∧ Below w.heap.size w w' := by
  go_enter Try.func5, Try.ntmps5
  have hw : Below w.heap.size w w := Below.refl _ _
  go_wp2_with fail
  refine (hd_app _).mono ?_
  rintro e w1 ⟨bo, bc, rfl, X1, _, c1, hb⟩
  have hB : Below w.heap.size w w1 := Below.trans (by repeat (first | exact Below.refl _ _ | apply Below.drew | apply below_drewN | refine Below.alloc ?_ (by simp) _)) (hb.mono (by simp))
  clear hb
  replace hw := hw.trans (hB.mono hw.size)
  clear hB
  obtain ⟨bb, off, hbo, _, _⟩ := X1 (by decide)
  subst hbo
  go_wp2_with fail
  refine (hd_set _ _ _ (X1.keep (by repeat (first | exact Below.refl _ _ | apply Below.drew | apply below_drewN | refine Below.alloc ?_ (by simp) _)))).mono ?_
  rintro e w2 ⟨co, cc, rfl, X3, _, c3, hb⟩
  have B1 := Box.new hb
  have hB : Below w1.heap.size w1 w2 := Below.trans (by repeat (first | exact Below.refl _ _ | apply Below.drew | apply below_drewN | refine Below.alloc ?_ (by simp) _)) (hb.mono (by simp))
  clear hb
  replace X1 := X1.keep hB
  replace hw := hw.trans (hB.mono hw.size)
  clear hB
  have B1l := B1.1
  have B1u := B1.2.1
  have B1v := B1.2.2
  go_wp2_with fail
  refine (hd_slice _ _ _ (X3.keep (by repeat (first | exact Below.refl _ _ | apply Below.drew | apply below_drewN | refine Below.alloc ?_ (by simp) _)))).mono ?_
  rintro e w3 ⟨rfl, hb⟩
  have B3 := Box.new hb
  have hB : Below w2.heap.size w2 w3 := Below.trans (by repeat (first | exact Below.refl _ _ | apply Below.drew | apply below_drewN | refine Below.alloc ?_ (by simp) _)) (hb.mono (by simp))
  clear hb
  clear B1l B1u B1v
  replace B1 := B1.keep hB
  replace X1 := X1.keep hB
  replace X3 := X3.keep hB
  replace hw := hw.trans (hB.mono hw.size)
  clear hB
  have B1l := B1.1
  have B1u := B1.2.1
  have B1v := B1.2.2
  have B3l := B3.1
  have B3u := B3.2.1
  have B3v := B3.2.2
  go_wp2_with fail
  refine (hd_get3 _ _ _ (X3.keep (by repeat (first | exact Below.refl _ _ | apply Below.drew | apply below_drewN | refine Below.alloc ?_ (by simp) _)))).mono ?_
  rintro e w4 ⟨rfl, hb⟩
  have hB : Below w3.heap.size w3 w4 := Below.trans (by repeat (first | exact Below.refl _ _ | apply Below.drew | apply below_drewN | refine Below.alloc ?_ (by simp) _)) (hb.mono (by simp))
  clear hb
  clear B1l B1u B1v
  clear B3l B3u B3v
  replace B1 := B1.keep hB
  replace B3 := B3.keep hB
  replace X1 := X1.keep hB
  replace X3 := X3.keep hB
  replace hw := hw.trans (hB.mono hw.size)
  clear hB
  have B1l := B1.1
  have B1u := B1.2.1
  have B1v := B1.2.2
  have B3l := B3.1
  have B3u := B3.2.1
  have B3v := B3.2.2
  go_wp2_with fail
  refine (hd_join _ _ _ _ _ (X1.keep (by repeat (first | exact Below.refl _ _ | apply Below.drew | apply below_drewN | refine Below.alloc ?_ (by simp) _))) (X3.keep (by repeat (first | exact Below.refl _ _ | apply Below.drew | apply below_drewN | refine Below.alloc ?_ (by simp) _)))).mono ?_
  rintro e w5 ⟨eo, ec, rfl, X9, _, c9, hb⟩
  have hB : Below w4.heap.size w4 w5 := Below.trans (by repeat (first | exact Below.refl _ _ | apply Below.drew | apply below_drewN | refine Below.alloc ?_ (by simp) _)) (hb.mono (by simp))
  clear hb
  clear B1l B1u B1v
  clear B3l B3u B3v
  replace B1 := B1.keep hB
  replace B3 := B3.keep hB
  replace X1 := X1.keep hB
  replace X3 := X3.keep hB
  replace hw := hw.trans (hB.mono hw.size)
  clear hB
  have B1l := B1.1
  have B1u := B1.2.1
  have B1v := B1.2.2
  have B3l := B3.1
  have B3u := B3.2.1
  have B3v := B3.2.2
  go_wp2_with fail
  refine (new_bad _ _ (.inl (by decide))).mono ?_
  rintro e w6 ⟨rfl, hb⟩
  have B9 := Box.new hb
  have hB : Below w5.heap.size w5 w6 := Below.trans (by repeat (first | exact Below.refl _ _ | apply Below.drew | apply below_drewN | refine Below.alloc ?_ (by simp) _)) (hb.mono (by simp))
  clear hb
  clear B1l B1u B1v
  clear B3l B3u B3v
  replace B1 := B1.keep hB
  replace B3 := B3.keep hB
  replace X1 := X1.keep hB
  replace X3 := X3.keep hB
  replace X9 := X9.keep hB
  replace hw := hw.trans (hB.mono hw.size)
  clear hB
  have B1l := B1.1
  have B1u := B1.2.1
  have B1v := B1.2.2
  have B3l := B3.1
  have B3u := B3.2.1
  have B3v := B3.2.2
  have B9l := B9.1
  have B9u := B9.2.1
  have B9v := B9.2.2
  go_wp2_with fail
  refine (hd_from _ _ _ ?_).mono ?_
  · intro _
    refine ⟨w6.heap.size + 1, 0, rfl, by simp, ?_⟩
    intro i hi
    match i, hi with
    | 0, _ => simp [bt]
    | 1, _ => simp [bt]
    | 2, _ => simp [bt]
  rintro e w7 ⟨fo, fc, rfl, X13, _, c13, hb⟩
  have hB : Below w6.heap.size w6 w7 := Below.trans (by repeat (first | exact Below.refl _ _ | apply Below.drew | apply below_drewN | refine Below.alloc ?_ (by simp) _)) (hb.mono (by simp; omega))
  clear hb
  clear B1l B1u B1v
  clear B3l B3u B3v
  clear B9l B9u B9v
  replace B1 := B1.keep hB
  replace B3 := B3.keep hB
  replace B9 := B9.keep hB
  replace X1 := X1.keep hB
  replace X3 := X3.keep hB
  replace X9 := X9.keep hB
  replace hw := hw.trans (hB.mono hw.size)
  clear hB
  have B1l := B1.1
  have B1u := B1.2.1
  have B1v := B1.2.2
  have B3l := B3.1
  have B3u := B3.2.1
  have B3v := B3.2.2
  have B9l := B9.1
  have B9u := B9.2.1
  have B9v := B9.2.2
  go_wp2_with fail
  refine (hd_get2 _ _ _ (X1.keep (by repeat (first | exact Below.refl _ _ | apply Below.drew | apply below_drewN | refine Below.alloc ?_ (by simp) _)))).mono ?_
  rintro e w8 ⟨rfl, hb⟩
  have B13 := Box.new hb
  have hB : Below w7.heap.size w7 w8 := Below.trans (by repeat (first | exact Below.refl _ _ | apply Below.drew | apply below_drewN | refine Below.alloc ?_ (by simp) _)) (hb.mono (by simp))
  clear hb
  clear B1l B1u B1v
  clear B3l B3u B3v
  clear B9l B9u B9v
  replace B1 := B1.keep hB
  replace B3 := B3.keep hB
  replace B9 := B9.keep hB
  replace X1 := X1.keep hB
  replace X3 := X3.keep hB
  replace X9 := X9.keep hB
  replace X13 := X13.keep hB
  replace hw := hw.trans (hB.mono hw.size)
  clear hB
  have B1l := B1.1
  have B1u := B1.2.1
  have B1v := B1.2.2
  have B3l := B3.1
  have B3u := B3.2.1
  have B3v := B3.2.2
  have B9l := B9.1
  have B9u := B9.2.1
  have B9v := B9.2.2
  have B13l := B13.1
  have B13u := B13.2.1
  have B13v := B13.2.2
  have hc0 : w8.cell? ⟨bb, off, none⟩ = some (.int .u64 5) := by
    obtain ⟨b2, off2, e, _, hc⟩ := X1 (by decide)
    cases e
    exact hc 0 (by decide)
  go_wp2_with fail
  refine (hd_same _ _ _ _ _ (X13.keep (by repeat (first | exact Below.refl _ _ | apply Below.drew | apply below_drewN | refine Below.alloc ?_ (by simp) _))) (X1.keep (by repeat (first | exact Below.refl _ _ | apply Below.drew | apply below_drewN | refine Below.alloc ?_ (by simp) _)))).mono ?_
  rintro e w9 ⟨rfl, hb⟩
  have hB : Below w8.heap.size w8 w9 := Below.trans (by repeat (first | exact Below.refl _ _ | apply Below.drew | apply below_drewN | refine Below.alloc ?_ (by simp) _)) (hb.mono (by simp))
  clear hb
  clear B1l B1u B1v
  clear B3l B3u B3v
  clear B9l B9u B9v
  clear B13l B13u B13v
  replace B1 := B1.keep hB
  replace B3 := B3.keep hB
  replace B9 := B9.keep hB
  replace B13 := B13.keep hB
  replace X1 := X1.keep hB
  replace X3 := X3.keep hB
  replace X9 := X9.keep hB
  replace X13 := X13.keep hB
  replace hw := hw.trans (hB.mono hw.size)
  clear hB
  have B1l := B1.1
  have B1u := B1.2.1
  have B1v := B1.2.2
  have B3l := B3.1
  have B3u := B3.2.1
  have B3v := B3.2.2
  have B9l := B9.1
  have B9u := B9.2.1
  have B9v := B9.2.2
  have B13l := B13.1
  have B13u := B13.2.1
  have B13v := B13.2.2
  go_wp2_with fail
  refine (hd_check6 _ _ _ (X9.keep (by repeat (first | exact Below.refl _ _ | apply Below.drew | apply below_drewN | refine Below.alloc ?_ (by simp) _)))).mono ?_
  rintro e w10 ⟨rfl, hb⟩
  have hB : Below w9.heap.size w9 w10 := Below.trans (by repeat (first | exact Below.refl _ _ | apply Below.drew | apply below_drewN | refine Below.alloc ?_ (by simp) _)) (hb.mono (by simp))
  clear hb
  clear B1l B1u B1v
  clear B3l B3u B3v
  clear B9l B9u B9v
  clear B13l B13u B13v
  replace B1 := B1.keep hB
  replace B3 := B3.keep hB
  replace B9 := B9.keep hB
  replace B13 := B13.keep hB
  replace X1 := X1.keep hB
  replace X3 := X3.keep hB
  replace X9 := X9.keep hB
  replace X13 := X13.keep hB
  replace hw := hw.trans (hB.mono hw.size)
  clear hB
  have B1l := B1.1
  have B1u := B1.2.1
  have B1v := B1.2.2
  have B3l := B3.1
  have B3u := B3.2.1
  have B3v := B3.2.2
  have B9l := B9.1
  have B9u := B9.2.1
  have B9v := B9.2.2
  have B13l := B13.1
  have B13u := B13.2.1
  have B13v := B13.2.2
  go_wp2_with fail
  refine (hd_check1 _).mono ?_
  rintro e w11 ⟨rfl, hb⟩
  have hB : Below w10.heap.size w10 w11 := Below.trans (by repeat (first | exact Below.refl _ _ | apply Below.drew | apply below_drewN | refine Below.alloc ?_ (by simp) _)) (hb.mono (by simp))
  clear hb
  clear B1l B1u B1v
  clear B3l B3u B3v
  clear B9l B9u B9v
  clear B13l B13u B13v
  replace B1 := B1.keep hB
  replace B3 := B3.keep hB
  replace B9 := B9.keep hB
  replace B13 := B13.keep hB
  replace X1 := X1.keep hB
  replace X3 := X3.keep hB
  replace X9 := X9.keep hB
  replace X13 := X13.keep hB
  replace hw := hw.trans (hB.mono hw.size)
  clear hB
  have B1l := B1.1
  have B1u := B1.2.1
  have B1v := B1.2.2
  have B3l := B3.1
  have B3u := B3.2.1
  have B3v := B3.2.2
  have B9l := B9.1
  have B9u := B9.2.1
  have B9v := B9.2.2
  have B13l := B13.1
  have B13u := B13.2.1
  have B13v := B13.2.2
  go_wp2_with fail
  refine (hd_ones _ _ _ (X1.keep (by repeat (first | exact Below.refl _ _ | apply Below.drew | apply below_drewN | refine Below.alloc ?_ (by simp) _))) c1).mono ?_
  rintro e w12 ⟨rfl, hb⟩
  have hB : Below w11.heap.size w11 w12 := Below.trans (by repeat (first | exact Below.refl _ _ | apply Below.drew | apply below_drewN | refine Below.alloc ?_ (by simp) _)) (hb.mono (by simp))
  clear hb
  clear B1l B1u B1v
  clear B3l B3u B3v
  clear B9l B9u B9v
  clear B13l B13u B13v
  replace B1 := B1.keep hB
  replace B3 := B3.keep hB
  replace B9 := B9.keep hB
  replace B13 := B13.keep hB
  replace X1 := X1.keep hB
  replace X3 := X3.keep hB
  replace X9 := X9.keep hB
  replace X13 := X13.keep hB
  replace hw := hw.trans (hB.mono hw.size)
  clear hB
  have B1l := B1.1
  have B1u := B1.2.1
  have B1v := B1.2.2
  have B3l := B3.1
  have B3u := B3.2.1
  have B3v := B3.2.2
  have B9l := B9.1
  have B9u := B9.2.1
  have B9v := B9.2.2
  have B13l := B13.1
  have B13u := B13.2.1
  have B13v := B13.2.2
  go_wp2
  go_ret
  exact ⟨rfl, hw⟩
end Go.Proofs.Ytjilehaokignoaa
