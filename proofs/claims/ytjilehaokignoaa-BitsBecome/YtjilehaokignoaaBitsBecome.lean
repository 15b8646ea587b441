/-
  For all rows of bits, right or not, and all numbers: Set, Append and Join make what the document says, and what is handed in stays (P2.2). No condition.
-/
import Derived.Test.YtjilehaokignoaaHeads
import Derived.Test.YtjilehaokignoaaOpen
import Derived.Test.YtjilehaokignoaaRefApp2
import Derived.Test.YtjilehaokignoaaRefJoin
import Derived.Deep.DeepCutAuto
import Derived.Deep.RegionHeld3
import Derived.ChangeOld
namespace Go.Proofs.Ytjilehaokignoaa.bitsBecome
open Go.ChangeShapes Go.WideShapes Go.ChangeAt Go.RowKit Num Bit
set_option linter.unusedVariables false
set_option maxRecDepth 100000

theorem setL_len (N : Int) (xs : List Nat) (i : Int) (x : Bool) (h : xs.length ≤ 1048576) : (setL N xs i x).length ≤ 1048576 := by
  unfold setL
  split
  · rename_i hE
    obtain ⟨hk, _, _⟩ := getE_zero N xs i hE
    obtain ⟨a, b, _, _⟩ := chk_out N xs hk
    rw [length_rowOf]; omega
  · exact h
theorem appL_len (N : Int) (xs : List Nat) (y : Nat) (n : Int) (h : xs.length ≤ 1048576) : (appL N xs y n).length ≤ 1048576 := by
  unfold appL
  split
  · rename_i hE
    unfold appE at hE
    split at hE
    · omega
    · rw [length_rowOf]; omega
  · exact h
theorem joinL_len (N : Int) (xs : List Nat) (M : Int) (ys : List Nat) (h : xs.length ≤ 1048576) : (joinL N xs M ys).length ≤ 1048576 := by
  unfold joinL
  split
  · rename_i hE
    unfold joinE at hE
    split at hE
    · omega
    · rw [length_rowOf]; omega
  · exact h

set_option maxHeartbeats 40000000 in
theorem walk (w : World) (Nb : Int) (ab : Option Addr) (xb : List Nat) (cb : Nat) (hbN : -9223372036854775808 ≤ Nb ∧ Nb ≤ 9223372036854775807) (Xb : Wd w ab xb) (Fb : Fit xb) (Cb : xb.length ≤ cb) (Nc : Int) (ac : Option Addr) (xc : List Nat) (cc : Nat) (hcN : -9223372036854775808 ≤ Nc ∧ Nc ≤ 9223372036854775807) (Xc : Wd w ac xc) (Fc : Fit xc) (Cc : xc.length ≤ cc) (i : Int) (hi : -9223372036854775808 ≤ i ∧ i ≤ 9223372036854775807) (x : Int) (hx : 0 ≤ x ∧ x < 18446744073709551616) (n : Int) (hn : -9223372036854775808 ≤ n ∧ n ≤ 9223372036854775807) :
    Calls Try.prog 3 #[.agg #[.int .i64 Nb, .slice ab xb.length cb], .agg #[.int .i64 Nc, .slice ac xc.length cc], .int .i64 i, .int .u64 x, .int .i64 n] w fun e w' => e = .returned (.bool true) ∧ Below w.heap.size w w' := by
  obtain ⟨hi1, hi2⟩ := hi
  obtain ⟨hn1, hn2⟩ := hn
  obtain ⟨u, rfl⟩ := Int.eq_ofNat_of_zero_le hx.1
  have hu : Hid (u < 18446744073709551616) := by unfold Hid; omega
  clear hx
  by_cases s1 : Nb ≤ 5000 ∧ (xb.length : Int) ≤ 5000
  case neg =>
    by_cases sa : Nb ≤ 5000
    case neg =>
      have s1' : decide (Nb ≤ 5000) = false := by simpa using sa
      go_enter Try.func3, Try.ntmps3
      have hw : Below w.heap.size w w := Below.refl _ _
      go_wp2_with fail
      refine (small_c _ _ _ _ _).mono ?_
      rintro e w1 ⟨rfl, hb⟩
      obtain ⟨B0, B1⟩ := Box.new2 hb
      have hB : Below w.heap.size w w1 := Below.trans (by repeat (first | exact Below.refl _ _ | apply Below.drew | apply below_drewN | refine Below.alloc ?_ (by simp) _)) (hb.mono (by first | (simp; done) | (simp; omega)))
      clear hb
      replace Xb := Xb.keep hB
      replace Xc := Xc.keep hB
      replace hw := hw.trans (hB.mono hw.size)
      clear hB
      have B0l := B0.1
      have B0u := B0.2.1
      have B0v := B0.2.2
      have B1l := B1.1
      have B1u := B1.2.1
      have B1v := B1.2.2
      go_wp2_with fail
      refine (heads_c _).mono ?_
      rintro e w2 ⟨rfl, hb⟩
      have hB : Below w1.heap.size w1 w2 := Below.trans (by repeat (first | exact Below.refl _ _ | apply Below.drew | apply below_drewN | refine Below.alloc ?_ (by simp) _)) (hb.mono (by first | (simp; done) | (simp; omega)))
      clear hb
      clear B0l B0u B0v
      clear B1l B1u B1v
      replace B0 := B0.keep hB
      replace B1 := B1.keep hB
      replace Xb := Xb.keep hB
      replace Xc := Xc.keep hB
      replace hw := hw.trans (hB.mono hw.size)
      clear hB
      have B0l := B0.1
      have B0u := B0.2.1
      have B0v := B0.2.2
      have B1l := B1.1
      have B1u := B1.2.1
      have B1v := B1.2.2
      go_wp2
      go_ret
      exact ⟨rfl, hw⟩
    have s1' : decide (Nb ≤ 5000) = true := by simpa using sa
    have s2' : decide ((xb.length : Int) ≤ 5000) = false := by simp; omega
    go_enter Try.func3, Try.ntmps3
    have hw : Below w.heap.size w w := Below.refl _ _
    go_wp2_with fail
    refine (small_c _ _ _ _ _).mono ?_
    rintro e w1 ⟨rfl, hb⟩
    obtain ⟨B0, B1⟩ := Box.new2 hb
    have hB : Below w.heap.size w w1 := Below.trans (by repeat (first | exact Below.refl _ _ | apply Below.drew | apply below_drewN | refine Below.alloc ?_ (by simp) _)) (hb.mono (by first | (simp; done) | (simp; omega)))
    clear hb
    replace Xb := Xb.keep hB
    replace Xc := Xc.keep hB
    replace hw := hw.trans (hB.mono hw.size)
    clear hB
    have B0l := B0.1
    have B0u := B0.2.1
    have B0v := B0.2.2
    have B1l := B1.1
    have B1u := B1.2.1
    have B1v := B1.2.2
    go_wp2_with fail
    refine (heads_c _).mono ?_
    rintro e w2 ⟨rfl, hb⟩
    have hB : Below w1.heap.size w1 w2 := Below.trans (by repeat (first | exact Below.refl _ _ | apply Below.drew | apply below_drewN | refine Below.alloc ?_ (by simp) _)) (hb.mono (by first | (simp; done) | (simp; omega)))
    clear hb
    clear B0l B0u B0v
    clear B1l B1u B1v
    replace B0 := B0.keep hB
    replace B1 := B1.keep hB
    replace Xb := Xb.keep hB
    replace Xc := Xc.keep hB
    replace hw := hw.trans (hB.mono hw.size)
    clear hB
    have B0l := B0.1
    have B0u := B0.2.1
    have B0v := B0.2.2
    have B1l := B1.1
    have B1u := B1.2.1
    have B1v := B1.2.2
    go_wp2
    go_ret
    exact ⟨rfl, hw⟩
  obtain ⟨sa, sb⟩ := s1
  have s1' : decide (Nb ≤ 5000) = true := by simpa using sa
  have s2' : decide ((xb.length : Int) ≤ 5000) = true := by simpa using sb
  by_cases s3 : Nc ≤ 5000 ∧ (xc.length : Int) ≤ 5000
  case neg =>
    by_cases sc : Nc ≤ 5000
    case neg =>
      have s3' : decide (Nc ≤ 5000) = false := by simpa using sc
      go_enter Try.func3, Try.ntmps3
      have hw : Below w.heap.size w w := Below.refl _ _
      go_wp2_with fail
      refine (small_c _ _ _ _ _).mono ?_
      rintro e w1 ⟨rfl, hb⟩
      obtain ⟨B0, B1⟩ := Box.new2 hb
      have hB : Below w.heap.size w w1 := Below.trans (by repeat (first | exact Below.refl _ _ | apply Below.drew | apply below_drewN | refine Below.alloc ?_ (by simp) _)) (hb.mono (by first | (simp; done) | (simp; omega)))
      clear hb
      replace Xb := Xb.keep hB
      replace Xc := Xc.keep hB
      replace hw := hw.trans (hB.mono hw.size)
      clear hB
      have B0l := B0.1
      have B0u := B0.2.1
      have B0v := B0.2.2
      have B1l := B1.1
      have B1u := B1.2.1
      have B1v := B1.2.2
      go_wp2_with fail
      refine (small_c _ _ _ _ _).mono ?_
      rintro e w2 ⟨rfl, hb⟩
      have hB : Below w1.heap.size w1 w2 := Below.trans (by repeat (first | exact Below.refl _ _ | apply Below.drew | apply below_drewN | refine Below.alloc ?_ (by simp) _)) (hb.mono (by first | (simp; done) | (simp; omega)))
      clear hb
      clear B0l B0u B0v
      clear B1l B1u B1v
      replace B0 := B0.keep hB
      replace B1 := B1.keep hB
      replace Xb := Xb.keep hB
      replace Xc := Xc.keep hB
      replace hw := hw.trans (hB.mono hw.size)
      clear hB
      have B0l := B0.1
      have B0u := B0.2.1
      have B0v := B0.2.2
      have B1l := B1.1
      have B1u := B1.2.1
      have B1v := B1.2.2
      go_wp2_with fail
      refine (heads_c _).mono ?_
      rintro e w3 ⟨rfl, hb⟩
      have hB : Below w2.heap.size w2 w3 := Below.trans (by repeat (first | exact Below.refl _ _ | apply Below.drew | apply below_drewN | refine Below.alloc ?_ (by simp) _)) (hb.mono (by first | (simp; done) | (simp; omega)))
      clear hb
      clear B0l B0u B0v
      clear B1l B1u B1v
      replace B0 := B0.keep hB
      replace B1 := B1.keep hB
      replace Xb := Xb.keep hB
      replace Xc := Xc.keep hB
      replace hw := hw.trans (hB.mono hw.size)
      clear hB
      have B0l := B0.1
      have B0u := B0.2.1
      have B0v := B0.2.2
      have B1l := B1.1
      have B1u := B1.2.1
      have B1v := B1.2.2
      go_wp2
      go_ret
      exact ⟨rfl, hw⟩
    have s3' : decide (Nc ≤ 5000) = true := by simpa using sc
    have s4' : decide ((xc.length : Int) ≤ 5000) = false := by simp; omega
    go_enter Try.func3, Try.ntmps3
    have hw : Below w.heap.size w w := Below.refl _ _
    go_wp2_with fail
    refine (small_c _ _ _ _ _).mono ?_
    rintro e w1 ⟨rfl, hb⟩
    obtain ⟨B0, B1⟩ := Box.new2 hb
    have hB : Below w.heap.size w w1 := Below.trans (by repeat (first | exact Below.refl _ _ | apply Below.drew | apply below_drewN | refine Below.alloc ?_ (by simp) _)) (hb.mono (by first | (simp; done) | (simp; omega)))
    clear hb
    replace Xb := Xb.keep hB
    replace Xc := Xc.keep hB
    replace hw := hw.trans (hB.mono hw.size)
    clear hB
    have B0l := B0.1
    have B0u := B0.2.1
    have B0v := B0.2.2
    have B1l := B1.1
    have B1u := B1.2.1
    have B1v := B1.2.2
    go_wp2_with fail
    refine (small_c _ _ _ _ _).mono ?_
    rintro e w2 ⟨rfl, hb⟩
    have hB : Below w1.heap.size w1 w2 := Below.trans (by repeat (first | exact Below.refl _ _ | apply Below.drew | apply below_drewN | refine Below.alloc ?_ (by simp) _)) (hb.mono (by first | (simp; done) | (simp; omega)))
    clear hb
    clear B0l B0u B0v
    clear B1l B1u B1v
    replace B0 := B0.keep hB
    replace B1 := B1.keep hB
    replace Xb := Xb.keep hB
    replace Xc := Xc.keep hB
    replace hw := hw.trans (hB.mono hw.size)
    clear hB
    have B0l := B0.1
    have B0u := B0.2.1
    have B0v := B0.2.2
    have B1l := B1.1
    have B1u := B1.2.1
    have B1v := B1.2.2
    go_wp2_with fail
    refine (heads_c _).mono ?_
    rintro e w3 ⟨rfl, hb⟩
    have hB : Below w2.heap.size w2 w3 := Below.trans (by repeat (first | exact Below.refl _ _ | apply Below.drew | apply below_drewN | refine Below.alloc ?_ (by simp) _)) (hb.mono (by first | (simp; done) | (simp; omega)))
    clear hb
    clear B0l B0u B0v
    clear B1l B1u B1v
    replace B0 := B0.keep hB
    replace B1 := B1.keep hB
    replace Xb := Xb.keep hB
    replace Xc := Xc.keep hB
    replace hw := hw.trans (hB.mono hw.size)
    clear hB
    have B0l := B0.1
    have B0u := B0.2.1
    have B0v := B0.2.2
    have B1l := B1.1
    have B1u := B1.2.1
    have B1v := B1.2.2
    go_wp2
    go_ret
    exact ⟨rfl, hw⟩
  obtain ⟨sc, sd⟩ := s3
  have s3' : decide (Nc ≤ 5000) = true := by simpa using sc
  have s4' : decide ((xc.length : Int) ≤ 5000) = true := by simpa using sd
  have hlb : xb.length ≤ 1048576 := by omega
  have LS : Hid ((setL Nb xb i ((u : Int).tmod 2 == 1)).length ≤ 1048576) := setL_len _ _ _ _ hlb
  have LA : Hid ((appL Nb xb u n).length ≤ 1048576) := appL_len _ _ _ _ hlb
  have LJ : Hid ((joinL Nb xb Nc xc).length ≤ 1048576) := joinL_len _ _ _ _ hlb
  obtain ⟨i0, hi, hz0, hz1, hz2⟩ := info_parts Try.info25
  go_enter Try.func3, Try.ntmps3
  have hw : Below w.heap.size w w := Below.refl _ _
  go_wp2_with fail
  refine (small_c _ _ _ _ _).mono ?_
  rintro e w1 ⟨rfl, hb⟩
  obtain ⟨B0, B1⟩ := Box.new2 hb
  have hB : Below w.heap.size w w1 := Below.trans (by repeat (first | exact Below.refl _ _ | apply Below.drew | apply below_drewN | refine Below.alloc ?_ (by simp) _)) (hb.mono (by first | (simp; done) | (simp; omega)))
  clear hb
  replace Xb := Xb.keep hB
  replace Xc := Xc.keep hB
  replace hw := hw.trans (hB.mono hw.size)
  clear hB
  have B0l := B0.1
  have B0u := B0.2.1
  have B0v := B0.2.2
  have B1l := B1.1
  have B1u := B1.2.1
  have B1v := B1.2.2
  go_wp2_with fail
  refine (small_c _ _ _ _ _).mono ?_
  rintro e w2 ⟨rfl, hb⟩
  have hB : Below w1.heap.size w1 w2 := Below.trans (by repeat (first | exact Below.refl _ _ | apply Below.drew | apply below_drewN | refine Below.alloc ?_ (by simp) _)) (hb.mono (by first | (simp; done) | (simp; omega)))
  clear hb
  clear B0l B0u B0v
  clear B1l B1u B1v
  replace B0 := B0.keep hB
  replace B1 := B1.keep hB
  replace Xb := Xb.keep hB
  replace Xc := Xc.keep hB
  replace hw := hw.trans (hB.mono hw.size)
  clear hB
  have B0l := B0.1
  have B0u := B0.2.1
  have B0v := B0.2.2
  have B1l := B1.1
  have B1u := B1.2.1
  have B1v := B1.2.2
  have hx1 : Wd w2 ab xb := Xb
  have hz := B1.1
  have hz0' := B0.1
  have k0 := B0.2.1
  have k1 := B0.2.2
  have k2 := B1.2.1
  have k3 := B1.2.2
  have k4 : True := trivial
  have k5 : True := trivial
  clear B0l B0u B0v B1l B1u B1v
  have ne1 : ¬ w.heap.size = w2.heap.size := by omega
  have ne2 : ¬ w.heap.size = w2.heap.size + 1 := by omega
  go_upto_region 3 with fail
  go_cut [11] (fun t wx => ∃ T co cc, t = .pointer (some ⟨T, 0, none⟩) ∧ Box wx T (.int .i64 Nb) (.slice co xb.length cc) ∧ Wd wx co xb ∧ xb.length ≤ cc ∧ Below w2.heap.size w2 wx)
  case first =>
    clear hi1 hi2 hn1 hn2 hbN hcN LS LA LJ hu s1' s2' s3' s4' sa sc
    go_region_held3 (fun w' => w'.cell? ⟨w.heap.size, 0, none⟩ = some (.int .i64 Nb) ∧ w'.cell? ⟨w.heap.size, 1, none⟩ = some (.slice ab xb.length cb)) (first | exact ⟨set2_cell q0 (by omega), set2_cell q1 (by omega)⟩ | exact ⟨old_alloc q0 ne4, old_alloc q1 ne4⟩ | exact ⟨q0, q1⟩ | go_keep)
      (first | (refine step_append_u (w := (w2.alloc (.cells #[] 25)).drew) (by rfl) _ _ _ (by rfl) w2.heap.size 25 i0 (.int .u64 0) 8 Try.underlying22 hi hz0 hz1 hz2 rfl (.slice (some ⟨w2.heap.size, 0, none⟩) 0 0) 0 [] (by rfl) (owns_empty w2 w2.heap.size (Nat.le_refl _)) ab xb.length cb (wv xb) (by rfl) (length_wv xb) (src_wd (hx1.keep (show Below w2.heap.size w2 (w2.alloc (.cells #[] 25)).drew by repeat (first | exact Below.refl _ _ | apply Below.drew | refine Below.alloc ?_ (by simp) _)))) (one_wv xb) (by unfold maxLen; omega) (by omega) (by show w2.heap.size ≤ (w2.alloc (.cells #[] 25)).heap.size; first | (simp; done) | (simp; omega)) ?_; intro co cc w9 hown hcc hB0 hblk hkeep hsz; rw [Nat.zero_add, List.nil_append] at hown; rw [Nat.zero_add] at hcc hblk; have hB : Below w2.heap.size w2 w9 := Below.trans (show Below w2.heap.size w2 (w2.alloc (.cells #[] 25)).drew by repeat (first | exact Below.refl _ _ | apply Below.drew | refine Below.alloc ?_ (by simp) _)) hB0; have tn : ∀ k, (Value.slice co xb.length cc).ownBlock = some k → k < w9.heap.size := (fun k hk => (hblk k hk).2); have q0 := (hB.cell (p := ⟨w.heap.size, 0, none⟩) hz0').trans k0; have q1 := (hB.cell (p := ⟨w.heap.size, 1, none⟩) hz0').trans k1; have q2 := (hB.cell (p := ⟨w.heap.size + 1, 0, none⟩) hz).trans k2; have q3 := (hB.cell (p := ⟨w.heap.size + 1, 1, none⟩) hz).trans k3; have hw9 := hw.trans (hB.mono (by omega)); have sz9 := hB.size; have ne3 : ¬ w.heap.size = w9.heap.size := (by omega); have ne4 : w.heap.size < w9.heap.size := (by omega); clear hkeep hblk hsz hB0) | (refine step_append_u (w := ((w2.alloc (.cells #[] 25)).alloc (.cells #[.int .i64 0, .slice none 0 0] 24)).drew) (by rfl) _ _ _ (by rfl) w2.heap.size 25 i0 (.int .u64 0) 8 Try.underlying22 hi hz0 hz1 hz2 rfl (.slice (some ⟨w2.heap.size, 0, none⟩) 0 0) 0 [] (by rfl) ((owns_empty w2 w2.heap.size (Nat.le_refl _)).alloc _) ab xb.length cb (wv xb) (by rfl) (length_wv xb) (src_wd (hx1.keep (show Below w2.heap.size w2 ((w2.alloc (.cells #[] 25)).alloc (.cells #[.int .i64 0, .slice none 0 0] 24)).drew by repeat (first | exact Below.refl _ _ | apply Below.drew | refine Below.alloc ?_ (by simp) _)))) (one_wv xb) (by unfold maxLen; omega) (by omega) (by show w2.heap.size ≤ ((w2.alloc (.cells #[] 25)).alloc (.cells #[.int .i64 0, .slice none 0 0] 24)).heap.size; first | (simp; done) | (simp; omega)) ?_; intro co cc w9 hown hcc hB0 hblk hkeep hsz; rw [Nat.zero_add, List.nil_append] at hown; rw [Nat.zero_add] at hcc hblk; have hB : Below w2.heap.size w2 w9 := Below.trans (show Below w2.heap.size w2 ((w2.alloc (.cells #[] 25)).alloc (.cells #[.int .i64 0, .slice none 0 0] 24)).drew by repeat (first | exact Below.refl _ _ | apply Below.drew | refine Below.alloc ?_ (by simp) _)) hB0; have t0 : w9.cell? ⟨w2.heap.size + 1, 0, none⟩ = some (.int .i64 0) := (World.cell?_of_block (w := ((w2.alloc (.cells #[] 25)).alloc (.cells #[.int .i64 0, .slice none 0 0] 24)).drew) (hkeep (w2.heap.size + 1) (by first | (simp; done) | (simp; omega)) (by simp [Value.ownBlock]))).trans (by simp); have t1 : w9.cell? ⟨w2.heap.size + 1, 1, none⟩ = some (.slice none 0 0) := (World.cell?_of_block (w := ((w2.alloc (.cells #[] 25)).alloc (.cells #[.int .i64 0, .slice none 0 0] 24)).drew) (hkeep (w2.heap.size + 1) (by first | (simp; done) | (simp; omega)) (by simp [Value.ownBlock]))).trans (by simp); have t2 : w9.frozen? ⟨w2.heap.size + 1, 0, none⟩ = false := (World.frozen?_of_block (w := ((w2.alloc (.cells #[] 25)).alloc (.cells #[.int .i64 0, .slice none 0 0] 24)).drew) (hkeep (w2.heap.size + 1) (by first | (simp; done) | (simp; omega)) (by simp [Value.ownBlock]))).trans (by simp); have t3 : w9.frozen? ⟨w2.heap.size + 1, 1, none⟩ = false := (World.frozen?_of_block (w := ((w2.alloc (.cells #[] 25)).alloc (.cells #[.int .i64 0, .slice none 0 0] 24)).drew) (hkeep (w2.heap.size + 1) (by first | (simp; done) | (simp; omega)) (by simp [Value.ownBlock]))).trans (by simp); have tl : w2.heap.size + 1 < w9.heap.size := Nat.lt_of_lt_of_le (show w2.heap.size + 1 < ((w2.alloc (.cells #[] 25)).alloc (.cells #[.int .i64 0, .slice none 0 0] 24)).drew.heap.size by first | (simp; done) | (simp; omega)) hsz; have tn : ∀ k, (Value.slice co xb.length cc).ownBlock = some k → k ≠ w2.heap.size + 1 := (fun k hk => by have h := (hblk k hk).1; simp [Value.ownBlock] at h; omega); have q0 := (hB.cell (p := ⟨w.heap.size, 0, none⟩) hz0').trans k0; have q1 := (hB.cell (p := ⟨w.heap.size, 1, none⟩) hz0').trans k1; have q2 := (hB.cell (p := ⟨w.heap.size + 1, 0, none⟩) hz).trans k2; have q3 := (hB.cell (p := ⟨w.heap.size + 1, 1, none⟩) hz).trans k3; have hw9 := hw.trans (hB.mono (by omega)); have sz9 := hB.size; have ne3 : ¬ w.heap.size = w9.heap.size := (by omega); have ne4 : w.heap.size < w9.heap.size := (by omega); clear hkeep hblk hsz hB0) | (refine step_append_u (w := ((w2.alloc (.cells #[.int .i64 0, .slice none 0 0] 24)).alloc (.cells #[] 25)).drew) (by rfl) _ _ _ (by rfl) w2.heap.size 25 i0 (.int .u64 0) 8 Try.underlying22 hi hz0 hz1 hz2 rfl (.slice (some ⟨w2.heap.size + 1, 0, none⟩) 0 0) 0 [] (by rfl) (owns_empty2 w2 (.cells #[.int .i64 0, .slice none 0 0] 24) w2.heap.size (Nat.le_succ _)) ab xb.length cb (wv xb) (by rfl) (length_wv xb) (src_wd (hx1.keep (show Below w2.heap.size w2 ((w2.alloc (.cells #[.int .i64 0, .slice none 0 0] 24)).alloc (.cells #[] 25)).drew by repeat (first | exact Below.refl _ _ | apply Below.drew | refine Below.alloc ?_ (by simp) _)))) (one_wv xb) (by unfold maxLen; omega) (by omega) (by show w2.heap.size ≤ ((w2.alloc (.cells #[.int .i64 0, .slice none 0 0] 24)).alloc (.cells #[] 25)).heap.size; first | (simp; done) | (simp; omega)) ?_; intro co cc w9 hown hcc hB0 hblk hkeep hsz; rw [Nat.zero_add, List.nil_append] at hown; rw [Nat.zero_add] at hcc hblk; have hB : Below w2.heap.size w2 w9 := Below.trans (show Below w2.heap.size w2 ((w2.alloc (.cells #[.int .i64 0, .slice none 0 0] 24)).alloc (.cells #[] 25)).drew by repeat (first | exact Below.refl _ _ | apply Below.drew | refine Below.alloc ?_ (by simp) _)) hB0; have t0 : w9.cell? ⟨w2.heap.size, 0, none⟩ = some (.int .i64 0) := (World.cell?_of_block (w := ((w2.alloc (.cells #[.int .i64 0, .slice none 0 0] 24)).alloc (.cells #[] 25)).drew) (hkeep (w2.heap.size) (by first | (simp; done) | (simp; omega)) (by simp [Value.ownBlock]))).trans (by simp); have t1 : w9.cell? ⟨w2.heap.size, 1, none⟩ = some (.slice none 0 0) := (World.cell?_of_block (w := ((w2.alloc (.cells #[.int .i64 0, .slice none 0 0] 24)).alloc (.cells #[] 25)).drew) (hkeep (w2.heap.size) (by first | (simp; done) | (simp; omega)) (by simp [Value.ownBlock]))).trans (by simp); have t2 : w9.frozen? ⟨w2.heap.size, 0, none⟩ = false := (World.frozen?_of_block (w := ((w2.alloc (.cells #[.int .i64 0, .slice none 0 0] 24)).alloc (.cells #[] 25)).drew) (hkeep (w2.heap.size) (by first | (simp; done) | (simp; omega)) (by simp [Value.ownBlock]))).trans (by simp); have t3 : w9.frozen? ⟨w2.heap.size, 1, none⟩ = false := (World.frozen?_of_block (w := ((w2.alloc (.cells #[.int .i64 0, .slice none 0 0] 24)).alloc (.cells #[] 25)).drew) (hkeep (w2.heap.size) (by first | (simp; done) | (simp; omega)) (by simp [Value.ownBlock]))).trans (by simp); have tl : w2.heap.size < w9.heap.size := Nat.lt_of_lt_of_le (show w2.heap.size < ((w2.alloc (.cells #[.int .i64 0, .slice none 0 0] 24)).alloc (.cells #[] 25)).drew.heap.size by first | (simp; done) | (simp; omega)) hsz; have tn : ∀ k, (Value.slice co xb.length cc).ownBlock = some k → k ≠ w2.heap.size := (fun k hk => by have h := (hblk k hk).1; simp [Value.ownBlock] at h; omega); have q0 := (hB.cell (p := ⟨w.heap.size, 0, none⟩) hz0').trans k0; have q1 := (hB.cell (p := ⟨w.heap.size, 1, none⟩) hz0').trans k1; have q2 := (hB.cell (p := ⟨w.heap.size + 1, 0, none⟩) hz).trans k2; have q3 := (hB.cell (p := ⟨w.heap.size + 1, 1, none⟩) hz).trans k3; have hw9 := hw.trans (hB.mono (by omega)); have sz9 := hB.size; have ne3 : ¬ w.heap.size = w9.heap.size := (by omega); have ne4 : w.heap.size < w9.heap.size := (by omega); clear hkeep hblk hsz hB0))
    · have bw := below_alloc w9 (.cells #[.int .i64 Nb, .slice co xb.length cc] 24)
      clear k4 k5
      have HOW : Hid (w9.ownsRow _ _ _ _ _ _) := hown
      clear hown
      go_wp2
      go_meet
      exact ⟨w9.heap.size, co, cc, rfl, ⟨by simp, by simp, by simp⟩, wd_owns (HOW.out.alloc _), hcc, hB.trans (bw.mono hB.size)⟩
    · have tt := ((Turned.refl (w2.heap.size + 1) w9).set 0 (.int .i64 Nb)).set 1 (.slice co xb.length cc)
      have v0 : ((w9.setCell ⟨w2.heap.size + 1, 0, none⟩ (.int .i64 Nb)).setCell ⟨w2.heap.size + 1, 1, none⟩ (.slice co xb.length cc)).cell? ⟨w2.heap.size + 1, 0, none⟩ = some (.int .i64 Nb) := by simp [go_sem, t0]
      have v1 : ((w9.setCell ⟨w2.heap.size + 1, 0, none⟩ (.int .i64 Nb)).setCell ⟨w2.heap.size + 1, 1, none⟩ (.slice co xb.length cc)).cell? ⟨w2.heap.size + 1, 1, none⟩ = some (.slice co xb.length cc) := by simp [go_sem, t1]
      clear k4 k5
      have HOW : Hid (w9.ownsRow _ _ _ _ _ _) := hown
      clear hown
      go_wp2
      go_meet
      exact ⟨w2.heap.size + 1, co, cc, rfl, ⟨by rw [tt.size]; exact tl, v0, v1⟩, wd_owns (owns_turned HOW.out tt tn), hcc, hB.trans (tt.below (B := w2.heap.size) (by omega))⟩
    · have tt := ((Turned.refl (w2.heap.size) w9).set 0 (.int .i64 Nb)).set 1 (.slice co xb.length cc)
      have v0 : ((w9.setCell ⟨w2.heap.size, 0, none⟩ (.int .i64 Nb)).setCell ⟨w2.heap.size, 1, none⟩ (.slice co xb.length cc)).cell? ⟨w2.heap.size, 0, none⟩ = some (.int .i64 Nb) := by simp [go_sem, t0]
      have v1 : ((w9.setCell ⟨w2.heap.size, 0, none⟩ (.int .i64 Nb)).setCell ⟨w2.heap.size, 1, none⟩ (.slice co xb.length cc)).cell? ⟨w2.heap.size, 1, none⟩ = some (.slice co xb.length cc) := by simp [go_sem, t1]
      clear k4 k5
      have HOW : Hid (w9.ownsRow _ _ _ _ _ _) := hown
      clear hown
      go_wp2
      go_meet
      exact ⟨w2.heap.size, co, cc, rfl, ⟨by rw [tt.size]; exact tl, v0, v1⟩, wd_owns (owns_turned HOW.out tt tn), hcc, hB.trans (tt.below (B := w2.heap.size) (by omega))⟩
  case rest =>
    obtain ⟨T, oo, oc, rfl, Bo, Xo, Co, hwc⟩ := hcut
    clear hx1 hz hz0' k0 k1 k2 k3 k4 k5 ne1 ne2 hi hz0 hz1 hz2
    replace B0 := B0.keep hwc
    replace B1 := B1.keep hwc
    replace Xb := Xb.keep hwc
    replace Xc := Xc.keep hwc
    replace hw := hw.trans (hwc.mono hw.size)
    clear hwc
    have B0l := B0.1
    have B0u := B0.2.1
    have B0v := B0.2.2
    have B1l := B1.1
    have B1u := B1.2.1
    have B1v := B1.2.2
    have Bol := Bo.1
    have Bou := Bo.2.1
    have Bov := Bo.2.2
    go_wp2_with fail
    refine (set_c _ _ _ _ _ _ _ (Xo.keep (by repeat (first | exact Below.refl _ _ | apply Below.drew | apply below_drewN | refine Below.alloc ?_ (by simp) _))) Fb hlb).mono ?_
    rintro e w51 ⟨so, sc_, rfl, Xs, _, _, hb⟩
    have hB : Below wc.heap.size wc w51 := Below.trans (by repeat (first | exact Below.refl _ _ | apply Below.drew | apply below_drewN | refine Below.alloc ?_ (by simp) _)) (hb.mono (by first | (simp; done) | (simp; omega)))
    clear hb
    clear B0l B0u B0v
    clear B1l B1u B1v
    clear Bol Bou Bov
    replace B0 := B0.keep hB
    replace B1 := B1.keep hB
    replace Bo := Bo.keep hB
    replace Xb := Xb.keep hB
    replace Xc := Xc.keep hB
    replace Xo := Xo.keep hB
    replace hw := hw.trans (hB.mono hw.size)
    clear hB
    have B0l := B0.1
    have B0u := B0.2.1
    have B0v := B0.2.2
    have B1l := B1.1
    have B1u := B1.2.1
    have B1v := B1.2.2
    have Bol := Bo.1
    have Bou := Bo.2.1
    have Bov := Bo.2.2
    go_wp2_with fail
    refine (refset_c _ _ _ _ _ _ _ (Xb.keep (by repeat (first | exact Below.refl _ _ | apply Below.drew | apply below_drewN | refine Below.alloc ?_ (by simp) _))) Fb Cb).mono ?_
    rintro e w52 ⟨fo, fc, rfl, Xf, _, _, hb⟩
    have Bs := Box.new hb
    have hB : Below w51.heap.size w51 w52 := Below.trans (by repeat (first | exact Below.refl _ _ | apply Below.drew | apply below_drewN | refine Below.alloc ?_ (by simp) _)) (hb.mono (by first | (simp; done) | (simp; omega)))
    clear hb
    clear B0l B0u B0v
    clear B1l B1u B1v
    clear Bol Bou Bov
    replace B0 := B0.keep hB
    replace B1 := B1.keep hB
    replace Bo := Bo.keep hB
    replace Xb := Xb.keep hB
    replace Xc := Xc.keep hB
    replace Xo := Xo.keep hB
    replace Xs := Xs.keep hB
    replace hw := hw.trans (hB.mono hw.size)
    clear hB
    have B0l := B0.1
    have B0u := B0.2.1
    have B0v := B0.2.2
    have B1l := B1.1
    have B1u := B1.2.1
    have B1v := B1.2.2
    have Bol := Bo.1
    have Bou := Bo.2.1
    have Bov := Bo.2.2
    have Bsl := Bs.1
    have Bsu := Bs.2.1
    have Bsv := Bs.2.2
    go_wp2_with fail
    refine (app_c _ _ _ _ _ _ _ (Xo.keep (by repeat (first | exact Below.refl _ _ | apply Below.drew | apply below_drewN | refine Below.alloc ?_ (by simp) _))) Fb hu.out hlb).mono ?_
    rintro e w53 ⟨ho, hc, rfl, Xh, _, _, hb⟩
    have Bf := Box.new hb
    have hB : Below w52.heap.size w52 w53 := Below.trans (by repeat (first | exact Below.refl _ _ | apply Below.drew | apply below_drewN | refine Below.alloc ?_ (by simp) _)) (hb.mono (by first | (simp; done) | (simp; omega)))
    clear hb
    clear B0l B0u B0v
    clear B1l B1u B1v
    clear Bol Bou Bov
    clear Bsl Bsu Bsv
    replace B0 := B0.keep hB
    replace B1 := B1.keep hB
    replace Bo := Bo.keep hB
    replace Bs := Bs.keep hB
    replace Xb := Xb.keep hB
    replace Xc := Xc.keep hB
    replace Xo := Xo.keep hB
    replace Xs := Xs.keep hB
    replace Xf := Xf.keep hB
    replace hw := hw.trans (hB.mono hw.size)
    clear hB
    have B0l := B0.1
    have B0u := B0.2.1
    have B0v := B0.2.2
    have B1l := B1.1
    have B1u := B1.2.1
    have B1v := B1.2.2
    have Bol := Bo.1
    have Bou := Bo.2.1
    have Bov := Bo.2.2
    have Bsl := Bs.1
    have Bsu := Bs.2.1
    have Bsv := Bs.2.2
    have Bfl := Bf.1
    have Bfu := Bf.2.1
    have Bfv := Bf.2.2
    go_wp2_with fail
    refine (refapp_c _ _ _ _ _ _ _ (Xb.keep (by repeat (first | exact Below.refl _ _ | apply Below.drew | apply below_drewN | refine Below.alloc ?_ (by simp) _))) Fb Cb).mono ?_
    rintro e w54 ⟨ko, kc, rfl, Xk, _, _, hb⟩
    have Bh := Box.new hb
    have hB : Below w53.heap.size w53 w54 := Below.trans (by repeat (first | exact Below.refl _ _ | apply Below.drew | apply below_drewN | refine Below.alloc ?_ (by simp) _)) (hb.mono (by first | (simp; done) | (simp; omega)))
    clear hb
    clear B0l B0u B0v
    clear B1l B1u B1v
    clear Bol Bou Bov
    clear Bsl Bsu Bsv
    clear Bfl Bfu Bfv
    replace B0 := B0.keep hB
    replace B1 := B1.keep hB
    replace Bo := Bo.keep hB
    replace Bs := Bs.keep hB
    replace Bf := Bf.keep hB
    replace Xb := Xb.keep hB
    replace Xc := Xc.keep hB
    replace Xo := Xo.keep hB
    replace Xs := Xs.keep hB
    replace Xf := Xf.keep hB
    replace Xh := Xh.keep hB
    replace hw := hw.trans (hB.mono hw.size)
    clear hB
    have B0l := B0.1
    have B0u := B0.2.1
    have B0v := B0.2.2
    have B1l := B1.1
    have B1u := B1.2.1
    have B1v := B1.2.2
    have Bol := Bo.1
    have Bou := Bo.2.1
    have Bov := Bo.2.2
    have Bsl := Bs.1
    have Bsu := Bs.2.1
    have Bsv := Bs.2.2
    have Bfl := Bf.1
    have Bfu := Bf.2.1
    have Bfv := Bf.2.2
    have Bhl := Bh.1
    have Bhu := Bh.2.1
    have Bhv := Bh.2.2
    go_wp2_with fail
    refine (join_c _ _ _ _ _ _ _ _ _ (Xo.keep (by repeat (first | exact Below.refl _ _ | apply Below.drew | apply below_drewN | refine Below.alloc ?_ (by simp) _))) (Xc.keep (by repeat (first | exact Below.refl _ _ | apply Below.drew | apply below_drewN | refine Below.alloc ?_ (by simp) _))) Fb Fc hlb).mono ?_
    rintro e w55 ⟨mo, mc, rfl, Xm, _, _, hb⟩
    have Bk := Box.new hb
    have hB : Below w54.heap.size w54 w55 := Below.trans (by repeat (first | exact Below.refl _ _ | apply Below.drew | apply below_drewN | refine Below.alloc ?_ (by simp) _)) (hb.mono (by first | (simp; done) | (simp; omega)))
    clear hb
    clear B0l B0u B0v
    clear B1l B1u B1v
    clear Bol Bou Bov
    clear Bsl Bsu Bsv
    clear Bfl Bfu Bfv
    clear Bhl Bhu Bhv
    replace B0 := B0.keep hB
    replace B1 := B1.keep hB
    replace Bo := Bo.keep hB
    replace Bs := Bs.keep hB
    replace Bf := Bf.keep hB
    replace Bh := Bh.keep hB
    replace Xb := Xb.keep hB
    replace Xc := Xc.keep hB
    replace Xo := Xo.keep hB
    replace Xs := Xs.keep hB
    replace Xf := Xf.keep hB
    replace Xh := Xh.keep hB
    replace Xk := Xk.keep hB
    replace hw := hw.trans (hB.mono hw.size)
    clear hB
    have B0l := B0.1
    have B0u := B0.2.1
    have B0v := B0.2.2
    have B1l := B1.1
    have B1u := B1.2.1
    have B1v := B1.2.2
    have Bol := Bo.1
    have Bou := Bo.2.1
    have Bov := Bo.2.2
    have Bsl := Bs.1
    have Bsu := Bs.2.1
    have Bsv := Bs.2.2
    have Bfl := Bf.1
    have Bfu := Bf.2.1
    have Bfv := Bf.2.2
    have Bhl := Bh.1
    have Bhu := Bh.2.1
    have Bhv := Bh.2.2
    have Bkl := Bk.1
    have Bku := Bk.2.1
    have Bkv := Bk.2.2
    go_wp2_with fail
    refine (refjoin_c _ _ _ _ _ _ _ _ _ (Xb.keep (by repeat (first | exact Below.refl _ _ | apply Below.drew | apply below_drewN | refine Below.alloc ?_ (by simp) _))) (Xc.keep (by repeat (first | exact Below.refl _ _ | apply Below.drew | apply below_drewN | refine Below.alloc ?_ (by simp) _))) Fb Fc Cb).mono ?_
    rintro e w56 ⟨po, pc, rfl, Xp, _, _, hb⟩
    have Bm := Box.new hb
    have hB : Below w55.heap.size w55 w56 := Below.trans (by repeat (first | exact Below.refl _ _ | apply Below.drew | apply below_drewN | refine Below.alloc ?_ (by simp) _)) (hb.mono (by first | (simp; done) | (simp; omega)))
    clear hb
    clear B0l B0u B0v
    clear B1l B1u B1v
    clear Bol Bou Bov
    clear Bsl Bsu Bsv
    clear Bfl Bfu Bfv
    clear Bhl Bhu Bhv
    clear Bkl Bku Bkv
    replace B0 := B0.keep hB
    replace B1 := B1.keep hB
    replace Bo := Bo.keep hB
    replace Bs := Bs.keep hB
    replace Bf := Bf.keep hB
    replace Bh := Bh.keep hB
    replace Bk := Bk.keep hB
    replace Xb := Xb.keep hB
    replace Xc := Xc.keep hB
    replace Xo := Xo.keep hB
    replace Xs := Xs.keep hB
    replace Xf := Xf.keep hB
    replace Xh := Xh.keep hB
    replace Xk := Xk.keep hB
    replace Xm := Xm.keep hB
    replace hw := hw.trans (hB.mono hw.size)
    clear hB
    have B0l := B0.1
    have B0u := B0.2.1
    have B0v := B0.2.2
    have B1l := B1.1
    have B1u := B1.2.1
    have B1v := B1.2.2
    have Bol := Bo.1
    have Bou := Bo.2.1
    have Bov := Bo.2.2
    have Bsl := Bs.1
    have Bsu := Bs.2.1
    have Bsv := Bs.2.2
    have Bfl := Bf.1
    have Bfu := Bf.2.1
    have Bfv := Bf.2.2
    have Bhl := Bh.1
    have Bhu := Bh.2.1
    have Bhv := Bh.2.2
    have Bkl := Bk.1
    have Bku := Bk.2.1
    have Bkv := Bk.2.2
    have Bml := Bm.1
    have Bmu := Bm.2.1
    have Bmv := Bm.2.2
    go_wp2_with fail
    refine (same_c _ _ _ _ _ _ _ _ _ (Xs.keep (by repeat (first | exact Below.refl _ _ | apply Below.drew | apply below_drewN | refine Below.alloc ?_ (by simp) _))) (Xf.keep (by repeat (first | exact Below.refl _ _ | apply Below.drew | apply below_drewN | refine Below.alloc ?_ (by simp) _))) LS.out).mono ?_
    rintro e w57 ⟨rfl, hb⟩
    have Bp := Box.new hb
    have hB : Below w56.heap.size w56 w57 := Below.trans (by repeat (first | exact Below.refl _ _ | apply Below.drew | apply below_drewN | refine Below.alloc ?_ (by simp) _)) (hb.mono (by first | (simp; done) | (simp; omega)))
    clear hb
    clear B0l B0u B0v
    clear B1l B1u B1v
    clear Bol Bou Bov
    clear Bsl Bsu Bsv
    clear Bfl Bfu Bfv
    clear Bhl Bhu Bhv
    clear Bkl Bku Bkv
    clear Bml Bmu Bmv
    replace B0 := B0.keep hB
    replace B1 := B1.keep hB
    replace Bo := Bo.keep hB
    replace Bs := Bs.keep hB
    replace Bf := Bf.keep hB
    replace Bh := Bh.keep hB
    replace Bk := Bk.keep hB
    replace Bm := Bm.keep hB
    replace Xb := Xb.keep hB
    replace Xc := Xc.keep hB
    replace Xo := Xo.keep hB
    replace Xs := Xs.keep hB
    replace Xf := Xf.keep hB
    replace Xh := Xh.keep hB
    replace Xk := Xk.keep hB
    replace Xm := Xm.keep hB
    replace Xp := Xp.keep hB
    replace hw := hw.trans (hB.mono hw.size)
    clear hB
    have B0l := B0.1
    have B0u := B0.2.1
    have B0v := B0.2.2
    have B1l := B1.1
    have B1u := B1.2.1
    have B1v := B1.2.2
    have Bol := Bo.1
    have Bou := Bo.2.1
    have Bov := Bo.2.2
    have Bsl := Bs.1
    have Bsu := Bs.2.1
    have Bsv := Bs.2.2
    have Bfl := Bf.1
    have Bfu := Bf.2.1
    have Bfv := Bf.2.2
    have Bhl := Bh.1
    have Bhu := Bh.2.1
    have Bhv := Bh.2.2
    have Bkl := Bk.1
    have Bku := Bk.2.1
    have Bkv := Bk.2.2
    have Bml := Bm.1
    have Bmu := Bm.2.1
    have Bmv := Bm.2.2
    have Bpl := Bp.1
    have Bpu := Bp.2.1
    have Bpv := Bp.2.2
    go_wp2_with fail
    refine (same_c _ _ _ _ _ _ _ _ _ (Xh.keep (by repeat (first | exact Below.refl _ _ | apply Below.drew | apply below_drewN | refine Below.alloc ?_ (by simp) _))) (Xk.keep (by repeat (first | exact Below.refl _ _ | apply Below.drew | apply below_drewN | refine Below.alloc ?_ (by simp) _))) LA.out).mono ?_
    rintro e w58 ⟨rfl, hb⟩
    have hB : Below w57.heap.size w57 w58 := Below.trans (by repeat (first | exact Below.refl _ _ | apply Below.drew | apply below_drewN | refine Below.alloc ?_ (by simp) _)) (hb.mono (by first | (simp; done) | (simp; omega)))
    clear hb
    clear B0l B0u B0v
    clear B1l B1u B1v
    clear Bol Bou Bov
    clear Bsl Bsu Bsv
    clear Bfl Bfu Bfv
    clear Bhl Bhu Bhv
    clear Bkl Bku Bkv
    clear Bml Bmu Bmv
    clear Bpl Bpu Bpv
    replace B0 := B0.keep hB
    replace B1 := B1.keep hB
    replace Bo := Bo.keep hB
    replace Bs := Bs.keep hB
    replace Bf := Bf.keep hB
    replace Bh := Bh.keep hB
    replace Bk := Bk.keep hB
    replace Bm := Bm.keep hB
    replace Bp := Bp.keep hB
    replace Xb := Xb.keep hB
    replace Xc := Xc.keep hB
    replace Xo := Xo.keep hB
    replace Xs := Xs.keep hB
    replace Xf := Xf.keep hB
    replace Xh := Xh.keep hB
    replace Xk := Xk.keep hB
    replace Xm := Xm.keep hB
    replace Xp := Xp.keep hB
    replace hw := hw.trans (hB.mono hw.size)
    clear hB
    have B0l := B0.1
    have B0u := B0.2.1
    have B0v := B0.2.2
    have B1l := B1.1
    have B1u := B1.2.1
    have B1v := B1.2.2
    have Bol := Bo.1
    have Bou := Bo.2.1
    have Bov := Bo.2.2
    have Bsl := Bs.1
    have Bsu := Bs.2.1
    have Bsv := Bs.2.2
    have Bfl := Bf.1
    have Bfu := Bf.2.1
    have Bfv := Bf.2.2
    have Bhl := Bh.1
    have Bhu := Bh.2.1
    have Bhv := Bh.2.2
    have Bkl := Bk.1
    have Bku := Bk.2.1
    have Bkv := Bk.2.2
    have Bml := Bm.1
    have Bmu := Bm.2.1
    have Bmv := Bm.2.2
    have Bpl := Bp.1
    have Bpu := Bp.2.1
    have Bpv := Bp.2.2
    go_wp2_with fail
    refine (same_c _ _ _ _ _ _ _ _ _ (Xm.keep (by repeat (first | exact Below.refl _ _ | apply Below.drew | apply below_drewN | refine Below.alloc ?_ (by simp) _))) (Xp.keep (by repeat (first | exact Below.refl _ _ | apply Below.drew | apply below_drewN | refine Below.alloc ?_ (by simp) _))) LJ.out).mono ?_
    rintro e w59 ⟨rfl, hb⟩
    have hB : Below w58.heap.size w58 w59 := Below.trans (by repeat (first | exact Below.refl _ _ | apply Below.drew | apply below_drewN | refine Below.alloc ?_ (by simp) _)) (hb.mono (by first | (simp; done) | (simp; omega)))
    clear hb
    clear B0l B0u B0v
    clear B1l B1u B1v
    clear Bol Bou Bov
    clear Bsl Bsu Bsv
    clear Bfl Bfu Bfv
    clear Bhl Bhu Bhv
    clear Bkl Bku Bkv
    clear Bml Bmu Bmv
    clear Bpl Bpu Bpv
    replace B0 := B0.keep hB
    replace B1 := B1.keep hB
    replace Bo := Bo.keep hB
    replace Bs := Bs.keep hB
    replace Bf := Bf.keep hB
    replace Bh := Bh.keep hB
    replace Bk := Bk.keep hB
    replace Bm := Bm.keep hB
    replace Bp := Bp.keep hB
    replace Xb := Xb.keep hB
    replace Xc := Xc.keep hB
    replace Xo := Xo.keep hB
    replace Xs := Xs.keep hB
    replace Xf := Xf.keep hB
    replace Xh := Xh.keep hB
    replace Xk := Xk.keep hB
    replace Xm := Xm.keep hB
    replace Xp := Xp.keep hB
    replace hw := hw.trans (hB.mono hw.size)
    clear hB
    have B0l := B0.1
    have B0u := B0.2.1
    have B0v := B0.2.2
    have B1l := B1.1
    have B1u := B1.2.1
    have B1v := B1.2.2
    have Bol := Bo.1
    have Bou := Bo.2.1
    have Bov := Bo.2.2
    have Bsl := Bs.1
    have Bsu := Bs.2.1
    have Bsv := Bs.2.2
    have Bfl := Bf.1
    have Bfu := Bf.2.1
    have Bfv := Bf.2.2
    have Bhl := Bh.1
    have Bhu := Bh.2.1
    have Bhv := Bh.2.2
    have Bkl := Bk.1
    have Bku := Bk.2.1
    have Bkv := Bk.2.2
    have Bml := Bm.1
    have Bmu := Bm.2.1
    have Bmv := Bm.2.2
    have Bpl := Bp.1
    have Bpu := Bp.2.1
    have Bpv := Bp.2.2
    go_wp2_with fail
    refine (same_c _ _ _ _ _ _ _ _ _ (Xo.keep (by repeat (first | exact Below.refl _ _ | apply Below.drew | apply below_drewN | refine Below.alloc ?_ (by simp) _))) (Xb.keep (by repeat (first | exact Below.refl _ _ | apply Below.drew | apply below_drewN | refine Below.alloc ?_ (by simp) _))) hlb).mono ?_
    rintro e w60 ⟨rfl, hb⟩
    have hB : Below w59.heap.size w59 w60 := Below.trans (by repeat (first | exact Below.refl _ _ | apply Below.drew | apply below_drewN | refine Below.alloc ?_ (by simp) _)) (hb.mono (by first | (simp; done) | (simp; omega)))
    clear hb
    clear B0l B0u B0v
    clear B1l B1u B1v
    clear Bol Bou Bov
    clear Bsl Bsu Bsv
    clear Bfl Bfu Bfv
    clear Bhl Bhu Bhv
    clear Bkl Bku Bkv
    clear Bml Bmu Bmv
    clear Bpl Bpu Bpv
    replace B0 := B0.keep hB
    replace B1 := B1.keep hB
    replace Bo := Bo.keep hB
    replace Bs := Bs.keep hB
    replace Bf := Bf.keep hB
    replace Bh := Bh.keep hB
    replace Bk := Bk.keep hB
    replace Bm := Bm.keep hB
    replace Bp := Bp.keep hB
    replace Xb := Xb.keep hB
    replace Xc := Xc.keep hB
    replace Xo := Xo.keep hB
    replace Xs := Xs.keep hB
    replace Xf := Xf.keep hB
    replace Xh := Xh.keep hB
    replace Xk := Xk.keep hB
    replace Xm := Xm.keep hB
    replace Xp := Xp.keep hB
    replace hw := hw.trans (hB.mono hw.size)
    clear hB
    have B0l := B0.1
    have B0u := B0.2.1
    have B0v := B0.2.2
    have B1l := B1.1
    have B1u := B1.2.1
    have B1v := B1.2.2
    have Bol := Bo.1
    have Bou := Bo.2.1
    have Bov := Bo.2.2
    have Bsl := Bs.1
    have Bsu := Bs.2.1
    have Bsv := Bs.2.2
    have Bfl := Bf.1
    have Bfu := Bf.2.1
    have Bfv := Bf.2.2
    have Bhl := Bh.1
    have Bhu := Bh.2.1
    have Bhv := Bh.2.2
    have Bkl := Bk.1
    have Bku := Bk.2.1
    have Bkv := Bk.2.2
    have Bml := Bm.1
    have Bmu := Bm.2.1
    have Bmv := Bm.2.2
    have Bpl := Bp.1
    have Bpu := Bp.2.1
    have Bpv := Bp.2.2
    go_wp2_with fail
    refine (heads_c _).mono ?_
    rintro e w61 ⟨rfl, hb⟩
    have hB : Below w60.heap.size w60 w61 := Below.trans (by repeat (first | exact Below.refl _ _ | apply Below.drew | apply below_drewN | refine Below.alloc ?_ (by simp) _)) (hb.mono (by first | (simp; done) | (simp; omega)))
    clear hb
    clear B0l B0u B0v
    clear B1l B1u B1v
    clear Bol Bou Bov
    clear Bsl Bsu Bsv
    clear Bfl Bfu Bfv
    clear Bhl Bhu Bhv
    clear Bkl Bku Bkv
    clear Bml Bmu Bmv
    clear Bpl Bpu Bpv
    replace B0 := B0.keep hB
    replace B1 := B1.keep hB
    replace Bo := Bo.keep hB
    replace Bs := Bs.keep hB
    replace Bf := Bf.keep hB
    replace Bh := Bh.keep hB
    replace Bk := Bk.keep hB
    replace Bm := Bm.keep hB
    replace Bp := Bp.keep hB
    replace Xb := Xb.keep hB
    replace Xc := Xc.keep hB
    replace Xo := Xo.keep hB
    replace Xs := Xs.keep hB
    replace Xf := Xf.keep hB
    replace Xh := Xh.keep hB
    replace Xk := Xk.keep hB
    replace Xm := Xm.keep hB
    replace Xp := Xp.keep hB
    replace hw := hw.trans (hB.mono hw.size)
    clear hB
    have B0l := B0.1
    have B0u := B0.2.1
    have B0v := B0.2.2
    have B1l := B1.1
    have B1u := B1.2.1
    have B1v := B1.2.2
    have Bol := Bo.1
    have Bou := Bo.2.1
    have Bov := Bo.2.2
    have Bsl := Bs.1
    have Bsu := Bs.2.1
    have Bsv := Bs.2.2
    have Bfl := Bf.1
    have Bfu := Bf.2.1
    have Bfv := Bf.2.2
    have Bhl := Bh.1
    have Bhu := Bh.2.1
    have Bhv := Bh.2.2
    have Bkl := Bk.1
    have Bku := Bk.2.1
    have Bkv := Bk.2.2
    have Bml := Bm.1
    have Bmu := Bm.2.1
    have Bmv := Bm.2.2
    have Bpl := Bp.1
    have Bpu := Bp.2.1
    have Bpv := Bp.2.2
    go_wp2
    go_ret
    exact ⟨rfl, hw⟩

set_option maxRecDepth 100000 in
theorem lifted (os : Os) (started : os.Started) (H : Type) (enc : TypeId × Value → H) :
    ReturnsInHanded {} Try.checked os 3 .any (Rows.bitsBecomeSpec.pre6 enc Try.prog Try.f3 Rows.bitsBecomeRow.domain false) (Rows.bitsBecomeSpec.post enc Try.prog Try.f3 false true false false) := by
  refine returnsInHanded_of_change (C := Try.checked) own started (by kernel_rfl) Try.func3
    (ChangeSpec.witness6 (enc := enc) (C := Try.checked) false ⟨#[], #[.agg #[.int .i64 0, .slice none 0 0], .agg #[.int .i64 0, .slice none 0 0], .int .i64 0, .int .u64 0, .int .i64 0], []⟩ 8 (by kernel_rfl) (by kernel_rfl) (by kernel_rfl) (by kernel_rfl)) ?_
  intro W base args ds gs before hval0 hW hcnd _
  have hval : ∀ (j : Nat) t v, Try.f3.params[j]? = some t → args[j]? = some v → Value.okWide Try.prog W .any base t v := hval0
  have hW' := hW
  obtain ⟨p, q, hA0, hV, rfl, hfz, hnd⟩ := hW
  have hA : DataW.TrodAll enc Try.prog W 0 (fun _ => true) true Try.f3.params.toList args.toList ds p := hA0
  rw [Try.params3] at hA hval
  obtain ⟨v0, vs0, d0, ds0, p0, q0, hargs, rfl, rfl, h0, r0⟩ := trodAll_cons hA
  obtain ⟨v1, vs1, d1, ds1, p1, q1, rfl, rfl, rfl, h1, r1⟩ := trodAll_cons r0
  obtain ⟨v2, vs2, d2, ds2, p2, q2, rfl, rfl, rfl, h2, r2⟩ := trodAll_cons r1
  obtain ⟨v3, vs3, d3, ds3, p3, q3, rfl, rfl, rfl, h3, r3⟩ := trodAll_cons r2
  obtain ⟨v4, vs4, d4, ds4, p4, q4, rfl, rfl, rfl, h4, r4⟩ := trodAll_cons r3
  obtain ⟨rfl, rfl, rfl⟩ := trodAll_nil r4
  obtain rfl : args = #[v0, v1, v2, v3, v4] := by cases args; simp_all
  obtain ⟨rfl, rfl⟩ := trodVars_none hV
  have k0 := h0
  have lt0 : ∀ x ∈ p0, x.block < W.heap.size := by obtain ⟨m, hm⟩ := k0; exact DataW.trod_lt m _ _ _ hm
  obtain ⟨Nb, ab, xb, cb, rfl, bb1, bb2, bb3, bb4⟩ := open_bits (hval 0 24 v0 rfl rfl) h0
  have k1 := h1
  have lt1 : ∀ x ∈ p1, x.block < W.heap.size := by obtain ⟨m, hm⟩ := k1; exact DataW.trod_lt m _ _ _ hm
  obtain ⟨Nc, ac, xc, cc, rfl, bc1, bc2, bc3, bc4⟩ := open_bits (hval 1 24 v1 rfl rfl) h1
  obtain ⟨i, rfl, rfl, rfl, w2⟩ := open_int Try.underlying3 (hval 2 3 v2 rfl rfl) h2
  obtain ⟨x, rfl, rfl, rfl, w3⟩ := open_int Try.underlying25 (hval 3 25 v3 rfl rfl) h3
  obtain ⟨n, rfl, rfl, rfl, w4⟩ := open_int Try.underlying3 (hval 4 3 v4 rfl rfl) h4
  clear hA0 hval0
  refine (walk W Nb ab xb cb bb1 bb2 bb3 bb4 Nc ac xc cc bc1 bc2 bc3 bc4 i (i64_wf _ w2) x (u64_wf _ w3) n (i64_wf _ w4)).mono fun e W' ⟨he, bel⟩ => ?_
  subst he
  exact ⟨_, rfl, _, _, _, [], _, [], hW', trodAll_mk1 (shut_bool Try.underlying4 _), (trodAll_cons_mk (Below.trod laidOut (by kernel_rfl) (of_decide_eq_true (by kernel_rfl)) k0 bel lt0) (trodAll_cons_mk (Below.trod laidOut (by kernel_rfl) (of_decide_eq_true (by kernel_rfl)) k1 bel lt1) (trodAll_cons_mk (shut_int Try.underlying3 w2) (trodAll_cons_mk (shut_int Try.underlying25 w3) (trodAll_cons_mk (shut_int Try.underlying3 w4) trodAll_mk0))))), rfl, bel.frame _, fun h => by cases h⟩

theorem over : Rows.bitsBecomeRow.holds Try.pinned (OpenSpec.ofChange Rows.bitsBecomeSpec) :=
  OpenClaim.holds_of_wide 3 Try.f3 rfl rfl rfl rfl rfl rfl rfl ⟨rfl, rfl, rfl, rfl, rfl⟩ rfl rfl rfl rfl rfl (by kernel_rfl) Try.func3 (by kernel_rfl)
    (of_decide_eq_true (by kernel_rfl)) (by unfold Func.isWrapper; first | (rw [if_pos (by decide +kernel)]; kernel_rfl) | (rw [if_neg (by decide +kernel)]; exact ⟨rfl, rfl⟩))
    (fun os started H enc _ => lifted os started H enc)

theorem proved : Rows.BitsBecomeSaid := over
end Go.Proofs.Ytjilehaokignoaa.bitsBecome
namespace Go.Proofs.Ytjilehaokignoaa
theorem bitsBecome_holds : Rows.BitsBecomeSaid := bitsBecome.proved
#print axioms bitsBecome_holds
end Go.Proofs.Ytjilehaokignoaa
