/-
  heads of layer 4: it answers true, and turns nothing old.
-/
import Derived.Test.YtmdmjbpehbjgpaaSt4
import Derived.Test.YtmdmjbpehbjgpaaSt5
namespace Go.Proofs.Ytmdmjbpehbjgpaa
open Go.RowKit Num Bit
set_option linter.unusedVariables false
set_option linter.unusedSimpArgs false
set_option maxRecDepth 100000

theorem fit2 (u v : Nat) (h : u < 18446744073709551616) (h2 : v < 18446744073709551616) : Fit [u, v] := by
  intro i
  match i with
  | 0 => exact h
  | 1 => exact h2
  | n + 2 => exact (by decide : (0 : Nat) < 18446744073709551616)
theorem hp1 : pN false 0 [] 5 = 5 ∧ pL false 0 [] 5 = [12] ∧ pE false 0 [] 5 = 0 := by decide +kernel
theorem hp2 : pN true 5 [12] 9223372036854775808 = 81 ∧ pL true 5 [12] 9223372036854775808 = [2060, 0] ∧ pE true 5 [12] 9223372036854775808 = 0 := by decide +kernel
theorem hp3 : rdG 81 [2060, 0] 0 = (5, 5, 0) ∧ rdD 81 [2060, 0] 5 = (9223372036854775808, 81, 0) ∧ rdG 81 [2060, 0] 81 = (0, 0, 160) := by decide +kernel
theorem hp4 : cL false 5 = 5 := by decide +kernel

theorem hd_put (w : World) : Calls Try.prog 12 #[.agg #[.int .i64 0, .slice none 0 0], .int .u64 5] w fun e w' => ∃ bo dap, e = .returned (.tuple #[.agg #[.int .i64 5, .slice bo 1 dap], .int .i64 0]) ∧ OutF w w' bo [12] dap := by
  have := putg_c 0 none [] 0 5 w (wd0 _ _) fit0 (by simp) (by decide)
  rw [hp1.1, hp1.2.1, hp1.2.2] at this
  exact this
theorem hd_putd (w : World) (ao : Option Addr) (cap : Nat) (hx : Wd w ao [12]) : Calls Try.prog 13 #[.agg #[.int .i64 5, .slice ao 1 cap], .int .u64 9223372036854775808] w fun e w' => ∃ bo dap, e = .returned (.tuple #[.agg #[.int .i64 81, .slice bo 2 dap], .int .i64 0]) ∧ OutF w w' bo [2060, 0] dap := by
  have := putd_c 5 ao [12] cap 9223372036854775808 w hx (fit1 _ (by decide)) (by simp) (by decide)
  rw [hp2.1, hp2.2.1, hp2.2.2] at this
  exact this
theorem hd_g0 (w : World) (ao : Option Addr) (cap : Nat) (hx : Wd w ao [2060, 0]) : Calls Try.prog 10 #[.agg #[.int .i64 81, .slice ao 2 cap], .int .i64 0] w fun e w' => e = .returned (.tuple #[.int .u64 5, .int .i64 5, .int .i64 0]) ∧ Below w.heap.size w w' := by
  have := gamma_c 81 ao [2060, 0] cap 0 w hx (fit2 _ _ (by decide) (by decide))
  rw [hp3.1] at this
  exact this
theorem hd_d5 (w : World) (ao : Option Addr) (cap : Nat) (hx : Wd w ao [2060, 0]) : Calls Try.prog 11 #[.agg #[.int .i64 81, .slice ao 2 cap], .int .i64 5] w fun e w' => e = .returned (.tuple #[.int .u64 9223372036854775808, .int .i64 81, .int .i64 0]) ∧ Below w.heap.size w w' := by
  have := delta_c 81 ao [2060, 0] cap 5 w hx (fit2 _ _ (by decide) (by decide))
  rw [hp3.2.1] at this
  exact this
theorem hd_g81 (w : World) (ao : Option Addr) (cap : Nat) (hx : Wd w ao [2060, 0]) : Calls Try.prog 10 #[.agg #[.int .i64 81, .slice ao 2 cap], .int .i64 81] w fun e w' => e = .returned (.tuple #[.int .u64 0, .int .i64 0, .int .i64 160]) ∧ Below w.heap.size w w' := by
  have := gamma_c 81 ao [2060, 0] cap 81 w hx (fit2 _ _ (by decide) (by decide))
  rw [hp3.2.2] at this
  exact this
theorem hd_pz (w : World) (ao : Option Addr) (cap : Nat) (hx : Wd w ao [12]) : Calls Try.prog 12 #[.agg #[.int .i64 5, .slice ao 1 cap], .int .u64 0] w fun e w' => ∃ bo dap, e = .returned (.tuple #[.agg #[.int .i64 5, .slice bo 1 dap], .int .i64 2]) ∧ OutF w w' bo [12] dap :=
  putg_z 5 ao [12] cap w hx (fit1 _ (by decide)) (by simp)
theorem hd_sz (w : World) : Calls Try.prog 20 #[.int .u64 5, .bool false] w fun e w' => e = .returned (.int .i64 5) ∧ Below w.heap.size w w' := by
  have := (size_c false 5 (by decide) w).mono (fun e w' (h : _ ∧ w' = w) => (⟨h.1, by rw [h.2]; exact Below.refl _ _⟩ : _ ∧ Below w.heap.size w w'))
  rw [hp4] at this
  exact this

set_option maxHeartbeats 4000000 in
theorem heads_c (w : World) : Calls Try.prog 9 #[] w fun e w' => e = .returned (.bool true) ∧ Below w.heap.size w w' := by
  go_enter Try.func9, Try.ntmps9
  have hw : Below w.heap.size w w := Below.refl _ _
  go_wp2_with fail
  refine (hd_put _).mono ?_
  rintro e w1 ⟨bo, bc, rfl, Xb, _, cb, _, hb⟩
  have hB : Below w.heap.size w w1 := Below.trans (by repeat (first | exact Below.refl _ _ | apply Below.drew | apply below_drewN | refine Below.alloc ?_ (by first | (simp; done) | (simp; omega)) _)) (hb.mono (by first | (simp; done) | (simp; omega) | omega))
  clear hb
  replace hw := hw.trans (hB.mono hw.size)
  clear hB
  obtain ⟨bb, off, hbo, _, _⟩ := Xb (by decide)
  subst hbo
  go_wp2_with fail
  refine (hd_putd _ _ _ (Xb.keep (by repeat (first | exact Below.refl _ _ | apply Below.drew | apply below_drewN | refine Below.alloc ?_ (by first | (simp; done) | (simp; omega)) _)))).mono ?_
  rintro e w2 ⟨co, cc, rfl, Xc, _, cx, _, hb⟩
  have Ba := Box.new hb
  have hB : Below w1.heap.size w1 w2 := Below.trans (by repeat (first | exact Below.refl _ _ | apply Below.drew | apply below_drewN | refine Below.alloc ?_ (by first | (simp; done) | (simp; omega)) _)) (hb.mono (by first | (simp; done) | (simp; omega) | omega))
  clear hb
  replace Xb := Xb.keep hB
  replace hw := hw.trans (hB.mono hw.size)
  clear hB
  have Bal := Ba.1
  have Bau := Ba.2.1
  have Bav := Ba.2.2
  go_wp2_with fail
  refine (hd_g0 _ _ _ (Xc.keep (by repeat (first | exact Below.refl _ _ | apply Below.drew | apply below_drewN | refine Below.alloc ?_ (by first | (simp; done) | (simp; omega)) _)))).mono ?_
  rintro e w3 ⟨rfl, hb⟩
  have Bc := Box.new hb
  have hB : Below w2.heap.size w2 w3 := Below.trans (by repeat (first | exact Below.refl _ _ | apply Below.drew | apply below_drewN | refine Below.alloc ?_ (by first | (simp; done) | (simp; omega)) _)) (hb.mono (by first | (simp; done) | (simp; omega) | omega))
  clear hb
  clear Bal Bau Bav
  replace Ba := Ba.keep hB
  replace Xb := Xb.keep hB
  replace Xc := Xc.keep hB
  replace hw := hw.trans (hB.mono hw.size)
  clear hB
  have Bal := Ba.1
  have Bau := Ba.2.1
  have Bav := Ba.2.2
  have Bcl := Bc.1
  have Bcu := Bc.2.1
  have Bcv := Bc.2.2
  go_wp2_with fail
  refine (hd_d5 _ _ _ (Xc.keep (by repeat (first | exact Below.refl _ _ | apply Below.drew | apply below_drewN | refine Below.alloc ?_ (by first | (simp; done) | (simp; omega)) _)))).mono ?_
  rintro e w4 ⟨rfl, hb⟩
  have hB : Below w3.heap.size w3 w4 := Below.trans (by repeat (first | exact Below.refl _ _ | apply Below.drew | apply below_drewN | refine Below.alloc ?_ (by first | (simp; done) | (simp; omega)) _)) (hb.mono (by first | (simp; done) | (simp; omega) | omega))
  clear hb
  clear Bal Bau Bav
  clear Bcl Bcu Bcv
  replace Ba := Ba.keep hB
  replace Bc := Bc.keep hB
  replace Xb := Xb.keep hB
  replace Xc := Xc.keep hB
  replace hw := hw.trans (hB.mono hw.size)
  clear hB
  have Bal := Ba.1
  have Bau := Ba.2.1
  have Bav := Ba.2.2
  have Bcl := Bc.1
  have Bcu := Bc.2.1
  have Bcv := Bc.2.2
  go_wp2_with fail
  refine (hd_g81 _ _ _ (Xc.keep (by repeat (first | exact Below.refl _ _ | apply Below.drew | apply below_drewN | refine Below.alloc ?_ (by first | (simp; done) | (simp; omega)) _)))).mono ?_
  rintro e w5 ⟨rfl, hb⟩
  have hB : Below w4.heap.size w4 w5 := Below.trans (by repeat (first | exact Below.refl _ _ | apply Below.drew | apply below_drewN | refine Below.alloc ?_ (by first | (simp; done) | (simp; omega)) _)) (hb.mono (by first | (simp; done) | (simp; omega) | omega))
  clear hb
  clear Bal Bau Bav
  clear Bcl Bcu Bcv
  replace Ba := Ba.keep hB
  replace Bc := Bc.keep hB
  replace Xb := Xb.keep hB
  replace Xc := Xc.keep hB
  replace hw := hw.trans (hB.mono hw.size)
  clear hB
  have Bal := Ba.1
  have Bau := Ba.2.1
  have Bav := Ba.2.2
  have Bcl := Bc.1
  have Bcu := Bc.2.1
  have Bcv := Bc.2.2
  go_wp2_with fail
  refine (hd_pz _ _ _ (Xb.keep (by repeat (first | exact Below.refl _ _ | apply Below.drew | apply below_drewN | refine Below.alloc ?_ (by first | (simp; done) | (simp; omega)) _)))).mono ?_
  rintro e w6 ⟨go, gc, rfl, Xg, _, cg, _, hb⟩
  have hB : Below w5.heap.size w5 w6 := Below.trans (by repeat (first | exact Below.refl _ _ | apply Below.drew | apply below_drewN | refine Below.alloc ?_ (by first | (simp; done) | (simp; omega)) _)) (hb.mono (by first | (simp; done) | (simp; omega) | omega))
  clear hb
  clear Bal Bau Bav
  clear Bcl Bcu Bcv
  replace Ba := Ba.keep hB
  replace Bc := Bc.keep hB
  replace Xb := Xb.keep hB
  replace Xc := Xc.keep hB
  replace hw := hw.trans (hB.mono hw.size)
  clear hB
  have Bal := Ba.1
  have Bau := Ba.2.1
  have Bav := Ba.2.2
  have Bcl := Bc.1
  have Bcu := Bc.2.1
  have Bcv := Bc.2.2
  obtain ⟨bb2, off2, hbo2, hbl, hxc⟩ := Xb (by decide)
  have hbb := hbl
  obtain ⟨rfl, rfl⟩ : bb = bb2 ∧ off = off2 := by simpa using hbo2
  have hx0 : w6.cell? ⟨bb, off, none⟩ = some (.int .u64 12) := hxc 0 (by decide)
  clear hxc hbo2 hbl
  go_wp2_with fail
  refine (hd_sz _).mono ?_
  rintro e w7 ⟨rfl, hb⟩
  have Bg := Box.new hb
  have hB : Below w6.heap.size w6 w7 := Below.trans (by repeat (first | exact Below.refl _ _ | apply Below.drew | apply below_drewN | refine Below.alloc ?_ (by first | (simp; done) | (simp; omega)) _)) (hb.mono (by first | (simp; done) | (simp; omega) | omega))
  clear hb
  clear Bal Bau Bav
  clear Bcl Bcu Bcv
  replace Ba := Ba.keep hB
  replace Bc := Bc.keep hB
  replace Xb := Xb.keep hB
  replace Xc := Xc.keep hB
  replace Xg := Xg.keep hB
  replace hw := hw.trans (hB.mono hw.size)
  clear hB
  have Bal := Ba.1
  have Bau := Ba.2.1
  have Bav := Ba.2.2
  have Bcl := Bc.1
  have Bcu := Bc.2.1
  have Bcv := Bc.2.2
  have Bgl := Bg.1
  have Bgu := Bg.2.1
  have Bgv := Bg.2.2
  go_wp2
  go_ret
  exact ⟨rfl, hw⟩
end Go.Proofs.Ytmdmjbpehbjgpaa
