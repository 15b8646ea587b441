/-
  For all numbers: a greater one has no shorter code, and from 32 on delta codes are not longer than gamma codes (P4.1). No condition.
-/
import Derived.Test.YtmdmjbpehbjgpaaStH
import Derived.Test.YtmdmjbpehbjgpaaOpen
import Derived.ChangeOld
namespace Go.Proofs.Ytmdmjbpehbjgpaa.streamOrder
open Go.ChangeShapes Go.WideShapes Go.ChangeAt Go.RowKit Num Bit
set_option linter.unusedVariables false
set_option linter.unusedSimpArgs false
set_option maxRecDepth 100000


set_option maxHeartbeats 4000000 in
theorem walk (w : World) (x : Int) (hx : 0 ≤ x ∧ x < 18446744073709551616) (y : Int) (hy : 0 ≤ y ∧ y < 18446744073709551616) :
    Calls Try.prog 6 #[.int .u64 x, .int .u64 y] w fun e w' => e = .returned (.bool true) ∧ Below w.heap.size w w' := by
  obtain ⟨m, rfl⟩ := Int.eq_ofNat_of_zero_le hx.1
  obtain ⟨n, rfl⟩ := Int.eq_ofNat_of_zero_le hy.1
  have m64 : m < 18446744073709551616 := by omega
  have n64 : n < 18446744073709551616 := by omega
  have SA : ∀ w0 : World, Calls Try.prog 20 #[.int .u64 m, .bool false] w0 fun e w' => e = .returned (.int .i64 (cL false m)) ∧ w' = w0 := fun w0 => size_c false m m64 w0
  have SB : ∀ w0 : World, Calls Try.prog 20 #[.int .u64 n, .bool false] w0 fun e w' => e = .returned (.int .i64 (cL false n)) ∧ w' = w0 := fun w0 => size_c false n n64 w0
  have SC : ∀ w0 : World, Calls Try.prog 20 #[.int .u64 m, .bool true] w0 fun e w' => e = .returned (.int .i64 (cL true m)) ∧ w' = w0 := fun w0 => size_c true m m64 w0
  have SD : ∀ w0 : World, Calls Try.prog 20 #[.int .u64 n, .bool true] w0 fun e w' => e = .returned (.int .i64 (cL true n)) ∧ w' = w0 := fun w0 => size_c true n n64 w0
  have o1 := cL_mono false m n
  have o2 := cL_mono true m n
  have o3 := cLg_le m m64
  have o4 := cLd_le m m64
  have o5 := cL_order m m64
  generalize cL false m = a at *
  generalize cL false n = b at *
  generalize cL true m = c at *
  generalize cL true n = d at *
  have d3 : (a : Int) ≤ 127 := by omega
  have d4 : (c : Int) ≤ 76 := by omega
  have d5 : ((m : Int) < 32 ∧ decide ((m : Int) < 32) = true) ∨ (¬ (m : Int) < 32 ∧ decide ((m : Int) < 32) = false ∧ (c : Int) ≤ (a : Int)) := by
    by_cases h : (m : Int) < 32
    · exact .inl ⟨h, by simpa using h⟩
    · exact .inr ⟨h, by simpa using h, by have := o5 (by omega); omega⟩
  have HO1 : Hid (m ≤ n → a ≤ b) := o1
  have HO2 : Hid (m ≤ n → c ≤ d) := o2
  clear o1 o2 o5
  by_cases le : (m : Int) ≤ (n : Int)
  case pos =>
    have l1 : ¬ ((b : Int) < (a : Int)) := by have := HO1.out (by omega); omega
    have l2 : ¬ ((d : Int) < (c : Int)) := by have := HO2.out (by omega); omega
    rcases d5 with ⟨e1, e2⟩ | ⟨e1, e2, e3⟩
    case inl =>
      go_enter Try.func6, Try.ntmps6
      have hw : Below w.heap.size w w := Below.refl _ _
      go_wp2_with fail
      refine (SA _).mono ?_
      rintro e wz ⟨rfl, hs⟩
      rw [hs]
      clear hs wz
      go_wp2_with fail
      refine (SB _).mono ?_
      rintro e wz ⟨rfl, hs⟩
      rw [hs]
      clear hs wz
      go_wp2_with fail
      refine (SC _).mono ?_
      rintro e wz ⟨rfl, hs⟩
      rw [hs]
      clear hs wz
      go_wp2_with fail
      refine (SD _).mono ?_
      rintro e wz ⟨rfl, hs⟩
      rw [hs]
      clear hs wz
      go_wp2_with fail
      refine (heads_c _).mono ?_
      rintro e w1 ⟨rfl, hb⟩
      have hB : Below w.heap.size w w1 := Below.trans (by repeat (first | exact Below.refl _ _ | apply Below.drew | apply below_drewN | refine Below.alloc ?_ (by first | (simp; done) | (simp; omega)) _)) (hb.mono (by first | (simp; done) | (simp; omega) | omega))
      clear hb
      replace hw := hw.trans (hB.mono hw.size)
      clear hB
      go_wp2
      go_ret
      exact ⟨rfl, hw⟩
    case inr =>
      go_enter Try.func6, Try.ntmps6
      have hw : Below w.heap.size w w := Below.refl _ _
      go_wp2_with fail
      refine (SA _).mono ?_
      rintro e wz ⟨rfl, hs⟩
      rw [hs]
      clear hs wz
      go_wp2_with fail
      refine (SB _).mono ?_
      rintro e wz ⟨rfl, hs⟩
      rw [hs]
      clear hs wz
      go_wp2_with fail
      refine (SC _).mono ?_
      rintro e wz ⟨rfl, hs⟩
      rw [hs]
      clear hs wz
      go_wp2_with fail
      refine (SD _).mono ?_
      rintro e wz ⟨rfl, hs⟩
      rw [hs]
      clear hs wz
      go_wp2_with fail
      refine (heads_c _).mono ?_
      rintro e w1 ⟨rfl, hb⟩
      have hB : Below w.heap.size w w1 := Below.trans (by repeat (first | exact Below.refl _ _ | apply Below.drew | apply below_drewN | refine Below.alloc ?_ (by first | (simp; done) | (simp; omega)) _)) (hb.mono (by first | (simp; done) | (simp; omega) | omega))
      clear hb
      replace hw := hw.trans (hB.mono hw.size)
      clear hB
      go_wp2
      go_ret
      exact ⟨rfl, hw⟩
  case neg =>
    rcases d5 with ⟨e1, e2⟩ | ⟨e1, e2, e3⟩
    case inl =>
      go_enter Try.func6, Try.ntmps6
      have hw : Below w.heap.size w w := Below.refl _ _
      go_wp2_with fail
      refine (SA _).mono ?_
      rintro e wz ⟨rfl, hs⟩
      rw [hs]
      clear hs wz
      go_wp2_with fail
      refine (SB _).mono ?_
      rintro e wz ⟨rfl, hs⟩
      rw [hs]
      clear hs wz
      go_wp2_with fail
      refine (SC _).mono ?_
      rintro e wz ⟨rfl, hs⟩
      rw [hs]
      clear hs wz
      go_wp2_with fail
      refine (SD _).mono ?_
      rintro e wz ⟨rfl, hs⟩
      rw [hs]
      clear hs wz
      go_wp2_with fail
      refine (heads_c _).mono ?_
      rintro e w1 ⟨rfl, hb⟩
      have hB : Below w.heap.size w w1 := Below.trans (by repeat (first | exact Below.refl _ _ | apply Below.drew | apply below_drewN | refine Below.alloc ?_ (by first | (simp; done) | (simp; omega)) _)) (hb.mono (by first | (simp; done) | (simp; omega) | omega))
      clear hb
      replace hw := hw.trans (hB.mono hw.size)
      clear hB
      go_wp2
      go_ret
      exact ⟨rfl, hw⟩
    case inr =>
      go_enter Try.func6, Try.ntmps6
      have hw : Below w.heap.size w w := Below.refl _ _
      go_wp2_with fail
      refine (SA _).mono ?_
      rintro e wz ⟨rfl, hs⟩
      rw [hs]
      clear hs wz
      go_wp2_with fail
      refine (SB _).mono ?_
      rintro e wz ⟨rfl, hs⟩
      rw [hs]
      clear hs wz
      go_wp2_with fail
      refine (SC _).mono ?_
      rintro e wz ⟨rfl, hs⟩
      rw [hs]
      clear hs wz
      go_wp2_with fail
      refine (SD _).mono ?_
      rintro e wz ⟨rfl, hs⟩
      rw [hs]
      clear hs wz
      go_wp2_with fail
      refine (heads_c _).mono ?_
      rintro e w1 ⟨rfl, hb⟩
      have hB : Below w.heap.size w w1 := Below.trans (by repeat (first | exact Below.refl _ _ | apply Below.drew | apply below_drewN | refine Below.alloc ?_ (by first | (simp; done) | (simp; omega)) _)) (hb.mono (by first | (simp; done) | (simp; omega) | omega))
      clear hb
      replace hw := hw.trans (hB.mono hw.size)
      clear hB
      go_wp2
      go_ret
      exact ⟨rfl, hw⟩

theorem lifted (os : Os) (started : os.Started) (H : Type) (enc : TypeId × Value → H) :
    ReturnsInHanded {} Try.checked os 6 .any (Rows.streamOrderSpec.pre6 enc Try.prog Try.f6 Rows.streamOrderRow.domain false) (Rows.streamOrderSpec.post enc Try.prog Try.f6 false true false false) := by
  refine returnsInHanded_of_change (C := Try.checked) own started (by kernel_rfl) Try.func6
    (ChangeSpec.witness6 (enc := enc) (C := Try.checked) false ⟨#[], #[.int .u64 0, .int .u64 0], []⟩ 8 (by kernel_rfl) (by kernel_rfl) (by kernel_rfl) (by kernel_rfl)) ?_
  intro W base args ds gs before hval0 hW hcnd _
  have hval : ∀ (j : Nat) t v, Try.f6.params[j]? = some t → args[j]? = some v → Value.okWide Try.prog W .any base t v := hval0
  have hW' := hW
  obtain ⟨p, q, hA0, hV, rfl, hfz, hnd⟩ := hW
  have hA : DataW.TrodAll enc Try.prog W 0 (fun _ => true) true Try.f6.params.toList args.toList ds p := hA0
  rw [Try.params6] at hA hval
  obtain ⟨v0, vs0, d0, ds0, p0, q0, hargs, rfl, rfl, h0, r0⟩ := trodAll_cons hA
  obtain ⟨v1, vs1, d1, ds1, p1, q1, rfl, rfl, rfl, h1, r1⟩ := trodAll_cons r0
  obtain ⟨rfl, rfl, rfl⟩ := trodAll_nil r1
  obtain rfl : args = #[v0, v1] := by cases args; simp_all
  obtain ⟨rfl, rfl⟩ := trodVars_none hV
  obtain ⟨x, rfl, rfl, rfl, w0⟩ := open_int Try.underlying27 (hval 0 27 v0 rfl rfl) h0
  obtain ⟨y, rfl, rfl, rfl, w1⟩ := open_int Try.underlying27 (hval 1 27 v1 rfl rfl) h1
  clear hA0 hval0
  refine (walk W x (u64_wf _ w0) y (u64_wf _ w1)).mono fun e W' ⟨he, bel⟩ => ?_
  subst he
  exact ⟨_, rfl, _, _, _, [], _, [], hW', trodAll_mk1 (shut_bool Try.underlying4 _), (trodAll_cons_mk (shut_int Try.underlying27 w0) (trodAll_cons_mk (shut_int Try.underlying27 w1) trodAll_mk0)), rfl, bel.frame _, fun h => by cases h⟩

theorem over : Rows.streamOrderRow.holds Try.pinned (OpenSpec.ofChange Rows.streamOrderSpec) :=
  OpenClaim.holds_of_wide 6 Try.f6 rfl rfl rfl rfl rfl rfl rfl ⟨rfl, rfl, rfl, rfl, rfl⟩ rfl rfl rfl rfl rfl (by kernel_rfl) Try.func6 (by kernel_rfl)
    (of_decide_eq_true (by kernel_rfl)) (by unfold Func.isWrapper; first | (rw [if_pos (by decide +kernel)]; kernel_rfl) | (rw [if_neg (by decide +kernel)]; exact ⟨rfl, rfl⟩))
    (fun os started H enc _ => lifted os started H enc)

theorem proved : Rows.StreamOrderSaid := over
end Go.Proofs.Ytmdmjbpehbjgpaa.streamOrder
namespace Go.Proofs.Ytmdmjbpehbjgpaa
theorem streamOrder_holds : Rows.StreamOrderSaid := streamOrder.proved
#print axioms streamOrder_holds
end Go.Proofs.Ytmdmjbpehbjgpaa
