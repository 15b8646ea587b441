/-
  For every word and place the ones below the place and those from it on are all ones, and a word and its turned one have 64 ones together (P1.1). No condition.
-/
import Derived.Test.YtlfklkamhdfefaaRows
import Derived.WalkKit
import Derived.ProofKit
import Derived.OpenShut
import Derived.Test.YtlfklkamhdfefaaWords
namespace Go.Proofs.Ytlfklkamhdfefaa.wordParts
open Go.ChangeShapes Go.WideShapes Go.ChangeAt Go.RowKit Num
set_option linter.unusedVariables false      -- a walk need not use every 'w<i>' (that an integer argument fits its kind)

theorem own : ownKnob Try.prog.godebug = none := by kernel_rfl

/-! ### STEP 1: THE WALK: the Go text returns true. 'Grown w w'': the world has at most new blocks (Derived/RowKit3.lean). Part the cases AHEAD of 'go_enter' where a test parts the walk; take each callee by a contract of your own. -/
theorem walk (a0 : Int) (a1 : Int) (w0 : (Lit.int .u64 a0).wf = true) (w1 : (Lit.int .i64 a1).wf = true) (w : World) :
    Calls Try.prog 7 #[.int .u64 a0, .int .i64 a1] w fun e w' => e = .returned (.bool true) ∧ Grown w w' := by
  obtain ⟨x0, x1⟩ := u64_wf a0 w0
  obtain ⟨n0, n1⟩ := i64_wf a1 w1
  clear w0 w1
  by_cases c : a1 < 0
  · go_enter Try.func7, Try.ntmps7
    go_wp2_with (first | (go_at_call 11; refine (rank_c _ _ ?_ ?_ _).mono ?_; (first | with_reducible assumption | decide); (first | with_reducible assumption | decide); rintro e w' ⟨rfl, rfl⟩) | (go_at_call 13; refine (pop_c _ ?_ ?_ _).mono ?_; (first | with_reducible assumption | decide); (first | with_reducible assumption | decide); rintro e w' ⟨rfl, rfl⟩) | (go_at_call 12; refine (mask_c _ _).mono ?_; rintro e w' ⟨rfl, rfl⟩) | (go_at_call 9; refine (heads_c _).mono ?_; rintro e w' ⟨rfl, rfl⟩))
    go_ret
    exact ⟨rfl, by repeat (first | exact Grown.refl _ | apply Grown.drew | apply Grown.alloc)⟩
  · by_cases d : 63 < a1
    · go_enter Try.func7, Try.ntmps7
      go_wp2_with (first | (go_at_call 11; refine (rank_c _ _ ?_ ?_ _).mono ?_; (first | with_reducible assumption | decide); (first | with_reducible assumption | decide); rintro e w' ⟨rfl, rfl⟩) | (go_at_call 13; refine (pop_c _ ?_ ?_ _).mono ?_; (first | with_reducible assumption | decide); (first | with_reducible assumption | decide); rintro e w' ⟨rfl, rfl⟩) | (go_at_call 12; refine (mask_c _ _).mono ?_; rintro e w' ⟨rfl, rfl⟩) | (go_at_call 9; refine (heads_c _).mono ?_; rintro e w' ⟨rfl, rfl⟩))
      go_ret
      exact ⟨rfl, by repeat (first | exact Grown.refl _ | apply Grown.drew | apply Grown.alloc)⟩
    · obtain ⟨p, rfl⟩ := Int.eq_ofNat_of_zero_le (show 0 ≤ a1 by omega)
      have hp : p < 64 := by omega
      obtain ⟨r0, r1⟩ := rank_bounds a0 (p : Int)
      obtain ⟨q0, q1⟩ := pop_bounds (a0 / 2 ^ p)
      obtain ⟨v0, v1⟩ := pop_bounds a0
      obtain ⟨y0, y1⟩ := shr_bounds a0 p x0 x1
      have mx : IntKind.u64.max = 18446744073709551615 := rfl
      have sg : IntKind.u64.signed = false := rfl
      have M : Hid (0 ≤ bits BinOp.and IntKind.u64 a0 (maskI (p : Int)) ∧ bits BinOp.and IntKind.u64 a0 (maskI (p : Int)) < 18446744073709551616) := and_mask_bounds a0 (p : Int) x0 x1
      have F : Hid (0 ≤ bits BinOp.xor IntKind.u64 IntKind.u64.max a0 ∧ bits BinOp.xor IntKind.u64 IntKind.u64.max a0 < 18446744073709551616) := by rw [mx]; exact flip_bounds a0 x0 x1
      have e1 : (rankI a0 (p : Int) + popI (a0 / 2 ^ p) == popI a0) = true := by simp [parts a0 p x0 x1 hp]
      have e2 : (popI (bits BinOp.and IntKind.u64 a0 (maskI (p : Int))) == rankI a0 (p : Int)) = true := by simp [pop_mask a0 p x0 x1]
      have e3 : (popI (bits BinOp.xor IntKind.u64 IntKind.u64.max a0) == 64 - popI a0) = true := by rw [mx]; simp [pop_flip a0 x0 x1]
      clear n0 n1 c d mx
      go_enter Try.func7, Try.ntmps7
      go_wp2_with (first | (go_at_call 11; refine (rank_c _ _ ?_ ?_ _).mono ?_; (first | with_reducible assumption | decide); (first | with_reducible assumption | decide); rintro e w' ⟨rfl, rfl⟩) | (go_at_call 13; refine (pop_c _ ?_ ?_ _).mono ?_; (first | with_reducible assumption | with_reducible exact M.out.1 | with_reducible exact F.out.1); (first | with_reducible assumption | with_reducible exact M.out.2 | with_reducible exact F.out.2); rintro e w' ⟨rfl, rfl⟩) | (go_at_call 12; refine (mask_c _ _).mono ?_; rintro e w' ⟨rfl, rfl⟩) | (go_at_call 9; refine (heads_c _).mono ?_; rintro e w' ⟨rfl, rfl⟩))
      go_ret
      exact ⟨rfl, by repeat (first | exact Grown.refl _ | apply Grown.drew | apply Grown.alloc)⟩

/-! ### THE ROW's STEP: WRITTEN OUT: LEAVE IT -/
set_option maxRecDepth 100000 in
theorem lifted (os : Os) (started : os.Started) (H : Type) (enc : TypeId × Value → H) :
    ReturnsInHanded {} Try.checked os 7 .any (Rows.wordPartsSpec.pre6 enc Try.prog Try.f7 Rows.wordPartsRow.domain false) (Rows.wordPartsSpec.post enc Try.prog Try.f7 false true false false) := by
  refine returnsInHanded_of_change (C := Try.checked) own started (by kernel_rfl) Try.func7
    (ChangeSpec.witness6 (enc := enc) (C := Try.checked) false ⟨#[], #[.int .u64 0, .int .i64 0], []⟩ 8 (by kernel_rfl) (by kernel_rfl) (by kernel_rfl) (by kernel_rfl)) ?_
  intro W base args ds gs before hval0 hW hcnd _
  have hval : ∀ (j : Nat) t v, Try.f7.params[j]? = some t → args[j]? = some v → Value.okWide Try.prog W .any base t v := hval0
  have hW' := hW
  obtain ⟨p, q, hA0, hV, rfl, hfz, hnd⟩ := hW
  have hA : DataW.TrodAll enc Try.prog W 0 (fun _ => true) true Try.f7.params.toList args.toList ds p := hA0
  rw [Try.params7] at hA hval
  obtain ⟨v0, vs0, d0, ds0, p0, q0, hargs, rfl, rfl, h0, r0⟩ := trodAll_cons hA
  obtain ⟨v1, vs1, d1, ds1, p1, q1, rfl, rfl, rfl, h1, r1⟩ := trodAll_cons r0
  obtain ⟨rfl, rfl, rfl⟩ := trodAll_nil r1
  obtain rfl : args = #[v0, v1] := by cases args; simp_all
  obtain ⟨rfl, rfl⟩ := trodVars_none hV
  obtain ⟨a0, rfl, rfl, rfl, w0⟩ := open_int Try.underlying22 (hval 0 22 v0 rfl rfl) h0
  obtain ⟨a1, rfl, rfl, rfl, w1⟩ := open_int Try.underlying3 (hval 1 3 v1 rfl rfl) h1
  clear hA0 hval0
  simp only [List.append_nil] at hW'
  refine (walk a0 a1 w0 w1 W).mono fun e W' ⟨he, hg⟩ => ?_
  subst he
  exact ⟨_, rfl, post_of_same (pa := []) (pv := []) hW' (fun _ _ _ => (trodAll_cons_mk (shut_bool Try.underlying4 _) trodAll_mk0)) (fun sp _ => (trodAll_cons_mk (shut_int Try.underlying22 w0) (trodAll_cons_mk (shut_int Try.underlying3 w1) trodAll_mk0))) (fun _ _ => rfl) rfl
    (hg.frame _) hg.2.1 (ok_one (by kernel_rfl) rfl (okWide_bool_mk Try.underlying4 _))⟩

theorem over : Rows.wordPartsRow.holds Try.pinned (OpenSpec.ofChange Rows.wordPartsSpec) :=
  OpenClaim.holds_of_wide 7 Try.f7 rfl rfl rfl rfl rfl rfl rfl ⟨rfl, rfl, rfl, rfl, rfl⟩ rfl rfl rfl rfl rfl (by kernel_rfl) Try.func7 (by kernel_rfl)
    (of_decide_eq_true (by kernel_rfl)) (by unfold Func.isWrapper; first | (rw [if_pos (by decide +kernel)]; kernel_rfl) | (rw [if_neg (by decide +kernel)]; exact ⟨rfl, rfl⟩))
    (fun os started H enc _ => lifted os started H enc)

/-- ████ THE STATEMENT ████ -/
theorem proved : Rows.WordPartsSaid :=
  over
#print axioms proved
end Go.Proofs.Ytlfklkamhdfefaa.wordParts
