/-
  For every word and number Rank and Select go there and back (P1.2): what Select answers is the place of a one with k ones below, or 64 where there is none. No condition.
-/
import Derived.Test.YtlfklkamhdfefaaRows
import Derived.WalkKit
import Derived.ProofKit
import Derived.OpenShut
import Derived.Test.YtlfklkamhdfefaaWords
namespace Go.Proofs.Ytlfklkamhdfefaa.wordBack
open Go.ChangeShapes Go.WideShapes Go.ChangeAt Go.RowKit Num
set_option linter.unusedVariables false      -- a walk need not use every 'w<i>' (that an integer argument fits its kind)

theorem own : ownKnob Try.prog.godebug = none := by kernel_rfl

/-! ### STEP 1: THE WALK: the Go text returns true. 'Grown w w'': the world has at most new blocks (Derived/RowKit3.lean). Part the cases AHEAD of 'go_enter' where a test parts the walk; take each callee by a contract of your own. -/
theorem walk (a0 : Int) (a1 : Int) (w0 : (Lit.int .u64 a0).wf = true) (w1 : (Lit.int .i64 a1).wf = true) (w : World) :
    Calls Try.prog 6 #[.int .u64 a0, .int .i64 a1] w fun e w' => e = .returned (.bool true) ∧ Grown w w' := by
  obtain ⟨x0, x1⟩ := u64_wf a0 w0
  obtain ⟨n0, n1⟩ := i64_wf a1 w1
  clear w0 w1
  by_cases c : selI a0 a1 = 64
  · have cb : (selI a0 a1 == 64) = true := by simp [c]
    have hn := sel_none a0 a1 c
    clear c
    by_cases d : a1 < 0
    · clear hn
      go_enter Try.func6, Try.ntmps6
      go_wp2_with (first | (go_at_call 10; refine (select_c _ _ ?_ ?_ _).mono ?_; (first | with_reducible assumption | decide); (first | with_reducible assumption | decide); rintro e w' ⟨rfl, rfl⟩) | (go_at_call 13; refine (pop_c _ ?_ ?_ _).mono ?_; (first | with_reducible assumption | decide); (first | with_reducible assumption | decide); rintro e w' ⟨rfl, rfl⟩) | (go_at_call 11; refine (rank_c _ _ ?_ ?_ _).mono ?_; (first | with_reducible assumption | decide); (first | with_reducible assumption | decide); rintro e w' ⟨rfl, rfl⟩) | (go_at_call 9; refine (heads_c _).mono ?_; rintro e w' ⟨rfl, rfl⟩))
      go_ret
      exact ⟨rfl, by repeat (first | exact Grown.refl _ | apply Grown.drew | apply Grown.alloc)⟩
    · have hn' : popI a0 ≤ a1 := by omega
      clear hn
      go_enter Try.func6, Try.ntmps6
      go_wp2_with (first | (go_at_call 10; refine (select_c _ _ ?_ ?_ _).mono ?_; (first | with_reducible assumption | decide); (first | with_reducible assumption | decide); rintro e w' ⟨rfl, rfl⟩) | (go_at_call 13; refine (pop_c _ ?_ ?_ _).mono ?_; (first | with_reducible assumption | decide); (first | with_reducible assumption | decide); rintro e w' ⟨rfl, rfl⟩) | (go_at_call 11; refine (rank_c _ _ ?_ ?_ _).mono ?_; (first | with_reducible assumption | decide); (first | with_reducible assumption | decide); rintro e w' ⟨rfl, rfl⟩) | (go_at_call 9; refine (heads_c _).mono ?_; rintro e w' ⟨rfl, rfl⟩))
      go_ret
      exact ⟨rfl, by repeat (first | exact Grown.refl _ | apply Grown.drew | apply Grown.alloc)⟩
  · obtain ⟨s1, s2, s3, s4, s5⟩ := sel_some a0 a1 c
    obtain ⟨p, hp⟩ := Int.eq_ofNat_of_zero_le s1
    rw [hp] at s2 s3 s4 s5 c
    have hr : rankI a0 (p : Int) ≤ 64 := rank_le a0 p
    have cb : ((p : Int) == 64) = false := by simp; omega
    have c1 : (bits BinOp.and IntKind.u64 (a0 / 2 ^ p) 1 == 1) = true := by
      rw [bit_and a0 p x0 x1]
      simp only [Int.toNat_natCast] at s3
      rw [s3]
      rfl
    have c2 : (rankI a0 (p : Int) == a1) = true := by simp [s4]
    have c3 : (rankI a0 ((p : Int) + 1) == a1 + 1) = true := by simp [s5]
    have hk : a1 ≤ 64 := by omega
    clear s1 s3 s4 s5 hr c
    go_enter Try.func6, Try.ntmps6
    go_wp2_with (first | (go_at_call 10; refine (select_c _ _ ?_ ?_ _).mono ?_; (first | with_reducible assumption | decide); (first | with_reducible assumption | decide); rintro e w' ⟨rfl, rfl⟩) | (go_at_call 13; refine (pop_c _ ?_ ?_ _).mono ?_; (first | with_reducible assumption | decide); (first | with_reducible assumption | decide); rintro e w' ⟨rfl, rfl⟩) | (go_at_call 11; refine (rank_c _ _ ?_ ?_ _).mono ?_; (first | with_reducible assumption | decide); (first | with_reducible assumption | decide); rintro e w' ⟨rfl, rfl⟩) | (go_at_call 9; refine (heads_c _).mono ?_; rintro e w' ⟨rfl, rfl⟩))
    go_ret
    exact ⟨rfl, by repeat (first | exact Grown.refl _ | apply Grown.drew | apply Grown.alloc)⟩

/-! ### THE ROW's STEP: WRITTEN OUT: LEAVE IT -/
set_option maxRecDepth 100000 in
theorem lifted (os : Os) (started : os.Started) (H : Type) (enc : TypeId × Value → H) :
    ReturnsInHanded {} Try.checked os 6 .any (Rows.wordBackSpec.pre6 enc Try.prog Try.f6 Rows.wordBackRow.domain false) (Rows.wordBackSpec.post enc Try.prog Try.f6 false true false false) := by
  refine returnsInHanded_of_change (C := Try.checked) own started (by kernel_rfl) Try.func6
    (ChangeSpec.witness6 (enc := enc) (C := Try.checked) false ⟨#[], #[.int .u64 0, .int .i64 0], []⟩ 8 (by kernel_rfl) (by kernel_rfl) (by kernel_rfl) (by kernel_rfl)) ?_
  intro W base args ds gs before hval0 hW hcnd _
  have hval : ∀ (j : Nat) t v, Try.f6.params[j]? = some t → args[j]? = some v → Value.okWide Try.prog W .any base t v := hval0
  have hW' := hW
  obtain ⟨p, q, hA0, hV, rfl, hfz, hnd⟩ := hW
  have hA : DataW.TrodAll enc Try.prog W 0 (fun _ => true) true Try.f6.params.toList args.toList ds p := hA0
  rw [Try.params6] at hA hval
  obtain ⟨v0, vs0, d0, ds0, p0, q0, hargs, rfl, rfl, h0, r0⟩ := trodAll_cons hA
  obtain ⟨v1, vs1, d1, ds1, p1, q1, rfl, rfl, rfl, h1, r1⟩ := trodAll_cons r0
  obtain ⟨rfl, rfl, rfl⟩ := trodAll_nil r1
  obtain rfl : args = #[v0, v1] := by cases args; simp_all
  obtain ⟨rfl, rfl⟩ := trodVars_none hV
  obtain ⟨a0, rfl, rfl, rfl, w0⟩ := open_int Try.underlying22 (hval 0 22 v0 rfl rfl) h0
  obtain ⟨a1, rfl, rfl, rfl, w1⟩ := open_int Try.underlying3 (hval 1 3 v1 rfl rfl) h1
  clear hA0 hval0
  simp only [List.append_nil] at hW'
  refine (walk a0 a1 w0 w1 W).mono fun e W' ⟨he, hg⟩ => ?_
  subst he
  exact ⟨_, rfl, post_of_same (pa := []) (pv := []) hW' (fun _ _ _ => (trodAll_cons_mk (shut_bool Try.underlying4 _) trodAll_mk0)) (fun sp _ => (trodAll_cons_mk (shut_int Try.underlying22 w0) (trodAll_cons_mk (shut_int Try.underlying3 w1) trodAll_mk0))) (fun _ _ => rfl) rfl
    (hg.frame _) hg.2.1 (ok_one (by kernel_rfl) rfl (okWide_bool_mk Try.underlying4 _))⟩

theorem over : Rows.wordBackRow.holds Try.pinned (OpenSpec.ofChange Rows.wordBackSpec) :=
  OpenClaim.holds_of_wide 6 Try.f6 rfl rfl rfl rfl rfl rfl rfl ⟨rfl, rfl, rfl, rfl, rfl⟩ rfl rfl rfl rfl rfl (by kernel_rfl) Try.func6 (by kernel_rfl)
    (of_decide_eq_true (by kernel_rfl)) (by unfold Func.isWrapper; first | (rw [if_pos (by decide +kernel)]; kernel_rfl) | (rw [if_neg (by decide +kernel)]; exact ⟨rfl, rfl⟩))
    (fun os started H enc _ => lifted os started H enc)

/-- ████ THE STATEMENT ████ -/
theorem proved : Rows.WordBackSaid :=
  over
#print axioms proved
end Go.Proofs.Ytlfklkamhdfefaa.wordBack
