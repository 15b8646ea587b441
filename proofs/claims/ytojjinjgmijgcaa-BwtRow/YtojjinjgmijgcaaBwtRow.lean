/-
  BwtRow: Row is where the whole text stands in the order of ends.
-/
import Derived.Test.YtojjinjgmijgcaaBw8
import Derived.ChangeOld
import Derived.Deep.DeepCutAuto
namespace Go.Proofs.Ytojjinjgmijgcaa.bwtRow
open Go.ChangeShapes Go.WideShapes Go.ChangeAt Go.RowKit
set_option linter.unusedVariables false
set_option linter.unusedSimpArgs false
set_option maxRecDepth 100000


set_option maxHeartbeats 8000000 in
theorem walk (w : World) (ot : Option Addr) (t : List Nat) (ct : Nat) (Xt : Bd w ot t) (Ft : Bytes t) (Ct : t.length ≤ ct) :
    Calls Try.prog 4 #[.slice ot t.length ct] w fun e w' => e = .returned (.bool true) ∧ Below w.heap.size w w' := by
  by_cases hL : 600 < t.length
  · have hL2 : (600 : Int) < (t.length : Int) := by omega
    go_enter Try.func4, Try.ntmps4
    go_wp2_with fail
    refine (heads18_c _).mono ?_
    rintro e w9 ⟨rfl, hb⟩
    go_wp2
    go_ret
    exact ⟨rfl, hb⟩
  have hL2 : ¬ (600 : Int) < (t.length : Int) := by omega
  have M1 := hide (mmake_c ot t ct w Xt Ft Ct (by omega))
  have RL := Su.rw_le t
  have A1 : Hid (∀ w0, Below w.heap.size w w0 → Calls Try.prog 13 #[.slice ot t.length ct] w0 (ArrQ t w0)) := fun w0 h => rarr_a ot t ct w0 (Xt.keep h) Ft Ct
  unfold ArrQ at A1
  rw [(Su.arr_in (by omega)).1, (Su.arr_in (by omega)).2, Su.length_sa] at A1
  have Z : Hid (gt (Su.sa t) (Su.rk t 0) = 0) := (Su.row_iff RL).2 rfl
  have LS := hide (Su.length_sa t)
  obtain ⟨n, hn⟩ : ∃ n, Hid (n = t.length) := ⟨_, rfl⟩
  obtain ⟨R, hR⟩ : ∃ R, Hid (R = Su.rk t 0) := ⟨_, rfl⟩
  rw [← hn.out] at M1 A1 hL2 RL LS ⊢
  rw [← hR.out] at M1 RL Z
  have hn2 : n ≤ 600 := by rw [hn.out]; omega
  have rz : (R : Int) < (n : Int) + 1 := by omega
  clear Xt Ft Ct hL
  go_enter Try.func4, Try.ntmps4
  go_wp2_with fail
  refine (M1.out).mono ?_
  rintro e w1 ⟨lo, lc, co, cc, rfl, hM, hb⟩
  have ba := below_alloc w1 (.cells #[.slice lo n lc, .int .i64 (R : Nat), .slice co 257 cc] 25)
  have BX := hide (Cel.new w1 [.slice lo n lc, .int .i64 (R : Nat), .slice co 257 cc] 25)
  have HM := hide (hM.keep ba)
  have HB := hide (hb.trans (ba.mono hb.size))
  clear hb hM M1 ba
  go_wp2_with fail
  refine (A1.out _ HB.out).mono ?_
  rintro e w2 ⟨so, sc, rfl, hN, hle, hb⟩
  replace BX := hide (BX.out.kept hb)
  replace HB := hide (HB.out.trans (hb.mono HB.out.size))
  generalize w1.heap.size = g1 at *
  have c0 := BX.out.cell 0 rfl
  have c1 := BX.out.cell 1 rfl
  obtain ⟨b, off, rfl, hb0, hcc⟩ := hN (by rw [length_toI, LS.out]; omega)
  have e1 := hcc R (by rw [length_toI, LS.out]; omega)
  rw [gi_toI, Z.out] at e1
  clear hb A1 HM hcc Z
  go_wp2_with fail
  refine (heads18_c _).mono ?_
  rintro e w3 ⟨rfl, hb⟩
  replace HB := hide (HB.out.trans (hb.mono HB.out.size))
  clear hb
  go_wp2
  go_ret
  exact ⟨rfl, HB.out⟩

theorem lifted (os : Os) (started : os.Started) (H : Type) (enc : TypeId × Value → H) :
    ReturnsInHanded {} Try.checked os 4 .any (Rows.bwtRowSpec.pre6 enc Try.prog Try.f4 Rows.bwtRowRow.domain false) (Rows.bwtRowSpec.post enc Try.prog Try.f4 false true false false) := by
  refine returnsInHanded_of_change (C := Try.checked) own started (by kernel_rfl) Try.func4
    (ChangeSpec.witness6 (enc := enc) (C := Try.checked) false ⟨#[], #[.slice none 0 0], []⟩ 8 (by kernel_rfl) (by kernel_rfl) (by kernel_rfl) (by kernel_rfl)) ?_
  intro W base args ds gs before hval0 hW hcnd _
  have hval : ∀ (j : Nat) t v, Try.f4.params[j]? = some t → args[j]? = some v → Value.okWide Try.prog W .any base t v := hval0
  have hW' := hW
  obtain ⟨p, q, hA0, hV, rfl, hfz, hnd⟩ := hW
  have hA : DataW.TrodAll enc Try.prog W 0 (fun _ => true) true Try.f4.params.toList args.toList ds p := hA0
  rw [Try.params4] at hA hval
  obtain ⟨v0, vs0, d0, ds0, p0, q0, hargs, rfl, rfl, h0, r0⟩ := trodAll_cons hA
  obtain ⟨rfl, rfl, rfl⟩ := trodAll_nil r0
  obtain rfl : args = #[v0] := by cases args; simp_all
  obtain ⟨rfl, rfl⟩ := trodVars_none hV
  have k0 := h0
  have lt0 : ∀ x ∈ p0, x.block < W.heap.size := by obtain ⟨m, hm⟩ := k0; exact DataW.trod_lt m _ _ _ hm
  obtain ⟨ot, t, ct, rfl, b01, b02, b03⟩ := open_bytes (hval 0 22 v0 rfl rfl) h0
  clear hA0 hval0
  refine (walk W ot t ct b01 b02 b03).mono fun e W' ⟨he, bel⟩ => ?_
  subst he
  exact ⟨_, rfl, _, _, _, [], _, [], hW', trodAll_mk1 (shut_bool Try.underlying4 _), (trodAll_cons_mk (Below.trod laidOut (by kernel_rfl) (of_decide_eq_true (by kernel_rfl)) k0 bel lt0) trodAll_mk0), rfl, bel.frame _, fun h => by cases h⟩

theorem over : Rows.bwtRowRow.holds Try.pinned (OpenSpec.ofChange Rows.bwtRowSpec) :=
  OpenClaim.holds_of_wide 4 Try.f4 rfl rfl rfl rfl rfl rfl rfl ⟨rfl, rfl, rfl, rfl, rfl⟩ rfl rfl rfl rfl rfl (by kernel_rfl) Try.func4 (by kernel_rfl)
    (of_decide_eq_true (by kernel_rfl)) (by unfold Func.isWrapper; first | (rw [if_pos (by decide +kernel)]; kernel_rfl) | (rw [if_neg (by decide +kernel)]; exact ⟨rfl, rfl⟩))
    (fun os started H enc _ => lifted os started H enc)

theorem proved : Rows.BwtRowSaid := over
end Go.Proofs.Ytojjinjgmijgcaa.bwtRow
namespace Go.Proofs.Ytojjinjgmijgcaa
theorem bwtRow_holds : Rows.BwtRowSaid := bwtRow.proved
#print axioms bwtRow_holds
end Go.Proofs.Ytojjinjgmijgcaa
