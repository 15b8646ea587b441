/-
  CrcTells: sums are what the document says, for all bytes.
-/
import Derived.Test.YtckkcbndibjgoaaHc
import Derived.Test.YtckkcbndibjgoaaHc
import Derived.ChangeOld
namespace Go.Proofs.Ytckkcbndibjgoaa.crcTells
open Go.ChangeShapes Go.WideShapes Go.ChangeAt Go.RowKit Crc
set_option linter.unusedVariables false
set_option linter.unusedSimpArgs false
set_option maxRecDepth 100000


set_option maxHeartbeats 4000000 in
theorem walk (w : World) (s : Int) (hs : 0 ≤ s ∧ s < 4294967296) (ab : Option Addr) (b : List Nat) (cb : Nat) (Xb : Bd w ab b) (Fb : Bytes b) (Cb : b.length ≤ cb) :
    Calls Try.prog 4 #[.int .u32 s, .slice ab b.length cb] w fun e w' => e = .returned (.bool true) ∧ Below w.heap.size w w' := by
  obtain ⟨s, rfl⟩ := Int.eq_ofNat_of_zero_le hs.1
  have hs2 : s < 4294967296 := by omega
  by_cases hL : 20000 < b.length
  · have hL2 : (20000 : Int) < (b.length : Int) := by omega
    go_enter Try.func4, Try.ntmps4
    go_wp2_with fail
    refine (heads_c _).mono ?_
    rintro e w9 ⟨rfl, hb⟩
    go_wp2
    go_ret
    exact ⟨rfl, hb⟩
  · have hL2 : ¬ (20000 : Int) < (b.length : Int) := by omega
    have S1 : Hid (∀ w0 : World, w0 = w → Calls Try.prog 8 #[.slice ab b.length cb] w0 fun e w' => e = .returned (.int .u32 (sumL b)) ∧ w' = w0) := fun w0 h => by subst h; exact sum_c ab b cb w0 Xb Fb (by omega)
    have S2 : Hid (∀ w0 : World, w0 = w → Calls Try.prog 9 #[.slice ab b.length cb] w0 fun e w' => e = .returned (.int .u32 (sumL b)) ∧ w' = w0) := fun w0 h => by subst h; exact rsum_c ab b cb w0 Xb Fb (by omega)
    have S3 : Hid (∀ w0 : World, w0 = w → Calls Try.prog 10 #[.int .u32 s, .slice ab b.length cb] w0 fun e w' => e = .returned (.int .u32 (moreL s b)) ∧ w' = w0) := fun w0 h => by subst h; exact more_c s ab b cb w0 hs2 Xb Fb (by omega)
    have S4 : Hid (∀ w0 : World, w0 = w → Calls Try.prog 11 #[.int .u32 s, .slice ab b.length cb] w0 fun e w' => e = .returned (.int .u32 (moreL s b)) ∧ w' = w0) := fun w0 h => by subst h; exact rmore_c s ab b cb w0 hs2 Xb Fb (by omega)
    generalize sumL b = Y at *
    generalize moreL s b = Z at *
    go_enter Try.func4, Try.ntmps4
    go_wp2_with fail
    refine (S1.out _ rfl).mono ?_
    rintro e w1 ⟨rfl, h1⟩
    rw [h1]
    clear h1 w1
    go_wp2_with fail
    refine (S2.out _ rfl).mono ?_
    rintro e w2 ⟨rfl, h2⟩
    rw [h2]
    clear h2 w2
    go_wp2_with fail
    refine (S3.out _ rfl).mono ?_
    rintro e w3 ⟨rfl, h3⟩
    rw [h3]
    clear h3 w3
    go_wp2_with fail
    refine (S4.out _ rfl).mono ?_
    rintro e w4 ⟨rfl, h4⟩
    rw [h4]
    clear h4 w4
    go_wp2_with fail
    refine (heads_c _).mono ?_
    rintro e w9 ⟨rfl, hb⟩
    go_wp2
    go_ret
    exact ⟨rfl, hb⟩

theorem lifted (os : Os) (started : os.Started) (H : Type) (enc : TypeId × Value → H) :
    ReturnsInHanded {} Try.checked os 4 .any (Rows.crcTellsSpec.pre6 enc Try.prog Try.f4 Rows.crcTellsRow.domain false) (Rows.crcTellsSpec.post enc Try.prog Try.f4 false true false false) := by
  refine returnsInHanded_of_change (C := Try.checked) own started (by kernel_rfl) Try.func4
    (ChangeSpec.witness6 (enc := enc) (C := Try.checked) false ⟨#[], #[.int .u32 0, .slice none 0 0], []⟩ 8 (by kernel_rfl) (by kernel_rfl) (by kernel_rfl) (by kernel_rfl)) ?_
  intro W base args ds gs before hval0 hW hcnd _
  have hval : ∀ (j : Nat) t v, Try.f4.params[j]? = some t → args[j]? = some v → Value.okWide Try.prog W .any base t v := hval0
  have hW' := hW
  obtain ⟨p, q, hA0, hV, rfl, hfz, hnd⟩ := hW
  have hA : DataW.TrodAll enc Try.prog W 0 (fun _ => true) true Try.f4.params.toList args.toList ds p := hA0
  rw [Try.params4] at hA hval
  obtain ⟨v0, vs0, d0, ds0, p0, q0, hargs, rfl, rfl, h0, r0⟩ := trodAll_cons hA
  obtain ⟨v1, vs1, d1, ds1, p1, q1, rfl, rfl, rfl, h1, r1⟩ := trodAll_cons r0
  obtain ⟨rfl, rfl, rfl⟩ := trodAll_nil r1
  obtain rfl : args = #[v0, v1] := by cases args; simp_all
  obtain ⟨rfl, rfl⟩ := trodVars_none hV
  obtain ⟨s, rfl, rfl, rfl, w0⟩ := open_int Try.underlying24 (hval 0 24 v0 rfl rfl) h0
  have k1 := h1
  have lt1 : ∀ x ∈ p1, x.block < W.heap.size := by obtain ⟨m, hm⟩ := k1; exact DataW.trod_lt m _ _ _ hm
  obtain ⟨ab, b, cb, rfl, bb1, bb2, bb3⟩ := open_bytes (hval 1 22 v1 rfl rfl) h1
  clear hA0 hval0
  refine (walk W s (u32_wf _ w0) ab b cb bb1 bb2 bb3).mono fun e W' ⟨he, bel⟩ => ?_
  subst he
  exact ⟨_, rfl, _, _, _, [], _, [], hW', trodAll_mk1 (shut_bool Try.underlying4 _), (trodAll_cons_mk (shut_int Try.underlying24 w0) (trodAll_cons_mk (Below.trod laidOut (by kernel_rfl) (of_decide_eq_true (by kernel_rfl)) k1 bel lt1) trodAll_mk0)), rfl, bel.frame _, fun h => by cases h⟩

theorem over : Rows.crcTellsRow.holds Try.pinned (OpenSpec.ofChange Rows.crcTellsSpec) :=
  OpenClaim.holds_of_wide 4 Try.f4 rfl rfl rfl rfl rfl rfl rfl ⟨rfl, rfl, rfl, rfl, rfl⟩ rfl rfl rfl rfl rfl (by kernel_rfl) Try.func4 (by kernel_rfl)
    (of_decide_eq_true (by kernel_rfl)) (by unfold Func.isWrapper; first | (rw [if_pos (by decide +kernel)]; kernel_rfl) | (rw [if_neg (by decide +kernel)]; exact ⟨rfl, rfl⟩))
    (fun os started H enc _ => lifted os started H enc)

theorem proved : Rows.CrcTellsSaid := over
end Go.Proofs.Ytckkcbndibjgoaa.crcTells
namespace Go.Proofs.Ytckkcbndibjgoaa
theorem crcTells_holds : Rows.CrcTellsSaid := crcTells.proved
#print axioms crcTells_holds
end Go.Proofs.Ytckkcbndibjgoaa
