/-
  CrcPieces: a sum piece by piece is that of all.
-/
import Derived.Test.YtckkcbndibjgoaaHc
import Derived.Test.YtckkcbndibjgoaaHc
import Derived.ChangeOld
namespace Go.Proofs.Ytckkcbndibjgoaa.crcPieces
open Go.ChangeShapes Go.WideShapes Go.ChangeAt Go.RowKit Crc
set_option linter.unusedVariables false
set_option linter.unusedSimpArgs false
set_option maxRecDepth 100000

theorem sumL_lt (l : List Nat) (h : Bytes l) : sumL l < 4294967296 := xor_lt _ _ (all_lt l _ (by decide) h) (by decide)
theorem bytes_app {a b : List Nat} (ha : Bytes a) (hb : Bytes b) : Bytes (a ++ b) := fun x hx => by
  rcases List.mem_append.1 hx with h | h
  · exact ha x h
  · exact hb x h

set_option maxHeartbeats 4000000 in
theorem walk (w : World) (aa : Option Addr) (a : List Nat) (ca : Nat) (Xa : Bd w aa a) (Fa : Bytes a) (Ca : a.length ≤ ca) (ab : Option Addr) (b : List Nat) (cb : Nat) (Xb : Bd w ab b) (Fb : Bytes b) (Cb : b.length ≤ cb) :
    Calls Try.prog 5 #[.slice aa a.length ca, .slice ab b.length cb] w fun e w' => e = .returned (.bool true) ∧ Below w.heap.size w w' := by
  by_cases hL : 10000 < a.length
  · have hL2 : (10000 : Int) < (a.length : Int) := by omega
    go_enter Try.func5, Try.ntmps5
    go_wp2_with fail
    refine (heads_c _).mono ?_
    rintro e w9 ⟨rfl, hb⟩
    go_wp2
    go_ret
    exact ⟨rfl, hb⟩
  have hL2 : ¬ (10000 : Int) < (a.length : Int) := by omega
  by_cases hM : 10000 < b.length
  · have hM2 : (10000 : Int) < (b.length : Int) := by omega
    go_enter Try.func5, Try.ntmps5
    go_wp2_with fail
    refine (heads_c _).mono ?_
    rintro e w9 ⟨rfl, hb⟩
    go_wp2
    go_ret
    exact ⟨rfl, hb⟩
  have hM2 : ¬ (10000 : Int) < (b.length : Int) := by omega
  obtain ⟨i0, hi, hz0, hz1, hz2⟩ := info_parts Try.info5
  have S1 : Hid (∀ w0 : World, w0 = w → Calls Try.prog 8 #[.slice aa a.length ca] w0 fun e w' => e = .returned (.int .u32 (sumL a)) ∧ w' = w0) := fun w0 h => by subst h; exact sum_c aa a ca w0 Xa Fa (by omega)
  have S2 : Hid (∀ w0 : World, w0 = w → Calls Try.prog 10 #[.int .u32 (sumL a), .slice ab b.length cb] w0 fun e w' => e = .returned (.int .u32 (sumL (a ++ b))) ∧ w' = w0) := fun w0 h => by
    subst h
    rw [← pieces]
    exact more_c (sumL a) ab b cb w0 (sumL_lt a Fa) Xb Fb (by omega)
  have S3 : Hid (∀ (w0 : World) (ao : Option Addr) (n cap : Nat), n = (a ++ b).length → Bd w0 ao (a ++ b) → Calls Try.prog 8 #[.slice ao n cap] w0 fun e w' => e = .returned (.int .u32 (sumL (a ++ b))) ∧ w' = w0) := fun w0 ao n cap hn h => by
    subst hn
    exact sum_c ao (a ++ b) cap w0 h (bytes_app Fa Fb) (by simp; omega)
  generalize sumL (a ++ b) = Z at *
  generalize sumL a = Y at *
  go_enter Try.func5, Try.ntmps5
  go_wp2_with fail
  refine (S1.out _ rfl).mono ?_
  rintro e w1 ⟨rfl, h1⟩
  rw [h1]
  clear h1 w1
  go_wp2_with fail
  refine (S2.out _ rfl).mono ?_
  rintro e w2 ⟨rfl, h2⟩
  rw [h2]
  clear h2 w2
  go_wp2_with (at_builtin; refine wpList_append_u rfl _ _ 22 rfl w.heap.size 5 i0 (.int .u8 0) 1 Try.underlying22 hi hz0 hz1 hz2 rfl _ 0 [] rfl ?own aa a.length ca (yv a) rfl (length_yv a) ?src (one_yv a) ?c3 ?c4 ?c5 ?_)
  case own => exact own_new w
  case src => exact (Xa.keep (below_alloc w _)).src _ rfl
  case c3 => unfold maxLen; omega
  case c4 => omega
  case c5 => simp
  intro ao cp w3 own3 hle3 hB3
  have hw3 : Below w.heap.size w w3 := (below_alloc w _).trans hB3
  have hs3 := hw3.size
  have Xb3 := Xb.keep hw3
  clear hB3 Xb
  go_wp2_with (at_builtin; refine wpList_append_u rfl _ _ 22 rfl w.heap.size 5 i0 (.int .u8 0) 1 Try.underlying22 hi hz0 hz1 hz2 rfl _ a.length (yv a) rfl own3 ab b.length cb (yv b) rfl (length_yv b) (Xb3.src _ rfl) (one_yv b) ?c6 ?c7 hs3 ?_)
  case c6 => unfold maxLen; omega
  case c7 => omega
  intro ao4 cp4 w4 own4 hle4 hB4
  have hw4 := hw3.trans hB4
  have e4 : yv a ++ yv b = yv (a ++ b) := by simp [yv]
  rw [e4] at own4
  have X4 := bd_own own4
  clear own4 own3 hB4 hw3 hi hz0 hz1 hz2
  go_wp2_with fail
  refine (S3.out _ _ _ _ (by simp) X4).mono ?_
  rintro e w5 ⟨rfl, h5⟩
  rw [h5]
  clear h5 w5
  go_wp2_with fail
  refine (heads_c _).mono ?_
  rintro e w9 ⟨rfl, hb⟩
  have hw9 := hw4.trans (hb.mono hw4.size)
  go_wp2
  go_ret
  exact ⟨rfl, hw9⟩

theorem lifted (os : Os) (started : os.Started) (H : Type) (enc : TypeId × Value → H) :
    ReturnsInHanded {} Try.checked os 5 .any (Rows.crcPiecesSpec.pre6 enc Try.prog Try.f5 Rows.crcPiecesRow.domain false) (Rows.crcPiecesSpec.post enc Try.prog Try.f5 false true false false) := by
  refine returnsInHanded_of_change (C := Try.checked) own started (by kernel_rfl) Try.func5
    (ChangeSpec.witness6 (enc := enc) (C := Try.checked) false ⟨#[], #[.slice none 0 0, .slice none 0 0], []⟩ 8 (by kernel_rfl) (by kernel_rfl) (by kernel_rfl) (by kernel_rfl)) ?_
  intro W base args ds gs before hval0 hW hcnd _
  have hval : ∀ (j : Nat) t v, Try.f5.params[j]? = some t → args[j]? = some v → Value.okWide Try.prog W .any base t v := hval0
  have hW' := hW
  obtain ⟨p, q, hA0, hV, rfl, hfz, hnd⟩ := hW
  have hA : DataW.TrodAll enc Try.prog W 0 (fun _ => true) true Try.f5.params.toList args.toList ds p := hA0
  rw [Try.params5] at hA hval
  obtain ⟨v0, vs0, d0, ds0, p0, q0, hargs, rfl, rfl, h0, r0⟩ := trodAll_cons hA
  obtain ⟨v1, vs1, d1, ds1, p1, q1, rfl, rfl, rfl, h1, r1⟩ := trodAll_cons r0
  obtain ⟨rfl, rfl, rfl⟩ := trodAll_nil r1
  obtain rfl : args = #[v0, v1] := by cases args; simp_all
  obtain ⟨rfl, rfl⟩ := trodVars_none hV
  have k0 := h0
  have lt0 : ∀ x ∈ p0, x.block < W.heap.size := by obtain ⟨m, hm⟩ := k0; exact DataW.trod_lt m _ _ _ hm
  obtain ⟨aa, a, ca, rfl, ba1, ba2, ba3⟩ := open_bytes (hval 0 22 v0 rfl rfl) h0
  have k1 := h1
  have lt1 : ∀ x ∈ p1, x.block < W.heap.size := by obtain ⟨m, hm⟩ := k1; exact DataW.trod_lt m _ _ _ hm
  obtain ⟨ab, b, cb, rfl, bb1, bb2, bb3⟩ := open_bytes (hval 1 22 v1 rfl rfl) h1
  clear hA0 hval0
  refine (walk W aa a ca ba1 ba2 ba3 ab b cb bb1 bb2 bb3).mono fun e W' ⟨he, bel⟩ => ?_
  subst he
  exact ⟨_, rfl, _, _, _, [], _, [], hW', trodAll_mk1 (shut_bool Try.underlying4 _), (trodAll_cons_mk (Below.trod laidOut (by kernel_rfl) (of_decide_eq_true (by kernel_rfl)) k0 bel lt0) (trodAll_cons_mk (Below.trod laidOut (by kernel_rfl) (of_decide_eq_true (by kernel_rfl)) k1 bel lt1) trodAll_mk0)), rfl, bel.frame _, fun h => by cases h⟩

theorem over : Rows.crcPiecesRow.holds Try.pinned (OpenSpec.ofChange Rows.crcPiecesSpec) :=
  OpenClaim.holds_of_wide 5 Try.f5 rfl rfl rfl rfl rfl rfl rfl ⟨rfl, rfl, rfl, rfl, rfl⟩ rfl rfl rfl rfl rfl (by kernel_rfl) Try.func5 (by kernel_rfl)
    (of_decide_eq_true (by kernel_rfl)) (by unfold Func.isWrapper; first | (rw [if_pos (by decide +kernel)]; kernel_rfl) | (rw [if_neg (by decide +kernel)]; exact ⟨rfl, rfl⟩))
    (fun os started H enc _ => lifted os started H enc)

theorem proved : Rows.CrcPiecesSaid := over
end Go.Proofs.Ytckkcbndibjgoaa.crcPieces
namespace Go.Proofs.Ytckkcbndibjgoaa
theorem crcPieces_holds : Rows.CrcPiecesSaid := crcPieces.proved
#print axioms crcPieces_holds
end Go.Proofs.Ytckkcbndibjgoaa
