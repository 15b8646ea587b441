/-
  BwtOnce: of turned texts, right or not, one that is turned back is turned to itself again.
-/
import Derived.Test.YtojjinjgmijgcaaBw8
import Derived.ChangeOld
import Derived.Deep.DeepCutAuto
namespace Go.Proofs.Ytojjinjgmijgcaa.bwtOnce
open Go.ChangeShapes Go.WideShapes Go.ChangeAt Go.RowKit
set_option linter.unusedVariables false
set_option linter.unusedSimpArgs false
set_option maxRecDepth 100000


set_option maxHeartbeats 8000000 in
theorem walk (w : World) (ob : Option Addr) (b : List Nat) (cb : Nat) (rb : Int) (pb : Option Addr) (mb : List Int) (db : Nat) (Xb : Bd w ob b) (Fb : Bytes b) (Cb : b.length ≤ cb) (Rb : -9223372036854775808 ≤ rb ∧ rb ≤ 9223372036854775807) (Yb : Nd w pb mb) (Gb : FitI mb) (Db : mb.length ≤ db) :
    Calls Try.prog 3 #[.agg #[.slice ob b.length cb, .int .i64 rb, .slice pb mb.length db]] w fun e w' => e = .returned (.bool true) ∧ Below w.heap.size w w' := by
  by_cases hL : 500 < b.length
  · have hL2 : (500 : Int) < (b.length : Int) := by omega
    go_enter Try.func3, Try.ntmps3
    go_wp2_with fail
    refine (heads18_c _).mono ?_
    rintro e w9 ⟨rfl, hb⟩
    have HB := (below_alloc w (.cells #[.slice ob b.length cb, .int .i64 rb, .slice pb mb.length db] 25)).trans (hb.mono (by simp))
    go_wp2
    go_ret
    exact ⟨rfl, HB⟩
  have hL2 : ¬ (500 : Int) < (b.length : Int) := by omega
  by_cases hM : 1000 < mb.length
  · have hM2 : (1000 : Int) < (mb.length : Int) := by omega
    go_enter Try.func3, Try.ntmps3
    go_wp2_with fail
    refine (heads18_c _).mono ?_
    rintro e w9 ⟨rfl, hb⟩
    have HB := (below_alloc w (.cells #[.slice ob b.length cb, .int .i64 rb, .slice pb mb.length db] 25)).trans (hb.mono (by simp))
    go_wp2
    go_ret
    exact ⟨rfl, HB⟩
  have hM2 : ¬ (1000 : Int) < (mb.length : Int) := by omega
  obtain ⟨W, hW⟩ : ∃ W, W = w.alloc (.cells #[.slice ob b.length cb, .int .i64 rb, .slice pb mb.length db] 25) := ⟨_, rfl⟩
  have bW : Below w.heap.size w W := by rw [hW]; exact below_alloc w _
  have B0 : Cel W w.heap.size [.slice ob b.length cb, .int .i64 rb, .slice pb mb.length db] 25 := by rw [hW]; exact Cel.new w _ _
  have HA : BA w ob b cb pb mb db := ⟨Xb, Fb, Cb, Yb, by omega⟩
  have K1 : Hid (∀ w0, w0 = W → Calls Try.prog 9 #[.agg #[.slice ob b.length cb, .int .i64 rb, .slice pb mb.length db]] w0 (BackQ b rb mb w0)) := fun w0 e => by subst e; exact bback_c ob b cb rb pb mb db w0 (HA.keep bW)
  have C1 : Hid (∀ w0, Below w.heap.size w w0 → Calls Try.prog 10 #[.agg #[.slice ob b.length cb, .int .i64 rb, .slice pb mb.length db]] w0 fun e w' => e = .returned (.bool (Su.bok b rb mb)) ∧ Below w0.heap.size w0 w') := fun w0 h => bchk_c ob b cb rb pb mb db w0 (HA.keep h)
  unfold BackQ at K1
  rcases Su.bok_or b rb mb with ⟨k, t, ht⟩ | ⟨k, hno⟩
  · rw [(Su.back_ok ht).1, (Su.back_ok ht).2] at K1
    rw [k] at C1
    have hl8 := ht.n
    have M1 : Hid (∀ w0 ao cap, Bd w0 ao t → t.length ≤ cap → Calls Try.prog 11 #[.slice ao t.length cap] w0 fun e w' => ∃ lo lc co cc, e = .returned (.tuple #[.agg #[.slice lo t.length lc, .int .i64 rb, .slice co 257 cc], .int .i64 0]) ∧ MA w' t lo lc co cc ∧ Below w0.heap.size w0 w') := fun w0 ao cap h hc => by
      have := mmake_c ao t cap w0 h ht.b hc ht.n
      rw [ht.r] at this
      exact this
    have S1 : Hid (∀ w0 lo lc co cc, Below w.heap.size w w0 → MA w0 t lo lc co cc → Calls Try.prog 12 #[.agg #[.slice ob b.length cb, .int .i64 rb, .slice pb mb.length db], .agg #[.slice lo t.length lc, .int .i64 rb, .slice co 257 cc]] w0 fun e w' => e = .returned (.bool true) ∧ Below w0.heap.size w0 w') := fun w0 lo lc co cc h hm => by
      have hA := HA.keep h
      have := rbsame_c ob b cb rb pb mb db lo (Su.La t) lc rb co (toI (Su.fs t)) cc w0 hA.x hA.n hm.x hm.n hA.b hm.b hA.c
      rw [decide_eq_true ht.l.symm, decide_eq_true rfl, decide_eq_true ht.c.symm, Su.length_La, length_toI, Su.length_fs] at this
      exact this
    clear HA Xb Fb Cb Yb Gb Db k
    obtain ⟨n, hn⟩ : ∃ n, Hid (n = t.length) := ⟨_, rfl⟩
    rw [← hn.out] at K1 M1 S1
    go_enter Try.func3, Try.ntmps3
    go_wp2_with fail
    rw [← hW]
    refine (K1.out _ rfl).mono ?_
    rintro e w1 ⟨to2, tc, rfl, hT, htc, hb⟩
    have HT := hide hT
    have B1 := hide (B0.kept hb)
    have HB := hide (bW.trans (hb.mono bW.size))
    clear hb K1 hT bW B0 hW
    go_wp2_with fail
    refine (M1.out _ _ _ HT.out htc).mono ?_
    rintro e w2 ⟨lo, lc, co, cc, rfl, hM9, hb⟩
    have ba := below_alloc w2 (.cells #[.slice lo n lc, .int .i64 rb, .slice co 257 cc] 25)
    have BX := hide (Cel.new w2 [.slice lo n lc, .int .i64 rb, .slice co 257 cc] 25)
    have HM := hide (hM9.keep ba)
    replace B1 := hide ((B1.out.kept hb).kept ba)
    replace HB := hide ((HB.out.trans (hb.mono HB.out.size)).trans (ba.mono (by have := HB.out.size; have := hb.size; omega)))
    clear hb hM9 M1 ba HT
    have d0 := B1.out.cell 0 rfl
    have d1 := B1.out.cell 1 rfl
    have d2 := B1.out.cell 2 rfl
    go_wp2_with fail
    refine (S1.out _ _ _ _ _ HB.out HM.out).mono ?_
    rintro e w3 ⟨rfl, hb⟩
    replace B1 := hide (B1.out.kept hb)
    replace HB := hide (HB.out.trans (hb.mono HB.out.size))
    clear hb S1 BX d0 d1 d2
    have d0 := B1.out.cell 0 rfl
    have d1 := B1.out.cell 1 rfl
    have d2 := B1.out.cell 2 rfl
    go_wp2_with fail
    refine (C1.out _ HB.out).mono ?_
    rintro e w4 ⟨rfl, hb⟩
    replace HB := hide (HB.out.trans (hb.mono HB.out.size))
    clear hb C1
    go_wp2_with fail
    refine (heads18_c _).mono ?_
    rintro e w5 ⟨rfl, hb⟩
    replace HB := hide (HB.out.trans (hb.mono HB.out.size))
    clear hb
    go_wp2
    go_ret
    exact ⟨rfl, HB.out⟩
  · rw [(Su.back_bad hno).1, (Su.back_bad hno).2] at K1
    rw [k] at C1
    clear HA Xb Fb Cb Yb Gb Db k hno
    go_enter Try.func3, Try.ntmps3
    go_wp2_with fail
    rw [← hW]
    refine (K1.out _ rfl).mono ?_
    rintro e w1 ⟨to2, tc, rfl, _, _, hb⟩
    have B1 := hide (B0.kept hb)
    have HB := hide (bW.trans (hb.mono bW.size))
    clear hb K1 bW B0 hW
    have d0 := B1.out.cell 0 rfl
    have d1 := B1.out.cell 1 rfl
    have d2 := B1.out.cell 2 rfl
    go_wp2_with fail
    refine (C1.out _ HB.out).mono ?_
    rintro e w4 ⟨rfl, hb⟩
    replace HB := hide (HB.out.trans (hb.mono HB.out.size))
    clear hb C1
    go_wp2_with fail
    refine (heads18_c _).mono ?_
    rintro e w5 ⟨rfl, hb⟩
    replace HB := hide (HB.out.trans (hb.mono HB.out.size))
    clear hb
    go_wp2
    go_ret
    exact ⟨rfl, HB.out⟩

theorem lifted (os : Os) (started : os.Started) (H : Type) (enc : TypeId × Value → H) :
    ReturnsInHanded {} Try.checked os 3 .any (Rows.bwtOnceSpec.pre6 enc Try.prog Try.f3 Rows.bwtOnceRow.domain false) (Rows.bwtOnceSpec.post enc Try.prog Try.f3 false true false false) := by
  refine returnsInHanded_of_change (C := Try.checked) own started (by kernel_rfl) Try.func3
    (ChangeSpec.witness6 (enc := enc) (C := Try.checked) false ⟨#[], #[.agg #[.slice none 0 0, .int .i64 0, .slice none 0 0]], []⟩ 8 (by kernel_rfl) (by kernel_rfl) (by kernel_rfl) (by kernel_rfl)) ?_
  intro W base args ds gs before hval0 hW hcnd _
  have hval : ∀ (j : Nat) t v, Try.f3.params[j]? = some t → args[j]? = some v → Value.okWide Try.prog W .any base t v := hval0
  have hW' := hW
  obtain ⟨p, q, hA0, hV, rfl, hfz, hnd⟩ := hW
  have hA : DataW.TrodAll enc Try.prog W 0 (fun _ => true) true Try.f3.params.toList args.toList ds p := hA0
  rw [Try.params3] at hA hval
  obtain ⟨v0, vs0, d0, ds0, p0, q0, hargs, rfl, rfl, h0, r0⟩ := trodAll_cons hA
  obtain ⟨rfl, rfl, rfl⟩ := trodAll_nil r0
  obtain rfl : args = #[v0] := by cases args; simp_all
  obtain ⟨rfl, rfl⟩ := trodVars_none hV
  have k0 := h0
  have lt0 : ∀ x ∈ p0, x.block < W.heap.size := by obtain ⟨m, hm⟩ := k0; exact DataW.trod_lt m _ _ _ hm
  obtain ⟨ob, b, cb, rb, pb, mb, db, rfl, b01, b02, b03, b04, b05, b06, b07⟩ := open_bwt (hval 0 25 v0 rfl rfl) h0
  clear hA0 hval0
  refine (walk W ob b cb rb pb mb db b01 b02 b03 b04 b05 b06 b07).mono fun e W' ⟨he, bel⟩ => ?_
  subst he
  exact ⟨_, rfl, _, _, _, [], _, [], hW', trodAll_mk1 (shut_bool Try.underlying4 _), (trodAll_cons_mk (Below.trod laidOut (by kernel_rfl) (of_decide_eq_true (by kernel_rfl)) k0 bel lt0) trodAll_mk0), rfl, bel.frame _, fun h => by cases h⟩

theorem over : Rows.bwtOnceRow.holds Try.pinned (OpenSpec.ofChange Rows.bwtOnceSpec) :=
  OpenClaim.holds_of_wide 3 Try.f3 rfl rfl rfl rfl rfl rfl rfl ⟨rfl, rfl, rfl, rfl, rfl⟩ rfl rfl rfl rfl rfl (by kernel_rfl) Try.func3 (by kernel_rfl)
    (of_decide_eq_true (by kernel_rfl)) (by unfold Func.isWrapper; first | (rw [if_pos (by decide +kernel)]; kernel_rfl) | (rw [if_neg (by decide +kernel)]; exact ⟨rfl, rfl⟩))
    (fun os started H enc _ => lifted os started H enc)

theorem proved : Rows.BwtOnceSaid := over
end Go.Proofs.Ytojjinjgmijgcaa.bwtOnce
namespace Go.Proofs.Ytojjinjgmijgcaa
theorem bwtOnce_holds : Rows.BwtOnceSaid := bwtOnce.proved
#print axioms bwtOnce_holds
end Go.Proofs.Ytojjinjgmijgcaa
