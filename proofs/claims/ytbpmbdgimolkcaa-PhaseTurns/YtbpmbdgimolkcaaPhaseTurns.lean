/-
  PhaseTurns: four quarter turns are none; a sum of bytes that are all one more is a turn of it.
-/
import Derived.Test.YtbpmbdgimolkcaaM00
import Derived.ChangeOld
import Derived.Deep.DeepCutAuto
namespace Go.Proofs.Ytbpmbdgimolkcaa.phaseTurns
open Go.ChangeShapes Go.WideShapes Go.ChangeAt Go.RowKit Go.ChangeMaps
set_option linter.unusedVariables false
set_option linter.unusedSimpArgs false
set_option maxRecDepth 100000

theorem u2_len (t : List Nat) : (t.map fun c => (c + 1) % 256).length = t.length := by simp
theorem u2_gt (t : List Nat) (i : Nat) (h : i < t.length) : gt (t.map fun c => (c + 1) % 256) i = (gt t i + 1) % 256 := by
  unfold gt
  rw [List.getD_eq_getElem?_getD, List.getD_eq_getElem?_getD, List.getElem?_map, List.getElem?_eq_getElem h]
  rfl
theorem u2_bytes (t : List Nat) : Bytes (t.map fun c => (c + 1) % 256) := fun x hx => by
  obtain ⟨y, _, rfl⟩ := List.mem_map.1 hx
  exact Nat.mod_lt _ (by decide)
theorem u2_sum (t : List Nat) (hB : Bytes t) : Ph.sm (t.map fun c => (c + 1) % 256) t.length = Ph.mul (Ph.sm t t.length) (Ph.mk 1) := by
  unfold Ph.sm
  exact Ph.su_turn _ fun i hi => by rw [u2_gt t i hi, Ph.mk_next _ (gt_lt hB i)]
theorem yv_next (t : List Nat) (k : Nat) (h : k < t.length) : yv (t.take (k + 1)) = yv (t.take k) ++ [.int .u8 (gt t k : Nat)] := by
  rw [List.take_add_one, gt_get t k h]
  simp [yv]
theorem mul_box {z : Ph.P} (n : Int) (h1 : -1000 ≤ z.1 ∧ z.1 ≤ 1000) (h2 : -1000 ≤ z.2 ∧ z.2 ≤ 1000) (c : Nat) : (-1000000 ≤ (Ph.mul z (Ph.mk c)).1 ∧ (Ph.mul z (Ph.mk c)).1 ≤ 1000000) ∧ (-1000000 ≤ (Ph.mul z (Ph.mk c)).2 ∧ (Ph.mul z (Ph.mk c)).2 ≤ 1000000) := by
  unfold Ph.mul
  rcases Ph.mk_U c with q | q | q | q <;> rw [q] <;> simp only [Int.mul_zero, Int.mul_one, Int.mul_neg] <;> omega

set_option maxHeartbeats 8000000 in
theorem walk (w : World) (ot : Option Addr) (t : List Nat) (ct : Nat) (Xt : Bd w ot t) (Ft : Bytes t) (Ct : t.length ≤ ct) (n : Int) (hn_ : -9223372036854775808 ≤ n ∧ n ≤ 9223372036854775807) :
    Calls Try.prog 4 #[.slice ot t.length ct, .int .i64 n] w fun e w' => e = .returned (.bool true) ∧ Below w.heap.size w w' := by
  have HH := hide heads23_c
  obtain ⟨i0, hi, hz0, hz1, hz2⟩ := info_parts Try.info5
  have HI0 := hide (And.intro hi (And.intro hz0 (And.intro hz1 hz2)))
  clear hi hz0 hz1 hz2
  by_cases hL : 1000 < t.length
  · have hLz : (1000 : Int) < (t.length : Int) := by omega
    go_enter Try.func4, Try.ntmps4
    go_wp2_with fail
    refine (HH.out _).mono ?_
    rintro e w1 ⟨rfl, hb⟩
    go_wp2
    go_ret
    exact ⟨rfl, hb⟩
  have hLz : ¬ (1000 : Int) < (t.length : Int) := by omega
  by_cases h0 : n < 0
  · go_enter Try.func4, Try.ntmps4
    go_wp2_with fail
    refine (HH.out _).mono ?_
    rintro e w1 ⟨rfl, hb⟩
    go_wp2
    go_ret
    exact ⟨rfl, hb⟩
  by_cases h1 : 100 < n
  · go_enter Try.func4, Try.ntmps4
    go_wp2_with fail
    refine (HH.out _).mono ?_
    rintro e w1 ⟨rfl, hb⟩
    go_wp2
    go_ret
    exact ⟨rfl, hb⟩
  have hl1000 : t.length ≤ 1000 := by omega
  obtain ⟨u, hu⟩ : ∃ u, Hid (u = t.map fun c => (c + 1) % 256) := ⟨t.map fun c => (c + 1) % 256, (rfl : (t.map fun c => (c + 1) % 256) = _)⟩
  have hul : Hid (u.length = t.length) := by rw [hu.out]; exact u2_len t
  have huB : Hid (Bytes u) := by rw [hu.out]; exact u2_bytes t
  have hug : Hid (∀ k, k < t.length → gt u k = (gt t k + 1) % 256) := fun k hk => by rw [hu.out]; exact u2_gt t k hk
  have hus : Hid (Ph.sm u u.length = Ph.mul (Ph.sm t t.length) (Ph.mk 1)) := by rw [hul.out, hu.out]; exact u2_sum t Ft
  go_enter Try.func4, Try.ntmps4
  go_wp2
  go_loopw [5, 6] (fun vo vi wr => ∃ k : Nat, k ≤ t.length ∧ vi = .int .i64 (k : Nat) ∧ Hid (wr.ownsRow w.heap.size 5 1 vo k (yv (u.take k))) ∧ Hid (Below w.heap.size w wr)) (fun _ vi _ => t.length - (intOf vi).toNat)
  case atStart => exact ⟨0, by omega, rfl, ⟨rfl, .inl ⟨rfl, rfl⟩⟩, Below.refl _ _⟩
  case round =>
    obtain ⟨k, hk, rfl, HO, HB⟩ := hrel
    by_cases hlt : k < t.length
    · obtain ⟨b, off, rfl, hb1, hc⟩ := Xt (by omega)
      have e1 := (HB.out.cell (p := ⟨b, off + k, none⟩) hb1).trans (hc k hlt)
      have hg := gt_lt Ft k
      have hgz : (gt t k : Int) < 256 := by omega
      have hltz : (k : Int) < (t.length : Int) := by omega
      have HU : Hid (yv (u.take (k + 1)) = yv (u.take k) ++ [.int .u8 (((gt t k + 1) % 256 : Nat) : Int)]) := by
        have := yv_next u k (by rw [hul.out]; exact hlt)
        rwa [hug.out k hlt] at this
      obtain ⟨x, hx⟩ : ∃ x, Hid (gt t k = x) := ⟨_, rfl⟩
      rw [hx.out] at e1 hg hgz HU
      have wx : IntKind.u8.wrap ((x : Int) + 1) = (((x + 1) % 256 : Nat) : Int) := by simp [IntKind.wrap, IntKind.bits, IntKind.signed]
      have hws : w.heap.size ≤ wr.heap.size := HB.out.size
      obtain ⟨hi, hz0, hz1, hz2⟩ := HI0.out
      clear hc hx
      go_wp2_with (at_builtin; go_loud (refine Ap.wpList_append_u (by rfl) _ _ _ (by rfl) w.heap.size 5 i0 (.int .u8 0) 1 Try.underlying22 hi hz0 hz1 hz2 (by decide) u5 k (yv (u.take k)) (by rfl) (owns_below HO.out (below_alloc wr _)) (some ⟨wr.heap.size, 0, none⟩) 1 1 [.int .u8 (((x + 1) % 256 : Nat) : Int)] (by rfl) rfl ?c1 ?c2 ?c3 ?c4 ?c5 ?_))
      case c1 =>
        intro _
        refine ⟨_, rfl, fun j v hj => ?_⟩
        have := (Cel.new wr [.int .u8 (((x + 1) % 256 : Nat) : Int)] 5).cell j hj
        match j, hj with
        | 0, _ => exact this
      case c2 => intro v hv; simp at hv; subst hv; rfl
      case c3 => unfold maxLen; omega
      case c4 => omega
      case c5 => rw [size_al]; omega
      intro o8 cap8 w8 own8 hc8 hb8
      have HO8 : Hid (w8.ownsRow w.heap.size 5 1 (.slice o8 (k + 1) cap8) (k + 1) (yv (u.take (k + 1)))) := by rw [HU.out]; exact own8
      have HB8 : Hid (Below w.heap.size w w8) := (HB.out.alloc hws _).trans hb8
      clear own8 hb8 HO hi hz0 hz1 hz2
      go_wp2
      exact ⟨⟨k + 1, by omega, by go_num, HO8, HB8⟩, by simp only [intOf]; omega⟩
    · have hltz : ¬ (k : Int) < (t.length : Int) := by omega
      obtain rfl : k = t.length := by omega
      rw [List.take_of_length_le (by rw [hul.out]; exact Nat.le_refl _)] at HO
      obtain ⟨o, c, rfl, hoc, _⟩ := owns_shape HO.out
      have HUb : Hid (Bd wr o u) := bd_own HO.out
      have HT := hide (Xt.keep HB.out)
      have hzb := Ph.sm_bound t t.length
      obtain ⟨z, hz⟩ : ∃ z, Hid (Ph.sm t t.length = z) := ⟨_, rfl⟩
      rw [hz.out] at hus hzb
      have z1 : -1000 ≤ z.1 ∧ z.1 ≤ 1000 := by have := hzb.1; have := hzb.2.1; omega
      have z2 : -1000 ≤ z.2 ∧ z.2 ≤ 1000 := by have := hzb.2.2.1; have := hzb.2.2.2.1; omega
      have Z1 : Hid (-1000000 ≤ z.1 ∧ z.1 ≤ 1000000) := by show _ ∧ _; omega
      have Z2 : Hid (-1000000 ≤ z.2 ∧ z.2 ≤ 1000000) := by show _ ∧ _; omega
      have MB := hide (mul_box (z := z) n z1 z2)
      have KS : Hid (Calls Try.prog 8 #[.slice ot t.length ct] wr fun e w' => ∃ x y, e = .returned (.complex .f64 x y) ∧ Fz x y z ∧ Below wr.heap.size wr w') := by
        have := ksum_c ot t ct wr HT.out Ft hl1000 Ct
        rw [hz.out] at this
        exact this
      clear hzb z1 z2 HO hz HT
      go_wp2_with fail
      refine (KS.out).mono ?_
      rintro e w1 ⟨a, b, rfl, hf, hb⟩
      have HZ := hide hf
      have B1 := hide (HB.out.trans (hb.mono HB.out.size))
      have KU : Hid (Calls Try.prog 8 #[.slice o t.length c] w1 fun e w' => ∃ x y, e = .returned (.complex .f64 x y) ∧ Fz x y (Ph.mul z (Ph.mk 1)) ∧ Below w1.heap.size w1 w') := by
        have := ksum_c o u c w1 (HUb.out.keep hb) huB.out (by rw [hul.out]; exact hl1000) (by rw [hul.out]; exact hoc)
        rw [hus.out, hul.out] at this
        exact this
      clear hf hb HB HUb KS
      go_wp2_with fail
      refine (KU.out).mono ?_
      rintro e w2 ⟨a2, b2, rfl, hf, hb⟩
      have HZ2 := hide hf
      have B2 := hide (B1.out.trans (hb.mono B1.out.size))
      clear hf hb B1 KU
      have KT1 : Hid (∀ w0, Calls Try.prog 9 #[.complex .f64 a b, .int .i64 1] w0 fun e w' => ∃ x y, e = .returned (.complex .f64 x y) ∧ Fz x y (Ph.mul z (Ph.mk 1)) ∧ Below w0.heap.size w0 w') := fun w0 => kturn_c a b z 1 w0 HZ.out Z1.out Z2.out (by decide)
      go_wp2_with fail
      refine (KT1.out _).mono ?_
      rintro e w3 ⟨a3, b3, rfl, hf, hb⟩
      obtain ⟨q1, q2⟩ := ceq HZ2.out hf
      rw [decide_eq_true rfl] at q1 q2
      have B3 := hide (B2.out.trans (hb.mono B2.out.size))
      clear hf hb B2 HZ2
      have n4 : n + 4 ≤ 104 := by omega
      have KT2 : Hid (∀ w0, Calls Try.prog 9 #[.complex .f64 a b, .int .i64 (n + 4)] w0 fun e w' => ∃ x y, e = .returned (.complex .f64 x y) ∧ Fz x y (Ph.mul z (Ph.mk (n % 4).toNat)) ∧ Below w0.heap.size w0 w') := fun w0 => by
        have := kturn_c a b z (n + 4) w0 HZ.out Z1.out Z2.out (by omega)
        rwa [show (n + 4) % 4 = n % 4 by omega] at this
      have KT3 : Hid (∀ w0, Calls Try.prog 9 #[.complex .f64 a b, .int .i64 n] w0 fun e w' => ∃ x y, e = .returned (.complex .f64 x y) ∧ Fz x y (Ph.mul z (Ph.mk (n % 4).toNat)) ∧ Below w0.heap.size w0 w') := fun w0 => kturn_c a b z n w0 HZ.out Z1.out Z2.out (by omega)
      go_wp2_with fail
      refine (KT2.out _).mono ?_
      rintro e w4 ⟨a4, b4, rfl, hf4, hb⟩
      have HF4 := hide hf4
      have B4 := hide (B3.out.trans (hb.mono B3.out.size))
      clear hf4 hb B3 q1 q2
      go_wp2_with fail
      refine (KT3.out _).mono ?_
      rintro e w5 ⟨a5, b5, rfl, hf, hb⟩
      obtain ⟨q1, q2⟩ := ceq HF4.out hf
      rw [decide_eq_true rfl] at q1 q2
      have B5 := hide (B4.out.trans (hb.mono B4.out.size))
      clear hf hb B4 HF4
      go_wp2_with fail
      refine (KT1.out _).mono ?_
      rintro e w6 ⟨a6, b6, rfl, hf, hb⟩
      have B6 := hide (B5.out.trans (hb.mono B5.out.size))
      have KT4 : Hid (∀ w0, Calls Try.prog 9 #[.complex .f64 a6 b6, .int .i64 3] w0 fun e w' => ∃ x y, e = .returned (.complex .f64 x y) ∧ Fz x y z ∧ Below w0.heap.size w0 w') := fun w0 => by
        have := kturn_c a6 b6 _ 3 w0 hf (MB.out 1).1 (MB.out 1).2 (by decide)
        rw [show ((3 : Int) % 4).toNat = 3 by decide, Ph.turn_three] at this
        exact this
      clear hf hb B5 q1 q2
      go_wp2_with fail
      refine (KT4.out _).mono ?_
      rintro e w7 ⟨a7, b7, rfl, hf, hb⟩
      obtain ⟨q1, q2⟩ := ceq hf HZ.out
      rw [decide_eq_true rfl] at q1 q2
      have B7 := hide (B6.out.trans (hb.mono B6.out.size))
      clear hf hb B6
      go_wp2_with fail
      refine (HH.out _).mono ?_
      rintro e w8 ⟨rfl, hb⟩
      have B8 := hide (B7.out.trans (hb.mono B7.out.size))
      clear hb B7
      go_wp2
      go_ret
      exact ⟨rfl, B8.out⟩

theorem lifted (os : Os) (started : os.Started) (H : Type) (enc : TypeId × Value → H) :
    ReturnsInHanded {} Try.checked os 4 .any (Rows.phaseTurnsSpec.pre6 enc Try.prog Try.f4 Rows.phaseTurnsRow.domain false) (Rows.phaseTurnsSpec.post enc Try.prog Try.f4 false true false false) := by
  refine returnsInHanded_of_change (C := Try.checked) own started (by kernel_rfl) Try.func4
    (ChangeSpec.witness6 (enc := enc) (C := Try.checked) false ⟨#[], #[.slice none 0 0, .int .i64 0], []⟩ 8 (by kernel_rfl) (by kernel_rfl) (by kernel_rfl) (by kernel_rfl)) ?_
  intro W base args ds gs before hval0 hW hcnd _
  have hval : ∀ (j : Nat) t v, Try.f4.params[j]? = some t → args[j]? = some v → Value.okWide Try.prog W .any base t v := hval0
  have hW' := hW
  obtain ⟨p, q, hA0, hV, rfl, hfz, hnd⟩ := hW
  have hA : DataW.TrodAll enc Try.prog W 0 (fun _ => true) true Try.f4.params.toList args.toList ds p := hA0
  rw [Try.params4] at hA hval
  obtain ⟨v0, vs0, d0, ds0, p0, q0, hargs, rfl, rfl, h0, r0⟩ := trodAll_cons hA
  obtain ⟨v1, vs1, d1, ds1, p1, q1, rfl, rfl, rfl, h1, r1⟩ := trodAll_cons r0
  obtain ⟨rfl, rfl, rfl⟩ := trodAll_nil r1
  obtain rfl : args = #[v0, v1] := by cases args; simp_all
  obtain ⟨rfl, rfl⟩ := trodVars_none hV
  have k0 := h0
  have lt0 : ∀ x ∈ p0, x.block < W.heap.size := by obtain ⟨m, hm⟩ := k0; exact DataW.trod_lt m _ _ _ hm
  obtain ⟨ot, t, ct, rfl, b01, b02, b03⟩ := open_bytes (hval 0 22 v0 rfl rfl) h0
  obtain ⟨n, rfl, rfl, rfl, w1⟩ := open_int Try.underlying3 (hval 1 3 v1 rfl rfl) h1
  clear hA0 hval0
  refine (walk W ot t ct b01 b02 b03 n (i64_wf _ w1)).mono fun e W' ⟨he, bel⟩ => ?_
  subst he
  exact ⟨_, rfl, _, _, _, [], _, [], hW', trodAll_mk1 (shut_bool Try.underlying4 _), (trodAll_cons_mk (Below.trod laidOut (by kernel_rfl) (of_decide_eq_true (by kernel_rfl)) k0 bel lt0) (trodAll_cons_mk (shut_int Try.underlying3 w1) trodAll_mk0)), rfl, bel.frame _, fun h => by cases h⟩

theorem over : Rows.phaseTurnsRow.holds Try.pinned (OpenSpec.ofChange Rows.phaseTurnsSpec) :=
  OpenClaim.holds_of_wide 4 Try.f4 rfl rfl rfl rfl rfl rfl rfl ⟨rfl, rfl, rfl, rfl, rfl⟩ rfl rfl rfl rfl rfl (by kernel_rfl) Try.func4 (by kernel_rfl)
    (of_decide_eq_true (by kernel_rfl)) (by unfold Func.isWrapper; first | (rw [if_pos (by decide +kernel)]; kernel_rfl) | (rw [if_neg (by decide +kernel)]; exact ⟨rfl, rfl⟩))
    (fun os started H enc _ => lifted os started H enc)

theorem proved : Rows.PhaseTurnsSaid := over
end Go.Proofs.Ytbpmbdgimolkcaa.phaseTurns
namespace Go.Proofs.Ytbpmbdgimolkcaa
theorem phaseTurns_holds : Rows.PhaseTurnsSaid := phaseTurns.proved
#print axioms phaseTurns_holds
end Go.Proofs.Ytbpmbdgimolkcaa
