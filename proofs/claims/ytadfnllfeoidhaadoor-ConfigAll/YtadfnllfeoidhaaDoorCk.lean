/-
  The contract of the program's Parse.
-/
import Derived.Test.YtadfnllfeoidhaaDoorKza
namespace Go.Proofs.YtadfnllfeoidhaaDoor
open Go.RowKit
set_option linter.unusedVariables false
set_option linter.unusedSimpArgs false
set_option maxRecDepth 100000

set_option maxHeartbeats 4000000 in
theorem kparse_c (s : ByteArray) (hs : s.size ≤ 100) (w : World) :
    Calls Tryd.prog 12 #[.string s] w fun e w' => e = .returned (.tuple #[.agg (Co.cv (Co.prZ s)).toArray, .bool (Co.fnd s).isSome]) ∧ Below w.heap.size w w' := by
  have KU := hide (fun w0 => kcut_c s hs w0)
  have KR := hide (fun B v w0 h => kread_c (Rs.cut s) B v w0 h)
  obtain ⟨z, hz⟩ : ∃ z, Hid (Rs.rdL (Rs.cut s) = z) := ⟨_, rfl⟩
  have HF := hide (Co.fnd_read s z hz.out)
  rw [hz.out] at KR
  clear hz
  obtain ⟨z1, z2, z3, z4, z5⟩ := z
  have KC := hide (fun w0 => kcheck_c z1 z2 z3 z4 z5 w0)
  have KN := hide (fun w0 => kname_c z1 z2 z3 z4 z5 w0)
  obtain ⟨W, hW⟩ : ∃ W, W = w.alloc (.cells #[.int .i64 0, .int .i64 0, .int .i64 0, .int .i64 0, .int .i64 0] 23) := ⟨_, rfl⟩
  have HB0 : Hid (Below w.heap.size w W) := by rw [hW]; exact below_alloc w _
  have HC : Hid (Cel W w.heap.size [.int .i64 0, .int .i64 0, .int .i64 0, .int .i64 0, .int .i64 0] 23) := by rw [hW]; exact Cel.new w _ _
  have HW := hide hW
  clear hW
  obtain ⟨gr, hgr0⟩ : ∃ gr, Hid (gr = w.heap.size) := ⟨_, rfl⟩
  rw [← hgr0.out] at HC
  have hgr : Hid (w.heap.size ≤ gr) := by rw [hgr0.out]; exact Nat.le_refl _
  go_enter Tryd.func12, Tryd.ntmps12
  go_wp2_with fail
  rw [← HW.out, ← hgr0.out]
  refine (KU.out _).mono ?_
  rintro e w1 ⟨v, B, rfl, hBs, hws, hb⟩
  have HC1 := hide (HC.out.kept hb)
  have HB1 := hide (HB0.out.trans (hb.mono HB0.out.size))
  have KR1 := hide (KR.out B v w1 hws)
  clear hb HC HB0 KR hBs hws KU
  go_wp2_with fail
  refine (KR1.out).mono ?_
  rintro e w2 ⟨rfl, hb⟩
  have HC2 := hide (HC1.out.kept hb)
  have HB2 := hide (HB1.out.trans (hb.mono HB1.out.size))
  clear hb HC1 HB1 KR1
  obtain ⟨gc, hgc⟩ : ∃ gc, Hid (gc = w2.heap.size) := ⟨_, rfl⟩
  have B3 : Cel (w2.alloc (.cells #[.int .i64 0, .int .i64 0, .int .i64 0, .int .i64 0, .int .i64 0] 23)) gc [.int .i64 0, .int .i64 0, .int .i64 0, .int .i64 0, .int .i64 0] 23 := by rw [hgc.out]; exact Cel.new w2 _ _
  have HCA := hide (HC2.out.alloc (.cells #[.int .i64 0, .int .i64 0, .int .i64 0, .int .i64 0, .int .i64 0] 23))
  have HBA := hide (HB2.out.alloc HB2.out.size (.cells #[.int .i64 0, .int .i64 0, .int .i64 0, .int .i64 0, .int .i64 0] 23))
  go_wp2_with (refine store_cel gc [.int .i64 0, .int .i64 0, .int .i64 0, .int .i64 0, .int .i64 0] [.int .i64 z1, .int .i64 z2, .int .i64 z3, .int .i64 z4, .int .i64 z5] (by rw [hgc.out]; rfl) rfl B3 rfl info_cfg (one5 _ _ _ _ _) ?_)
  intro w3 hc3 ho3
  have hgcr : Hid (gr ≠ gc) := by have := HC2.out.lt; rw [hgc.out]; show _ ≠ _; omega
  have HG3 := hide (ho3.cel HCA.out hgcr.out)
  have HB3 := hide (HBA.out.trans (ho3.below (by rw [hgc.out]; exact HB2.out.size)))
  have HC3 := hide hc3
  rw [← hgc.out]
  clear hc3 ho3 B3 HCA HBA HC2 HB2 hgc
  have c0 := HC3.out.cell 0 rfl
  have c1 := HC3.out.cell 1 rfl
  have c2 := HC3.out.cell 2 rfl
  have c3 := HC3.out.cell 3 rfl
  have c4 := HC3.out.cell 4 rfl
  go_wp2_with fail
  refine (KC.out _).mono ?_
  rintro e w4 ⟨rfl, hb⟩
  have HC4 := hide (HC3.out.kept hb)
  have HG4 := hide (HG3.out.kept hb)
  have HB4 := hide (HB3.out.trans (hb.mono HB3.out.size))
  clear hb HC3 HG3 HB3 c0 c1 c2 c3 c4
  have c0 := HC4.out.cell 0 rfl
  have c1 := HC4.out.cell 1 rfl
  have c2 := HC4.out.cell 2 rfl
  have c3 := HC4.out.cell 3 rfl
  have c4 := HC4.out.cell 4 rfl
  cases hk : Co.okZ (z1, z2, z3, z4, z5) with
  | false =>
    have hf := HF.out.2 (.inl hk)
    have R1 : Hid (Co.prZ s = (0, 0, 0, 0, 0)) := by unfold Co.prZ; rw [hf]; exact (rfl : ((0, 0, 0, 0, 0) : Co.Zf) = _)
    have R2 : Hid ((Co.fnd s).isSome = false) := by rw [hf]; exact (rfl : false = false)
    clear hf
    have B3 := HG4.out
    go_wp2_with (refine store_cel gr [.int .i64 0, .int .i64 0, .int .i64 0, .int .i64 0, .int .i64 0] [.int .i64 0, .int .i64 0, .int .i64 0, .int .i64 0, .int .i64 0] rfl rfl B3 rfl info_cfg (one5 _ _ _ _ _) ?_)
    intro w5 hc5 ho5
    have HB5 := HB4.out.trans (ho5.below hgr.out)
    clear B3
    go_wp2
    refine bodyPost_ret (result_cel rfl gr [.int .i64 0, .int .i64 0, .int .i64 0, .int .i64 0, .int .i64 0] rfl hc5 Tryd.underlying23 info_cfg) rfl ?_
    rw [R1.out, R2.out]
    exact ⟨rfl, HB5⟩
  | true =>
    go_wp2_with fail
    refine (KN.out _).mono ?_
    rintro e w5 ⟨rfl, hb⟩
    have HC5 := hide (HC4.out.kept hb)
    have HG5 := hide (HG4.out.kept hb)
    have HB5 := hide (HB4.out.trans (hb.mono HB4.out.size))
    clear hb HC4 HG4 HB4 c0 c1 c2 c3 c4
    have c0 := HC5.out.cell 0 rfl
    have c1 := HC5.out.cell 1 rfl
    have c2 := HC5.out.cell 2 rfl
    have c3 := HC5.out.cell 3 rfl
    have c4 := HC5.out.cell 4 rfl
    have B3 := HG5.out
    cases he : ((Co.str (Co.nmZ (z1, z2, z3, z4, z5))).toList == s.toList) with
    | false =>
      have hf := HF.out.2 (.inr he)
      have R1 : Hid (Co.prZ s = (0, 0, 0, 0, 0)) := by unfold Co.prZ; rw [hf]; exact (rfl : ((0, 0, 0, 0, 0) : Co.Zf) = _)
      have R2 : Hid ((Co.fnd s).isSome = false) := by rw [hf]; exact (rfl : false = false)
      clear hf
      go_wp2_with (refine store_cel gr [.int .i64 0, .int .i64 0, .int .i64 0, .int .i64 0, .int .i64 0] [.int .i64 0, .int .i64 0, .int .i64 0, .int .i64 0, .int .i64 0] rfl rfl B3 rfl info_cfg (one5 _ _ _ _ _) ?_)
      intro w6 hc6 ho6
      have HB6 := HB5.out.trans (ho6.below hgr.out)
      clear B3
      go_wp2
      refine bodyPost_ret (result_cel rfl gr [.int .i64 0, .int .i64 0, .int .i64 0, .int .i64 0, .int .i64 0] rfl hc6 Tryd.underlying23 info_cfg) rfl ?_
      rw [R1.out, R2.out]
      exact ⟨rfl, HB6⟩
    | true =>
      have hf := HF.out.1 hk he
      have R1 : Hid (Co.prZ s = (z1, z2, z3, z4, z5)) := by unfold Co.prZ; rw [hf]; exact Co.okZ_nn hk
      have R2 : Hid ((Co.fnd s).isSome = true) := by rw [hf]; exact (rfl : true = true)
      clear hf
      go_wp2_with (refine store_cel gr [.int .i64 0, .int .i64 0, .int .i64 0, .int .i64 0, .int .i64 0] [.int .i64 z1, .int .i64 z2, .int .i64 z3, .int .i64 z4, .int .i64 z5] rfl rfl B3 rfl info_cfg (one5 _ _ _ _ _) ?_)
      intro w6 hc6 ho6
      have HB6 := HB5.out.trans (ho6.below hgr.out)
      clear B3
      go_wp2
      refine bodyPost_ret (result_cel rfl gr [.int .i64 z1, .int .i64 z2, .int .i64 z3, .int .i64 z4, .int .i64 z5] rfl hc6 Tryd.underlying23 info_cfg) rfl ?_
      rw [R1.out, R2.out]
      exact ⟨rfl, HB6⟩
theorem Co.nm_short (c : Co.Cf) : (Co.str (Co.nm c)).size ≤ 100 := by
  rw [Co.str_size]
  have h1 := Co.shp_len c.2.1
  have h2 := Co.shp_len c.1
  have h3 := Co.knd_len c.2.2.2.1
  have h4 := Co.dg_len c.2.2.1
  have h5 := Co.dg_len c.2.2.2.2
  unfold Co.nm
  cases Nat.beq c.1 4 <;> simp only [cond_true, cond_false, List.length_append, List.length_cons, List.length_nil] <;> omega
end Go.Proofs.YtadfnllfeoidhaaDoor
