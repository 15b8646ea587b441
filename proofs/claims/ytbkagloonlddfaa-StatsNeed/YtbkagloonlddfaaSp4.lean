/-
  The contracts of the program's Distinct, of slices.Clone at counts, and of Counts.
-/
import Derived.Test.YtbkagloonlddfaaSp3
import Derived.Test.YtbkagloonlddfaaSn
namespace Go.Proofs.Ytbkagloonlddfaa
open Go.RowKit Num
set_option linter.unusedVariables false
set_option linter.unusedSimpArgs false
set_option maxRecDepth 100000

set_option maxHeartbeats 4000000 in
theorem sdis_c (ao : Option Addr) (l : List Int) (cap : Nat) (w : World) (hx : Nd w ao l) :
    Calls Try.prog 11 #[.slice ao l.length cap] w fun e w' => e = .returned (.int .i64 (Lg.dsN l : Nat)) ∧ Below w.heap.size w w' := by
  by_cases h : l.length = 256
  · have R : Hid (Lg.dsN l = Lg.ds l 256) := by show _ = _; unfold Lg.dsN; rw [if_pos h]
    obtain ⟨b, off, rfl, hb0, hcc⟩ := hx (by omega)
    have HC := hide hcc
    rw [h] at HC ⊢
    clear hx hcc h
    go_enter Try.func11, Try.ntmps11
    go_wp2
    go_loopw [3, 11] (fun v3 v4 wr => ∃ q v : Nat, q ≤ 256 ∧ v ≤ q ∧ v3 = .int .i64 v ∧ v4 = .int .i64 q ∧ Hid (v = Lg.ds l q) ∧ wr = w) (fun _ v4 _ => 256 - (intOf v4).toNat)
    case atStart => exact ⟨0, 0, Nat.zero_le _, Nat.le_refl _, rfl, rfl, rfl, rfl⟩
    case round =>
      obtain ⟨q, v, hq, hv, rfl, rfl, HV, rfl⟩ := hrel
      by_cases hlt : q < 256
      · have hltz : (q : Int) < 256 := by omega
        have e1 := HC.out q hlt
        have DT : Hid (Lg.ds l (q + 1) = v + (decide (0 < gi l q)).toNat) := by rw [HV.out]; rfl
        clear HV
        generalize gi l q = x at *
        by_cases hx0 : 0 < x
        · rw [decide_eq_true hx0] at DT
          go_wp2
          exact ⟨⟨q + 1, v + 1, by omega, by omega, by go_num, by go_num, DT.out.symm, trivial⟩, by simp only [intOf]; omega⟩
        · rw [decide_eq_false hx0] at DT
          go_wp2
          exact ⟨⟨q + 1, v, by omega, by omega, rfl, by go_num, DT.out.symm, trivial⟩, by simp only [intOf]; omega⟩
      · obtain rfl : q = 256 := by omega
        go_wp2
        go_ret
        rw [R.out, ← HV.out]
        exact ⟨rfl, Below.refl _ _⟩
  · have R : Hid (Lg.dsN l = 0) := by show _ = _; unfold Lg.dsN; rw [if_neg h]
    have h2 : ((l.length : Int) == 256) = false := by simp; omega
    clear hx
    generalize l.length = n at *
    go_enter Try.func11, Try.ntmps11
    go_wp2
    go_ret
    rw [R.out]
    exact ⟨rfl, Below.refl _ _⟩
set_option maxHeartbeats 4000000 in
theorem scts_c (ao : Option Addr) (t : List Nat) (cap : Nat) (w : World) (hx : Bd w ao t) (hb : Bytes t) (hl : t.length ≤ 1048576) :
    Calls Try.prog 8 #[.slice ao t.length cap] w fun e w' => ∃ co cc, e = .returned (.slice co 256 cc) ∧ Nd w' co (toI (Lg.cts t)) ∧ 256 ≤ cc ∧ Below w.heap.size w w' := by
  go_enter Try.func8, Try.ntmps8
  go_wp2_with (refine alloc_z _ info_ta ?_)
  intro w1 hc1 hb1 hs1
  rw [← Lg.cp_zero t] at hc1
  have HL1 := hide hc1
  have HB1 := hide hb1
  have HX := hide hx
  clear hc1 hb1 hs1 hx
  obtain ⟨gl, hgl⟩ : ∃ gl, Hid (gl = w.heap.size) := ⟨_, rfl⟩
  rw [← hgl.out] at HL1 ⊢
  have hgle : w.heap.size ≤ gl := by have := hgl.out; omega
  have hgle2 : gl ≤ w.heap.size := by have := hgl.out; omega
  obtain ⟨n, hn⟩ : ∃ n, Hid (n = t.length) := ⟨_, rfl⟩
  rw [← hn.out] at hl ⊢
  simp only [Act.put, List.setIfInBounds_toArray, List.set]
  go_wp2
  go_loopw [8] (fun v8 wr => ∃ q : Nat, q ≤ n ∧ v8 = .int .i64 q ∧ Hid (Cel wr gl (iv (Lg.cp t q)) 37) ∧ Hid (Below w.heap.size w wr)) (fun v8 _ => n - (intOf v8).toNat)
  case atStart => exact ⟨0, Nat.zero_le _, rfl, HL1, HB1⟩
  case round =>
    clear HL1 HB1
    obtain ⟨q, hq, rfl, HL, HB⟩ := hrel
    by_cases hlt : q < n
    · have hltz : (q : Int) < (n : Int) := by omega
      obtain ⟨b, off, rfl, hb0, hcc⟩ := HX.out (by rw [← hn.out]; omega)
      have e1 := (HB.out.cell (p := ⟨b, off + q, none⟩) hb0).trans (hcc q (by rw [← hn.out]; exact hlt))
      have g1 := gt_lt hb q
      have n0 := HL.out.cell (gt t q) (iv_get _ (gt t q) (by rw [Lg.length_cp]; exact g1))
      rw [Lg.gt_cp _ _ _ g1] at n0
      have f0 := HL.out.frozen (gt t q)
      have glt : gl < wr.heap.size := HL.out.lt
      have cle := Lg.cn_le t (gt t q) q
      have L1 : Hid (Cel (wr.setCell ⟨gl, gt t q, none⟩ (.int .i64 ((Lg.cn t (gt t q) q : Nat) + 1 : Int))) gl (iv (Lg.cp t (q + 1))) 37) := by
        have := HL.out.set (gt t q) (.int .i64 ((Lg.cn t (gt t q) q + 1 : Nat) : Int))
        rw [iv_set, Lg.cp_step _ _ g1] at this
        exact this
      have B1 : Hid (Below w.heap.size w (wr.setCell ⟨gl, gt t q, none⟩ (.int .i64 ((Lg.cn t (gt t q) q : Nat) + 1 : Int)))) := HB.out.setCell (p := ⟨gl, gt t q, none⟩) hgle _
      clear HL HB hcc
      generalize Lg.cn t (gt t q) q = z at *
      generalize gt t q = x at *
      have xz : (x : Int) < 256 := by omega
      go_wp2
      exact ⟨⟨q + 1, by omega, by go_num, L1, B1⟩, by simp only [intOf]; omega⟩
    · obtain rfl : q = n := by omega
      have C := hide (sclone_c gl (Lg.cp t q) 256 _ wr HL.out (by rw [Lg.length_cp]; omega) (by rw [Lg.length_cp]; omega))
      rw [Lg.length_cp] at C
      have CT : Hid (Lg.cp t q = Lg.cts t) := by show _ = _; unfold Lg.cts; rw [hn.out]
      rw [CT.out] at C
      clear HL
      go_wp2_with fail
      refine C.out.mono ?_
      rintro e w2 ⟨gc, bc, rfl, ho, hle, hb2⟩
      have HF : Hid (Nd w2 (some ⟨gc, 0, none⟩) (toI (Lg.cts t)) ∧ 256 ≤ bc ∧ Below w.heap.size w w2) := ⟨ho.nd, hle, HB.out.trans (hb2.mono HB.out.size)⟩
      clear ho hle hb2 C HB
      go_wp2
      go_ret
      exact ⟨_, _, rfl, HF.out⟩
end Go.Proofs.Ytbkagloonlddfaa
