/-
  The contracts of the document's Counts, Distinct and Entropy.
-/
import Derived.Test.YtbkagloonlddfaaLh
import Derived.Test.YtbkagloonlddfaaSc
import Derived.Test.YtbkagloonlddfaaRg
namespace Go.Proofs.Ytbkagloonlddfaa
open Go.RowKit Num
set_option linter.unusedVariables false
set_option linter.unusedSimpArgs false
set_option maxRecDepth 100000

namespace Lg
/-- How often c stands among the first q. -/
def cn (t : List Nat) (c q : Nat) : Nat := Su.ct (fun j => decide (gt t j = c)) q
theorem cn_step (t : List Nat) (c q : Nat) : cn t c (q + 1) = cn t c q + (decide (gt t q = c)).toNat := rfl
theorem cn_le (t : List Nat) (c q : Nat) : cn t c q ≤ q := Su.ct_le _ _
def cp (t : List Nat) (q : Nat) : List Nat := (List.range 256).map fun c => cn t c q
def cts (t : List Nat) : List Nat := cp t t.length
theorem length_cp (t : List Nat) (q : Nat) : (cp t q).length = 256 := by simp [cp]
theorem gt_cp (t : List Nat) (q c : Nat) (h : c < 256) : gt (cp t q) c = cn t c q := Su.gt_map _ _ _ h
theorem cp_zero (t : List Nat) : cp t 0 = List.replicate 256 0 := by
  refine Su.list_ext (by rw [length_cp, List.length_replicate]) fun i hi => ?_
  rw [length_cp] at hi
  rw [gt_cp _ _ _ hi]
  unfold gt
  rw [List.getD_eq_getElem?_getD, List.getElem?_replicate, if_pos hi]
  rfl
theorem cp_step (t : List Nat) (q : Nat) (h : gt t q < 256) : (cp t q).set (gt t q) (cn t (gt t q) q + 1) = cp t (q + 1) := by
  refine Su.list_ext (by rw [List.length_set, length_cp, length_cp]) fun i hi => ?_
  rw [List.length_set, length_cp] at hi
  rw [Su.gt_set _ _ _ _ (by rw [length_cp]; exact h), gt_cp _ _ _ hi, gt_cp _ _ _ hi, cn_step]
  by_cases e : gt t q = i
  · rw [if_pos e, decide_eq_true e, e]
    rfl
  · rw [if_neg e, decide_eq_false e]
    rfl
/-- How many are above nought. -/
def ds (l : List Int) : Nat → Nat
  | 0 => 0
  | i + 1 => ds l i + (decide (0 < gi l i)).toNat
theorem ds_le (l : List Int) : ∀ i, ds l i ≤ i
  | 0 => Nat.le_refl _
  | i + 1 => by have := ds_le l i; have := Bool.toNat_le (decide (0 < gi l i)); rw [ds]; omega
def dsN (l : List Int) : Nat := if l.length = 256 then ds l 256 else 0
/-- Sums, and what each needs. -/
def sm (v : Nat → Nat) : Nat → Nat
  | 0 => 0
  | i + 1 => sm v i + v i
def en (v : Nat → Nat) (N : Nat) : Nat → Nat
  | 0 => 0
  | i + 1 => en v N i + v i * (lg N - lg (v i))
def enV (v : Nat → Nat) : Nat := (en v (sm v 256) 256 + 65535) / 65536
def vl (l : List Int) (i : Nat) : Nat := (gi l i).toNat
def okE (l : List Int) : Prop := l.length = 256 ∧ ∀ i, i < 256 → 0 ≤ gi l i ∧ gi l i ≤ 65536
open Classical in
noncomputable def enN (l : List Int) : Nat := if okE l then enV (vl l) else 0
theorem sm_mono (v : Nat → Nat) : ∀ {i n : Nat}, i ≤ n → sm v i ≤ sm v n
  | i, 0, h => by rw [show i = 0 by omega]; exact Nat.le_refl _
  | i, n + 1, h => by
    by_cases e : i = n + 1
    · rw [e]; exact Nat.le_refl _
    · have := sm_mono v (show i ≤ n by omega)
      rw [sm]
      omega
theorem v_le_sm (v : Nat → Nat) {i n : Nat} (h : i < n) : v i ≤ sm v n := by
  have := sm_mono v (show i + 1 ≤ n by omega)
  rw [sm] at this
  omega
theorem lg_24 {x : Nat} (hx : x ≠ 0) (h : x ≤ 16777216) : lg x ≤ 1572864 := by
  have h1 := lg_le hx h
  have h2 : lg (2 ^ 24) = 65536 * 24 := lg_pow (by decide)
  have h3 : (2 : Nat) ^ 24 = 16777216 := by decide
  rw [h3] at h2
  omega
theorem en_le (v : Nat → Nat) (N : Nat) (hN : N ≤ 16777216) (h0 : N ≠ 0) : ∀ i, en v N i ≤ sm v i * 1572864
  | 0 => Nat.zero_le _
  | i + 1 => by
    have ih := en_le v N hN h0 i
    have h1 := lg_24 h0 hN
    have h2 : v i * (lg N - lg (v i)) ≤ v i * 1572864 := Nat.mul_le_mul_left _ (by omega)
    rw [en, sm, Nat.add_mul]
    omega
end Lg

set_option maxHeartbeats 4000000 in
theorem rcts_c (ao : Option Addr) (t : List Nat) (cap : Nat) (w : World) (hx : Bd w ao t) (hb : Bytes t) (hl : t.length ≤ 1048576) :
    Calls Try.prog 13 #[.slice ao t.length cap] w fun e w' => ∃ g, e = .returned (.slice (some ⟨g, 0, none⟩) 256 256) ∧ Nd w' (some ⟨g, 0, none⟩) (toI (Lg.cts t)) ∧ w.heap.size ≤ g ∧ Below w.heap.size w w' := by
  obtain ⟨i0, hi, hz0, hz1, hz2⟩ := info_parts Try.info3
  go_enter Try.func13, Try.ntmps13
  go_wp2_with (at_make; refine wpList_make_full _ rfl _ _ 24 rfl w.heap.size 3 i0 (.int .i64 0) 1 Try.underlying24 hi hz0 hz1 .i64 .i64 _ _ 256 rfl rfl rfl rfl ?b2 ?b3 ?b4 ?_)
  case b2 => rw [hz2]; omega
  case b3 => unfold maxLen; omega
  case b4 => simp
  intro w1 hown hgr
  have B1 := cel_made hown
  have hb1 : Below w.heap.size w w1 := (Below.refl _ _).grown hgr (Nat.le_refl _) (fun k h => by cases h)
  rw [← iv_rep 256, ← Lg.cp_zero t] at B1
  have HL1 := hide B1
  have HB1 := hide hb1
  have HX := hide hx
  clear hown hgr hb1 hi hz0 hz1 hz2 B1 hx
  obtain ⟨gl, hgl⟩ : ∃ gl, Hid (gl = w.heap.size) := ⟨_, rfl⟩
  rw [← hgl.out] at HL1 ⊢
  have hgle : w.heap.size ≤ gl := by have := hgl.out; omega
  have hgle2 : gl ≤ w.heap.size := by have := hgl.out; omega
  obtain ⟨n, hn⟩ : ∃ n, Hid (n = t.length) := ⟨_, rfl⟩
  rw [← hn.out] at hl ⊢
  go_wp2
  go_loopw [4] (fun v4 wr => ∃ q : Nat, q ≤ n ∧ v4 = .int .i64 q ∧ Hid (Cel wr gl (iv (Lg.cp t q)) 3) ∧ Hid (Below w.heap.size w wr)) (fun v4 _ => n - (intOf v4).toNat)
  case atStart => exact ⟨0, Nat.zero_le _, rfl, HL1, HB1⟩
  case round =>
    clear HL1 HB1
    obtain ⟨q, hq, rfl, HL, HB⟩ := hrel
    by_cases hlt : q < n
    · have hltz : (q : Int) < (n : Int) := by omega
      obtain ⟨b, off, rfl, hb0, hcc⟩ := HX.out (by rw [← hn.out]; omega)
      have e1 := (HB.out.cell (p := ⟨b, off + q, none⟩) hb0).trans (hcc q (by rw [← hn.out]; exact hlt))
      have g1 := gt_lt hb q
      have n0 := HL.out.cell (gt t q) (iv_get _ (gt t q) (by rw [Lg.length_cp]; exact g1))
      rw [Lg.gt_cp _ _ _ g1] at n0
      have f0 := HL.out.frozen (gt t q)
      have glt : gl < wr.heap.size := HL.out.lt
      have cle := Lg.cn_le t (gt t q) q
      have L1 : Hid (Cel (wr.setCell ⟨gl, gt t q, none⟩ (.int .i64 ((Lg.cn t (gt t q) q : Nat) + 1 : Int))) gl (iv (Lg.cp t (q + 1))) 3) := by
        have := HL.out.set (gt t q) (.int .i64 ((Lg.cn t (gt t q) q + 1 : Nat) : Int))
        rw [iv_set, Lg.cp_step _ _ g1] at this
        exact this
      have B1 : Hid (Below w.heap.size w (wr.setCell ⟨gl, gt t q, none⟩ (.int .i64 ((Lg.cn t (gt t q) q : Nat) + 1 : Int)))) := HB.out.setCell (p := ⟨gl, gt t q, none⟩) hgle _
      clear HL HB hcc
      generalize Lg.cn t (gt t q) q = z at *
      generalize gt t q = x at *
      have xz : (x : Int) < 256 := by omega
      go_wp2
      exact ⟨⟨q + 1, by omega, by go_num, L1, B1⟩, by simp only [intOf]; omega⟩
    · obtain rfl : q = n := by omega
      go_wp2
      go_ret
      refine ⟨gl, rfl, nd_cel ?_, hgle, HB.out⟩
      unfold Lg.cts
      rw [← hn.out]
      exact HL.out

set_option maxHeartbeats 4000000 in
theorem rdis_c (ao : Option Addr) (l : List Int) (cap : Nat) (w : World) (hx : Nd w ao l) :
    Calls Try.prog 18 #[.slice ao l.length cap] w fun e w' => e = .returned (.int .i64 (Lg.dsN l : Nat)) ∧ w' = w := by
  by_cases h : l.length = 256
  · have R : Hid (Lg.dsN l = Lg.ds l 256) := by show _ = _; unfold Lg.dsN; rw [if_pos h]
    obtain ⟨b, off, rfl, hb0, hcc⟩ := hx (by omega)
    have HC := hide hcc
    rw [h] at HC ⊢
    clear hx hcc h
    go_enter Try.func18, Try.ntmps18
    go_wp2
    go_loopw [3, 4] (fun v3 v4 wr => ∃ q v : Nat, q ≤ 256 ∧ v ≤ q ∧ v3 = .int .i64 v ∧ v4 = .int .i64 q ∧ Hid (v = Lg.ds l q) ∧ wr = w) (fun _ v4 _ => 256 - (intOf v4).toNat)
    case atStart => exact ⟨0, 0, Nat.zero_le _, Nat.le_refl _, rfl, rfl, rfl, rfl⟩
    case round =>
      obtain ⟨q, v, hq, hv, rfl, rfl, HV, rfl⟩ := hrel
      by_cases hlt : q < 256
      · have hltz : (q : Int) < 256 := by omega
        have e1 := HC.out q hlt
        have DT : Hid (Lg.ds l (q + 1) = v + (decide (0 < gi l q)).toNat) := by rw [HV.out]; rfl
        clear HV
        generalize gi l q = x at *
        by_cases hx0 : 0 < x
        · rw [decide_eq_true hx0] at DT
          go_wp2
          exact ⟨⟨q + 1, v + 1, by omega, by omega, by go_num, by go_num, DT.out.symm, trivial⟩, by simp only [intOf]; omega⟩
        · rw [decide_eq_false hx0] at DT
          go_wp2
          exact ⟨⟨q + 1, v, by omega, by omega, rfl, by go_num, DT.out.symm, trivial⟩, by simp only [intOf]; omega⟩
      · obtain rfl : q = 256 := by omega
        go_wp2
        go_ret
        rw [R.out, ← HV.out]
        exact ⟨rfl, rfl⟩
  · have R : Hid (Lg.dsN l = 0) := by show _ = _; unfold Lg.dsN; rw [if_neg h]
    have h2 : ((l.length : Int) == 256) = false := by simp; omega
    go_enter Try.func18, Try.ntmps18
    by_cases h0 : 0 < l.length
    · have h0z : (0 : Int) < (l.length : Int) := by omega
      clear h hx
      go_wp2
      go_loopw [3, 4] (fun v3 v4 wr => v3 = .int .i64 0 ∧ v4 = .int .i64 0 ∧ wr = w) (fun _ _ _ => 0)
      case atStart => exact ⟨rfl, rfl, rfl⟩
      case round =>
        obtain ⟨rfl, rfl, rfl⟩ := hrel
        go_wp2
        go_ret
        rw [R.out]
        exact ⟨rfl, rfl⟩
    · have h0z : ¬ (0 : Int) < (l.length : Int) := by omega
      have h1 : l.length = 0 := by omega
      rw [h1]
      clear h hx h1 h0 h0z
      go_wp2
      go_loopw [3, 4] (fun v3 v4 wr => v3 = .int .i64 0 ∧ v4 = .int .i64 0 ∧ wr = w) (fun _ _ _ => 0)
      case atStart => exact ⟨rfl, rfl, rfl⟩
      case round =>
        obtain ⟨rfl, rfl, rfl⟩ := hrel
        go_wp2
        go_ret
        rw [R.out]
        exact ⟨rfl, rfl⟩
end Go.Proofs.Ytbkagloonlddfaa
