/-
  The document's Lengths and Cost, of what stands in a text.
-/
import Derived.Test.YtbkagloonlddfaaLm
import Derived.Test.YtbkagloonlddfaaUh
import Derived.Test.YtbkagloonlddfaaUa
namespace Go.Proofs.Ytbkagloonlddfaa
open Go.RowKit Num Hp
set_option linter.unusedVariables false
set_option linter.unusedSimpArgs false
set_option maxRecDepth 100000
theorem win_yes {l : List Int} {top : Int} (h1 : l.length = 256) (h2 : ∀ i, i < l.length → 0 ≤ gi l i ∧ gi l i ≤ top) : win l top = true := by
  unfold win
  have : l.any (bad top) = false := any_false fun i hi => by
    have := h2 i hi
    unfold bad
    simp
    omega
  rw [this]
  simp [h1]
/-- The counts of a text. -/
def vt (t : List Nat) (i : Nat) : Nat := cntOf (toI (Lg.cts t)) i
theorem vt_in (t : List Nat) {i : Nat} (h : i < 256) : vt t i = Lg.cn t i t.length := by
  unfold vt cntOf
  rw [gi_toI, show gt (Lg.cts t) i = Lg.cn t i t.length from Lg.gt_cp _ _ _ h, Int.toNat_natCast]
theorem vt_out (t : List Nat) (i : Nat) (h : 256 ≤ i) : vt t i = 0 := by
  unfold vt cntOf
  rw [gi_toI]
  unfold gt
  rw [List.getD_eq_getElem?_getD, List.getElem?_eq_none (by rw [show (Lg.cts t).length = 256 from Lg.length_cp _ _]; exact h)]
  rfl
theorem win_cts {t : List Nat} (h : t.length ≤ 1048576) : win (toI (Lg.cts t)) 1048576 = true := by
  have h256 : (toI (Lg.cts t)).length = 256 := by rw [length_toI]; exact Lg.length_cp _ _
  refine win_yes h256 fun i hi => ?_
  rw [gi_toI, show gt (Lg.cts t) i = Lg.cn t i t.length from Lg.gt_cp _ _ _ (by omega)]
  have := Lg.cn_le t i t.length
  omega
theorem sm_vt {t : List Nat} (hb : Bytes t) : Lg.sm (vt t) 256 = t.length := by
  rw [Lg.sm_congr fun i hi => vt_in t hi]
  exact Lg.cn_all hb _
theorem eT_vt (t : List Nat) : Lg.enV (vt t) = Lg.eT t := by
  unfold Lg.eT Lg.enV
  rw [Lg.sm_congr fun i hi => vt_in t hi, Lg.en_congr _ fun i hi => vt_in t hi]
theorem used_vt (t : List Nat) : (used (vt t) 256).length = Lg.dT t 256 := by
  rw [Lg.used_len, Lg.dT_sm]
  exact Lg.sm_congr fun i hi => by rw [vt_in t hi]
/-- What it costs. -/
def ctV (t : List Nat) : Nat := Lg.sm (fun c => vt t c * hlen (vt t) 256 c) 256
theorem cost_vt {t : List Nat} (h : t.length ≤ 1048576) (h2 : 2 ≤ Lg.dT t 256) : costv (toI (Lg.cts t)) (toI (hls (toI (Lg.cts t)))) = ctV t := by
  have F := fine (vt t) 256 (Nat.le_refl _) (fun c => by
    by_cases g : c < 256
    · rw [vt_in t g]; have := Lg.cn_le t c t.length; omega
    · rw [vt_out t c (by omega)]; omega) (by rw [used_vt]; exact h2)
  have hl : (hls (toI (Lg.cts t))).length = 256 := by unfold hls; simp
  have hg : ∀ i, i < 256 → gt (hls (toI (Lg.cts t))) i = hlen (vt t) 256 i := fun i hi => by
    unfold hls gt
    rw [List.getD_eq_getElem?_getD, List.getElem?_map, List.getElem?_range hi]
    rfl
  have w2 : win (toI (hls (toI (Lg.cts t)))) 40 = true := by
    refine win_yes (by rw [length_toI]; exact hl) fun i hi => ?_
    rw [length_toI, hl] at hi
    rw [gi_toI, hg i hi]
    have : hlen (vt t) 256 i ≤ 40 := by
      by_cases g : i ∈ used (vt t) 256
      · exact (F.some i g).2
      · rw [F.none i g]; omega
    omega
  unfold costv ctV
  rw [win_cts h, w2, if_pos (by rfl), Lg.tot_sm]
  refine Lg.sm_congr fun i hi => ?_
  show vt t i * cntOf _ i = _
  unfold cntOf
  rw [gi_toI, hg i hi, Int.toNat_natCast]
theorem ctV_low {t : List Nat} (hb : Bytes t) (h : t.length ≤ 32000) (h2 : 2 ≤ Lg.dT t 256) : Lg.eT t ≤ ctV t + 1 := by
  rw [← eT_vt]
  exact Lg.at_least (by rw [used_vt]; exact h2) (vt_out t) (by rw [sm_vt hb]; exact h)
theorem ctV_up {t : List Nat} (hb : Bytes t) (h : t.length ≤ 32000) (h2 : 2 ≤ Lg.dT t 256) : ctV t ≤ Lg.eT t + t.length := by
  have := Lg.at_most (v := vt t) (by rw [used_vt]; exact h2) (vt_out t) (by rw [sm_vt hb]; exact h)
  rw [sm_vt hb, eT_vt] at this
  exact this
theorem nd_ivh {w : World} {g : Nat} {l : List Nat} (h : Cel w g (ivh l) 3) : Nd w (some ⟨g, 0, none⟩) (toI l) := nd_cel h
end Go.Proofs.Ytbkagloonlddfaa
