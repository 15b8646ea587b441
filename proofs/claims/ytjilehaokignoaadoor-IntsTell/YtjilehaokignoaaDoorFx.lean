/-
  What was made of a list of numbers: it may be, it is the list again; Of of at most 300 numbers.
-/
import Derived.Test.YtjilehaokignoaaDoorHeads
namespace Go.Proofs.YtjilehaokignoaaDoor
open Go.RowKit Num Bit
set_option maxRecDepth 100000
set_option linter.unusedVariables false

theorem imE_of (W : Int) (l : List Nat) (a1 : 1 ≤ W) (a2 : W ≤ 64) (a3 : (l.length : Int) * W ≤ 1048576) (a4 : ∀ j, j < l.length → lenI (gt l j) ≤ W) : imE W l = 0 := by
  unfold imE
  rw [if_neg]
  rintro (h | h | h | h)
  · omega
  · omega
  · omega
  · exact h a4
theorem mk_ichk (W : Nat) (l : List Nat) (h : imE (W : Int) l = 0) : ichk l.length W ((l.length : Int) * W) (mkS l W l.length) = true := by
  obtain ⟨a1, a2, a3, a4⟩ := imE_zero W l h
  unfold ichk mkS
  have e : (l.length : Int) * (W : Int) = ((l.length * W : Nat) : Int) := (Int.natCast_mul _ _).symm
  rw [e] at a3 ⊢
  rw [chk_rowOf _ _ (by omega), Bool.and_true, decide_eq_true_eq]
  exact ⟨a1, a2, by omega, rfl⟩
theorem mk_num (W : Nat) (l : List Nat) (hW : 1 ≤ W) (i : Nat) (hi : i < l.length) (hv : gt l i < 2 ^ W) : numAt W (mkS l W l.length) i = gt l i := by
  have hn := mul_next l.length W i hi
  refine (eq_numOf W (gt l i) _ fun k => ?_).symm
  by_cases c : k < W
  · unfold mkS
    rw [bitAt_rowOf]
    have e1 : (i * W + k) / W = i := by rw [Nat.mul_comm, Nat.mul_add_div (by omega), Nat.div_eq_of_lt c]; omega
    have e2 : (i * W + k) % W = k := by rw [Nat.mul_comm, Nat.mul_add_mod, Nat.mod_eq_of_lt c]
    rw [e1, e2]
    simp [c, show i * W + k < l.length * W by omega]
  · rw [Nat.testBit_lt_two_pow (Nat.lt_of_lt_of_le hv (Nat.pow_le_pow_right (by decide) (by omega)))]
    simp [c]
theorem mk_list (W : Nat) (l : List Nat) (h : imE (W : Int) l = 0) : ilL l.length W ((l.length : Int) * W) (mkS l W l.length) = l := by
  obtain ⟨a1, a2, a3, a4⟩ := imE_zero W l h
  unfold ilL
  rw [if_pos (mk_ichk W l h), Int.toNat_natCast, Int.toNat_natCast]
  refine list_ext _ _ (by simp) fun i hi => ?_
  have hi2 : i < l.length := by simpa using hi
  rw [gt_map _ _ _ hi2, mk_num W l (by omega) i hi2 ((lenI_fit _ _).1 (a4 i hi2))]
theorem wm_good (l : List Nat) (hf : Fit l) (hl : l.length ≤ 300) : imE (wm l l.length) l = 0 := by
  have h1 := wm_pos l l.length
  have h2 := wm_le l hf l.length
  refine imE_of _ l (by omega) (by omega) ?_ fun j hj => ?_
  · have := Int.mul_le_mul (show (l.length : Int) ≤ 300 by omega) (show ((wm l l.length : Nat) : Int) ≤ 64 by omega) (by omega) (by omega)
    omega
  · have := wm_ge l l.length j hj
    unfold lenI
    rw [Int.toNat_natCast]
    omega
theorem wm_min (W : Int) (l : List Nat) (h : imE W l = 0) : ((wm l l.length : Nat) : Int) ≤ W := by
  obtain ⟨a1, a2, a3, a4⟩ := imE_zero W l h
  rcases wm_at l l.length with h | ⟨j, h1, h2⟩
  · omega
  · have := a4 j h1
    unfold lenI at this
    rw [Int.toNat_natCast] at this
    omega

theorem make_is (W : Nat) (al : Option Addr) (l : List Nat) (cap : Nat) (w : World) (hg : ET w) (hx : Wd w al l) (hf : Fit l) (hcap : l.length ≤ 1048576) (hE : imE (W : Int) l = 0) :
    Calls Tryd.prog 9 #[.int .i64 W, .slice al l.length cap] w fun e w' => ∃ bo dap, e = .returned (.tuple #[.agg #[.int .i64 l.length, .int .i64 W, .int .i64 ((l.length : Int) * W), .slice bo (mkS l W l.length).length dap], .int .i64 0]) ∧ OutF w w' bo (mkS l W l.length) dap := by
  have h := make_c W al l cap w hg hx hf (by omega)
  have h1 : imL (W : Int) l = mkS l W l.length := by unfold imL; rw [if_pos hE, Int.toNat_natCast]
  have h2 : imN (W : Int) l = l.length := by unfold imN; rw [if_pos hE]
  have h3 : imW (W : Int) l = W := by unfold imW; rw [if_pos hE]
  have h4 : imM (W : Int) l = (l.length : Int) * W := by unfold imM; rw [if_pos hE]
  rw [h1, h2, h3, h4, hE] at h
  exact h
theorem of_is (al : Option Addr) (l : List Nat) (cap : Nat) (w : World) (hg : ET w) (hx : Wd w al l) (hf : Fit l) (hl : l.length ≤ 300) :
    Calls Tryd.prog 8 #[.slice al l.length cap] w fun e w' => ∃ bo dap, e = .returned (.tuple #[.agg #[.int .i64 l.length, .int .i64 (wm l l.length), .int .i64 ((l.length : Int) * (wm l l.length : Nat)), .slice bo (mkS l (wm l l.length) l.length).length dap], .int .i64 0]) ∧ OutF w w' bo (mkS l (wm l l.length) l.length) dap := by
  have h := of_c al l cap w hg hx hf (by omega)
  have hE := wm_good l hf hl
  have h1 : imL (wm l l.length) l = mkS l (wm l l.length) l.length := by unfold imL; rw [if_pos hE, Int.toNat_natCast]
  have h2 : imN (wm l l.length) l = l.length := by unfold imN; rw [if_pos hE]
  have h3 : imW (wm l l.length) l = (wm l l.length : Nat) := by unfold imW; rw [if_pos hE]
  have h4 : imM (wm l l.length) l = (l.length : Int) * (wm l l.length : Nat) := by unfold imM; rw [if_pos hE]
  rw [h1, h2, h3, h4, hE] at h
  exact h
theorem list_is (W : Nat) (ao : Option Addr) (l : List Nat) (cap : Nat) (w : World) (hx : Wd w ao (mkS l W l.length)) (hE : imE (W : Int) l = 0) :
    Calls Tryd.prog 10 #[.agg #[.int .i64 l.length, .int .i64 W, .int .i64 ((l.length : Int) * W), .slice ao (mkS l W l.length).length cap]] w fun e w' => ∃ bo dap, e = .returned (.slice bo l.length dap) ∧ OutF w w' bo l dap := by
  have h := ilist_c l.length W ((l.length : Int) * W) ao (mkS l W l.length) cap w hx (fit_mkS _ _ _)
  rw [mk_list W l hE] at h
  exact h
theorem check_is (W : Nat) (ao : Option Addr) (l : List Nat) (cap : Nat) (w : World) (hx : Wd w ao (mkS l W l.length)) (hE : imE (W : Int) l = 0) :
    Calls Tryd.prog 19 #[.agg #[.int .i64 l.length, .int .i64 W, .int .i64 ((l.length : Int) * W), .slice ao (mkS l W l.length).length cap]] w fun e w' => e = .returned (.bool true) ∧ Below w.heap.size w w' := by
  have h := icheck_c l.length W ((l.length : Int) * W) ao (mkS l W l.length) cap w hx
  rw [mk_ichk W l hE] at h
  exact h
end Go.Proofs.YtjilehaokignoaaDoor
