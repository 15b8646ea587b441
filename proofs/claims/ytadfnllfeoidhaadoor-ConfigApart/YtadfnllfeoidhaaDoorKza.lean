/-
  The contracts of read, whatever words, and of the program's Parse.
-/
import Derived.Test.YtadfnllfeoidhaaDoorKz
import Derived.Test.YtadfnllfeoidhaaDoorKt
import Derived.Test.YtadfnllfeoidhaaDoorKw
namespace Go.Proofs.YtadfnllfeoidhaaDoor
open Go.RowKit
set_option linter.unusedVariables false
set_option linter.unusedSimpArgs false
set_option maxRecDepth 100000

set_option maxHeartbeats 4000000 in
theorem kread_o (l : List ByteArray) (B : Nat) (v : Value) (w : World) (h : WS w B v l) (h3 : l.length ≠ 3) (h5 : l.length ≠ 5) :
    Calls Tryd.prog 25 #[v] w fun e w' => e = .returned (.agg (Co.cv (0, 0, 0, 0, 0)).toArray) ∧ Below w.heap.size w w' := by
  obtain ⟨ao, cap, rfl, _, _⟩ := owns_shape h
  obtain ⟨W, hW⟩ : ∃ W, W = w.alloc (.cells #[.int .i64 0, .int .i64 0, .int .i64 0, .int .i64 0, .int .i64 0] 23) := ⟨_, rfl⟩
  have HB0 : Hid (Below w.heap.size w W) := by rw [hW]; exact below_alloc w _
  have HC : Hid (Cel W w.heap.size [.int .i64 0, .int .i64 0, .int .i64 0, .int .i64 0, .int .i64 0] 23) := by rw [hW]; exact Cel.new w _ _
  have HW := hide hW
  clear hW
  obtain ⟨gr, hgr0⟩ : ∃ gr, Hid (gr = w.heap.size) := ⟨_, rfl⟩
  rw [← hgr0.out] at HC
  have hgr : Hid (w.heap.size ≤ gr) := by rw [hgr0.out]; exact Nat.le_refl _
  have h3z : (((l.length : Nat) : Int) == 3) = false := by simp; omega
  have h5z : (((l.length : Nat) : Int) == 5) = false := by simp; omega
  have B3 := HC.out
  clear h h3 h5
  generalize l.length = n at *
  go_enter Tryd.func25, Tryd.ntmps25
  go_wp2_with (rw [← HW.out]; refine store_cel gr [.int .i64 0, .int .i64 0, .int .i64 0, .int .i64 0, .int .i64 0] [.int .i64 0, .int .i64 0, .int .i64 0, .int .i64 0, .int .i64 0] (by rw [hgr0.out]; rfl) rfl B3 rfl info_cfg (one5 _ _ _ _ _) ?_)
  intro w3 hc3 ho3
  have HB4 := HB0.out.trans (ho3.below hgr.out)
  clear B3
  rw [← hgr0.out]
  go_wp2
  refine bodyPost_ret (result_cel1 rfl gr [.int .i64 0, .int .i64 0, .int .i64 0, .int .i64 0, .int .i64 0] rfl hc3 Tryd.underlying23 info_cfg) rfl ?_
  exact ⟨rfl, HB4⟩
theorem rdL_o : ∀ (l : List ByteArray), l.length ≠ 3 → l.length ≠ 5 → Rs.rdL l = (0, 0, 0, 0, 0)
  | [], _, _ => rfl
  | [_], _, _ => rfl
  | [_, _], _, _ => rfl
  | [_, _, _], h, _ => absurd rfl h
  | [_, _, _, _], _, _ => rfl
  | [_, _, _, _, _], _, h => absurd rfl h
  | _ :: _ :: _ :: _ :: _ :: _ :: _, _, _ => rfl
theorem kread_c (l : List ByteArray) (B : Nat) (v : Value) (w : World) (h : WS w B v l) :
    Calls Tryd.prog 25 #[v] w fun e w' => e = .returned (.agg (Co.cv (Rs.rdL l)).toArray) ∧ Below w.heap.size w w' := by
  by_cases h3 : l.length = 3
  · match l, h3, h with
    | [a, b, c], _, h => exact kread_3 a b c B v w h
  · by_cases h5 : l.length = 5
    · match l, h5, h with
      | [a, b, c, d, e], _, h => exact kread_5 a b c d e B v w h
    · rw [rdL_o l h3 h5]
      exact kread_o l B v w h h3 h5
namespace Co
theorem all_read : (all.all fun c => decide (Rs.rdL (Rs.cut (str (nm c))) = toZ c)) = true := by decide +kernel
theorem read_nm {c : Cf} (h : c ∈ all) : Rs.rdL (Rs.cut (str (nm c))) = toZ c := of_decide_eq_true (List.all_eq_true.1 all_read c h)
theorem same_str {a b : ByteArray} (h : (a.toList == b.toList) = true) : a = b := by
  rw [beq_iff_eq, ByteArray.toList_eq, ByteArray.toList_eq] at h
  apply ByteArray.ext
  exact Array.ext' h
/-- What is read counts only where its own name is the text. -/
theorem fnd_read (s : ByteArray) (z : Zf) (hz : Rs.rdL (Rs.cut s) = z) : (okZ z = true → ((str (nmZ z)).toList == s.toList) = true → fnd s = some (nat z)) ∧ (okZ z = false ∨ ((str (nmZ z)).toList == s.toList) = false → fnd s = none) := by
  constructor
  · intro h1 h2
    have e := okZ_nn h1
    have hk : ok (nat z) = true := by rw [← okZ_nat, e]; exact h1
    have hm := mem_all hk
    have hn : nmZ z = nm (nat z) := by unfold nmZ; rw [h1]; rfl
    rw [hn] at h2
    rw [← same_str h2]
    exact fnd_nm hm
  · intro h
    cases hf : fnd s with
    | none => rfl
    | some c =>
      obtain ⟨hm, h2⟩ := fnd_some hf
      have hs := same_str h2
      have hr := read_nm hm
      rw [hs, hz] at hr
      have hk : okZ z = true := by rw [hr, okZ_nat]; exact ok_all hm
      have hn : nmZ z = nm c := by unfold nmZ; rw [hk, hr, nat_toZ]; rfl
      rcases h with h | h
      · rw [hk] at h; cases h
      · rw [hn, h2] at h; cases h
end Co
end Go.Proofs.YtadfnllfeoidhaaDoor
