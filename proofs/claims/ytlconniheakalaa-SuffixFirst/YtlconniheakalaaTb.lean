/-
  The contracts of the program's isEnd, of bytes.Compare and of the program's Less.
-/
import Derived.Test.YtlconniheakalaaSl
import Derived.Laws.Externs
import Derived.Lib.Bytealg
import Derived.Lib.BytesEntry
namespace Go.Proofs.Ytlconniheakalaa
open Go.RowKit
set_option linter.unusedVariables false
set_option linter.unusedSimpArgs false
set_option maxRecDepth 100000

def u8s (t : List Nat) : List UInt8 := t.map fun y => UInt8.ofNat y
theorem bytesOf_nums (t : List Nat) : Lib.bytesOf (nums t) = u8s t := by
  unfold Lib.bytesOf nums u8s
  rw [List.map_map]
  exact List.map_congr_left fun a _ => rfl
/-- What the model's entry reads off a slice of bytes. -/
theorem run_bytes {w : World} {ao : Option Addr} {t : List Nat} (cap : Nat) (h : Bd w ao t) : (Extern.Bytes.bytesOf (.slice ao t.length cap)).run Try.prog w = .ok ⟨(u8s t).toArray⟩ w := by
  by_cases h0 : 0 < t.length
  · obtain ⟨b, off, rfl, _, hc⟩ := h h0
    have hl := Lib.run_loadBytesX (P := Try.prog) w (nums t) ⟨b, off, none⟩ .empty fun j x hj => by
      have hj2 : j < t.length := by
        have := (List.getElem?_eq_some_iff.1 hj).1
        simpa [nums] using this
      unfold nums at hj
      rw [List.getElem?_map, gt_get t j hj2] at hj
      injection hj with hj
      rw [← hj, ← hc j hj2]
      unfold Addr.add
      split
      · subst_vars; rfl
      · rfl
    rw [bytesOf_nums, show (nums t).length = t.length by simp [nums]] at hl
    unfold Extern.Bytes.bytesOf
    rw [hl]
    congr 1
    apply ByteArray.ext
    show (#[] : Array UInt8) ++ (u8s t).toArray = (u8s t).toArray
    simp
  · obtain rfl : t = [] := List.eq_nil_of_length_eq_zero (by omega)
    cases ao with
    | none => rfl
    | some a => rfl
theorem cmp_lt : ∀ (x y : List Nat), Bytes x → Bytes y → decide (Lib.compareBytes (u8s x) (u8s y) < 0) = Su.lt x y
  | [], [], _, _ => rfl
  | [], _ :: _, _, _ => rfl
  | _ :: _, [], _, _ => rfl
  | a :: x, b :: y, hx, hy => by
    have ha := hx a (List.mem_cons_self ..)
    have hb := hy b (List.mem_cons_self ..)
    have ih := cmp_lt x y (fun z hz => hx z (List.mem_cons_of_mem _ hz)) (fun z hz => hy z (List.mem_cons_of_mem _ hz))
    show decide (Lib.compareBytes (UInt8.ofNat a :: u8s x) (UInt8.ofNat b :: u8s y) < 0) = _
    unfold Lib.compareBytes Su.lt
    rw [← ih]
    by_cases h1 : a < b
    · rw [if_pos (by rw [u8_lt ha hb]; exact h1), decide_eq_true h1]
      rfl
    · rw [if_neg (by rw [u8_lt ha hb]; exact h1), decide_eq_false h1]
      by_cases h2 : b < a
      · rw [if_pos (by rw [u8_lt hb ha]; exact h2), decide_eq_false (show ¬ a = b by omega)]
        rfl
      · rw [if_neg (by rw [u8_lt hb ha]; exact h2), decide_eq_true (show a = b by omega)]
        rfl
set_option maxHeartbeats 2000000 in
/-- bytes.Compare. -/
theorem bcmp_c (ao : Option Addr) (x : List Nat) (n cap : Nat) (bo : Option Addr) (y : List Nat) (m dap : Nat) (w : World) (hx : Bd w ao x) (hy : Bd w bo y) (hn : x.length = n) (hm : y.length = m) :
    Calls Try.prog 27 #[.slice ao n cap, .slice bo m dap] w fun e w' => e = .returned (.int .i64 (Lib.compareBytes (u8s x) (u8s y))) ∧ w' = w := by
  subst hn hm
  have C : (Extern.BytealgCompare.compare #[.slice ao x.length cap, .slice bo y.length dap]).run Try.prog w = .ok (.int .i64 (Lib.compareBytes (u8s x) (u8s y))) w := by
    change Sem.run Try.prog (do pure (goInt (Extern.BytealgCompare.cmp (← Extern.Bytes.bytesOf (.slice ao x.length cap)) (← Extern.Bytes.bytesOf (.slice bo y.length dap))))) w = _
    simp only [Sem.run_bind, Sem.run_pure, run_bytes cap hx, run_bytes dap hy, Result.andThen]
    rw [Lib.cmp_eq]
    rfl
  have CF := (run_callFunc_extern (P := Try.prog) Try.func32 (by kernel_rfl) (by kernel_rfl) (by kernel_rfl) (e := Extern.BytealgCompare.compare) (by kernel_rfl) #[.slice ao x.length cap, .slice bo y.length dap] w).trans (by rw [C])
  clear hx hy C
  go_enter Try.func27, Try.ntmps27
  go_wp2
  go_ret
  exact ⟨rfl, rfl⟩
def isE (t : List Nat) (i : Int) : Bool := decide (0 ≤ i) && decide (i ≤ t.length)
theorem isend_c (ao : Option Addr) (t : List Nat) (cap : Nat) (i : Int) (w : World) :
    Calls Try.prog 26 #[.slice ao t.length cap, .int .i64 i] w fun e w' => e = .returned (.bool (isE t i)) ∧ w' = w := by
  by_cases h1 : 0 ≤ i
  · by_cases h2 : i ≤ (t.length : Int)
    · have R : Hid (isE t i = true) := by unfold isE; rw [decide_eq_true h1, decide_eq_true h2]; exact (rfl : true = true)
      go_enter Try.func26, Try.ntmps26
      go_wp2
      go_ret
      rw [R.out]
      exact ⟨rfl, rfl⟩
    · have R : Hid (isE t i = false) := by unfold isE; rw [decide_eq_true h1, decide_eq_false h2]; exact (rfl : false = false)
      have h3 : (t.length : Int) < i := by omega
      go_enter Try.func26, Try.ntmps26
      go_wp2
      go_ret
      rw [R.out]
      exact ⟨rfl, rfl⟩
  · have R : Hid (isE t i = false) := by unfold isE; rw [decide_eq_false h1]; exact (rfl : false = false)
    have h3 : i < 0 := by omega
    go_enter Try.func26, Try.ntmps26
    go_wp2
    go_ret
    rw [R.out]
    exact ⟨rfl, rfl⟩
theorem isE_yes (t : List Nat) (i : Nat) (h : i ≤ t.length) : isE t (i : Int) = true := by
  unfold isE
  rw [decide_eq_true (by omega), decide_eq_true (by omega)]
  rfl
theorem isE_no (t : List Nat) (i : Int) (h : ¬ (0 ≤ i ∧ i ≤ t.length)) : isE t i = false := by
  unfold isE
  by_cases h1 : 0 ≤ i
  · rw [decide_eq_true h1, decide_eq_false (by omega)]; rfl
  · rw [decide_eq_false h1]; rfl
set_option maxHeartbeats 2000000 in
theorem sless_c (ao : Option Addr) (t : List Nat) (cap : Nat) (i j : Int) (w : World) (hx : Bd w ao t) (hb : Bytes t) (hc : t.length ≤ cap) (hl : t.length ≤ 1048576) :
    Calls Try.prog 14 #[.slice ao t.length cap, .int .i64 i, .int .i64 j] w fun e w' => e = .returned (.bool (lessE t i j)) ∧ Below w.heap.size w w' := by
  by_cases h1 : 0 ≤ i ∧ i ≤ t.length
  · by_cases h2 : 0 ≤ j ∧ j ≤ t.length
    · obtain ⟨i, rfl⟩ := Int.eq_ofNat_of_zero_le h1.1
      obtain ⟨j, rfl⟩ := Int.eq_ofNat_of_zero_le h2.1
      have k1 : ((i : Nat) : Int) ≤ (t.length : Int) := by omega
      have k2 : ((j : Nat) : Int) ≤ (t.length : Int) := by omega
      have I1 : Hid (∀ w, Calls Try.prog 26 #[.slice ao t.length cap, .int .i64 (i : Int)] w fun e w' => e = .returned (.bool true) ∧ w' = w) := fun w => by
        have := isend_c ao t cap i w
        rwa [isE_yes t i (by omega)] at this
      have I2 : Hid (∀ w, Calls Try.prog 26 #[.slice ao t.length cap, .int .i64 (j : Int)] w fun e w' => e = .returned (.bool true) ∧ w' = w) := fun w => by
        have := isend_c ao t cap j w
        rwa [isE_yes t j (by omega)] at this
      have CM : Hid (∀ n, Calls Try.prog 27 #[.slice (if cap = i then ao else ao.map (·.add i)) (t.length - i) (cap - i), .slice (if cap = j then ao else ao.map (·.add j)) (t.length - j) (cap - j)] (w.drewN n) fun e w' => e = .returned (.int .i64 (Lib.compareBytes (u8s (t.drop i)) (u8s (t.drop j)))) ∧ w' = w.drewN n) := fun n => bcmp_c _ _ _ _ _ _ _ _ _ ((hx.keep (below_drewN (Below.refl _ _) n)).from i cap hc) ((hx.keep (below_drewN (Below.refl _ _) n)).from j cap hc) (List.length_drop ..) (List.length_drop ..)
      have R : Hid (decide (Lib.compareBytes (u8s (t.drop i)) (u8s (t.drop j)) < 0) = lessE t i j) := by
        show _ = lessE t i j
        rw [cmp_lt _ _ (hb.drop i) (hb.drop j), less_in t i j (by omega) (by omega)]
        rfl
      generalize Lib.compareBytes (u8s (t.drop i)) (u8s (t.drop j)) = c at *
      clear hb hx h1 h2
      go_enter Try.func14, Try.ntmps14
      go_wp2_with (first | ((with_reducible refine (I1.out _).mono ?_); rintro e w1 ⟨rfl, rfl⟩) | ((with_reducible refine (I2.out _).mono ?_); rintro e w1 ⟨rfl, rfl⟩))
      go_quiet ((go_at_call 27; exact Calls.quiet_of_same (CM.out _)))
      clear CM
      generalize (if cap = i then ao else Option.map (fun x => x.add i) ao) = a1
      generalize (if cap = j then ao else Option.map (fun x => x.add j) ao) = a2
      go_wp2
      go_ret
      exact ⟨ret_bool R.out, below_drewN (Below.refl _ _) _⟩
    · have R : Hid (lessE t i j = false) := less_out t i j (by omega)
      have I2 : Hid (∀ w, Calls Try.prog 26 #[.slice ao t.length cap, .int .i64 j] w fun e w' => e = .returned (.bool false) ∧ w' = w) := fun w => by
        have := isend_c ao t cap j w
        rwa [isE_no t j h2] at this
      have I1 : Hid (∀ w, Calls Try.prog 26 #[.slice ao t.length cap, .int .i64 i] w fun e w' => e = .returned (.bool true) ∧ w' = w) := fun w => by
        have := isend_c ao t cap i w
        obtain ⟨i, rfl⟩ := Int.eq_ofNat_of_zero_le h1.1
        rwa [isE_yes t i (by omega)] at this
      clear hb hx h1 h2
      go_enter Try.func14, Try.ntmps14
      go_wp2_with (first | ((with_reducible refine (I1.out _).mono ?_); rintro e w1 ⟨rfl, rfl⟩) | ((with_reducible refine (I2.out _).mono ?_); rintro e w1 ⟨rfl, rfl⟩))
      go_ret
      rw [R.out]
      exact ⟨rfl, Below.refl _ _⟩
  · have R : Hid (lessE t i j = false) := less_out t i j (by omega)
    have I1 : Hid (∀ w, Calls Try.prog 26 #[.slice ao t.length cap, .int .i64 i] w fun e w' => e = .returned (.bool false) ∧ w' = w) := fun w => by
      have := isend_c ao t cap i w
      rwa [isE_no t i h1] at this
    clear hb hx h1
    go_enter Try.func14, Try.ntmps14
    go_wp2_with (first | ((with_reducible refine (I1.out _).mono ?_); rintro e w1 ⟨rfl, rfl⟩))
    go_ret
    rw [R.out]
    exact ⟨rfl, Below.refl _ _⟩
end Go.Proofs.Ytlconniheakalaa
