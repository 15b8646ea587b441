/-
  The contract of the program's fits.
-/
import Derived.Test.YtpeecabfcgijhaaGreatDoorB11
import Derived.Test.YtpeecabfcgijhaaGreatDoorB04
import Derived.Test.YtpeecabfcgijhaaGreatDoorB29
set_option linter.unusedVariables false
set_option linter.unusedSimpArgs false
set_option maxRecDepth 100000
set_option maxHeartbeats 16000000
namespace Go.Proofs.YtpeecabfcgijhaaGreatDoor
open Go.RowKit Num Bit
theorem gfits_bad (N M k V LM H : Int) (ao : Option Addr) (xs : List Nat) (cap : Nat) (qo : Option Addr) (ys : List Nat) (dap : Nat) (w : World) (hx : Wd w ao xs) (fx : Fit xs) (hy : Wd w qo ys) (fy : Fit ys) (xl : xs.length ≤ cap) (yl : ys.length ≤ dap) (h : ¬ ((0 ≤ M ∧ M ≤ N ∧ N ≤ 1048576) ∧ ichk k V LM xs = true ∧ chk H ys = true)) :
  Calls Tryz.prog 113 #[.agg #[.int .i64 N, .int .i64 M, .int .i64 k, .int .i64 V, .int .i64 LM, .slice ao xs.length cap, .int .i64 H, .slice qo ys.length dap]] w fun e w' => e = .returned (.bool false) ∧ Below w.heap.size w w' := by
 have C1 : Hid (∀ w0, Below w.heap.size w w0 → Calls Tryz.prog 157 #[.agg #[.int .i64 k, .int .i64 V, .int .i64 LM, .slice ao xs.length cap]] w0 fun e w' => e = .returned (.bool (ichk k V LM xs)) ∧ Below w0.heap.size w0 w') := fun w0 hb => icheck_c k V LM ao xs cap w0 (hx.keep hb)
 have C2 : Hid (∀ w0, Below w.heap.size w w0 → Calls Tryz.prog 64 #[.agg #[.int .i64 H, .slice qo ys.length dap]] w0 fun e w' => e = .returned (.bool (chk H ys)) ∧ Below w0.heap.size w0 w') := fun w0 hb => check_c H qo ys dap w0 (hy.keep hb)
 obtain ⟨W, hW⟩ : ∃ W, W = w.alloc (.cells #[.int .i64 N, .int .i64 M, .int .i64 k, .int .i64 V, .int .i64 LM, .slice ao xs.length cap, .int .i64 H, .slice qo ys.length dap] 35) := ⟨_, rfl⟩
 have bW := yb1 hW
 have B1 := yc1 hW
 clear hx hy fx fy
 by_cases m0 : M < 0
 ·clear C1 C2 h
  go_enter Tryz.func113, Tryz.ntmps113
  go_wp2
  go_ret
  rw [← hW]
  exact ⟨rfl, bW⟩
 by_cases m1 : N < M
 ·clear C1 C2 h
  go_enter Tryz.func113, Tryz.ntmps113
  go_wp2
  go_ret
  rw [← hW]
  exact ⟨rfl, bW⟩
 by_cases n1 : 1048576 < N
 ·clear C1 C2 h
  go_enter Tryz.func113, Tryz.ntmps113
  go_wp2
  go_ret
  rw [← hW]
  exact ⟨rfl, bW⟩
 cases hk : ichk k V LM xs with
 | false =>
  rw [hk] at C1
  clear C2 h hk
  go_enter Tryz.func113, Tryz.ntmps113
  go_wp2_with fail
  rw [← hW]
  refine (C1.out _ bW).mono ?_
  rintro e w1 ⟨rfl, hb⟩
  have bw1 := bW.trans (hb.mono bW.size)
  clear hW hb
  go_wp2
  go_ret
  exact ⟨rfl, bw1⟩
 | true =>
  have hc : chk H ys = false := by
   cases hc : chk H ys with
   | false => rfl
   | true => exact absurd ⟨by omega, hk, hc⟩ h
  rw [hk] at C1
  rw [hc] at C2
  clear h hk hc
  go_enter Tryz.func113, Tryz.ntmps113
  go_wp2_with fail
  rw [← hW]
  refine (C1.out _ bW).mono ?_
  rintro e w1 ⟨rfl, hb⟩
  have bw1 := bW.trans (hb.mono bW.size)
  replace B1 := B1.kept hb
  have q6 := B1.cell 6 rfl
  have q7 := B1.cell 7 rfl
  clear hW hb
  go_wp2_with fail
  refine (C2.out _ bw1).mono ?_
  rintro e w2 ⟨rfl, hb⟩
  have bw2 := bw1.trans (hb.mono bw1.size)
  clear hb
  go_wp2
  go_ret
  exact ⟨rfl, bw2⟩
theorem gfits_on (n mm : Nat) (k V LM H : Int) (ao : Option Addr) (xs : List Nat) (cap : Nat) (qo : Option Addr) (ys : List Nat) (dap : Nat) (w : World) (hx : Wd w ao xs) (fx : Fit xs) (hy : Wd w qo ys) (fy : Fit ys) (xl : xs.length ≤ cap) (yl : ys.length ≤ dap) (hn : n ≤ 1048576) (hm : mm ≤ n) (ik : ichk k V LM xs = true) (ck : chk H ys = true) (B : Bool) (hB : B = true ↔ (k = (loN n mm : Int) ∧ V = (max (wdF n mm) 1 : Nat) ∧ H = ((mm + n / 2 ^ wdF n mm + 1 : Nat) : Int) ∧ onesI H ys H = (mm : Int))) :
  Calls Tryz.prog 113 #[.agg #[.int .i64 (n : Nat), .int .i64 (mm : Nat), .int .i64 k, .int .i64 V, .int .i64 LM, .slice ao xs.length cap, .int .i64 H, .slice qo ys.length dap]] w fun e w' => e = .returned (.bool B) ∧ Below w.heap.size w w' := by
 have C1 : Hid (∀ w0, Below w.heap.size w w0 → Calls Tryz.prog 157 #[.agg #[.int .i64 k, .int .i64 V, .int .i64 LM, .slice ao xs.length cap]] w0 fun e w' => e = .returned (.bool true) ∧ Below w0.heap.size w0 w') := fun w0 hb => by
  have := icheck_c k V LM ao xs cap w0 (hx.keep hb)
  rw [ik] at this
  exact this
 have C2 : Hid (∀ w0, Below w.heap.size w w0 → Calls Tryz.prog 64 #[.agg #[.int .i64 H, .slice qo ys.length dap]] w0 fun e w' => e = .returned (.bool true) ∧ Below w0.heap.size w0 w') := fun w0 hb => by
  have := check_c H qo ys dap w0 (hy.keep hb)
  rw [ck] at this
  exact this
 have C3 : Hid (∀ w0, Calls Tryz.prog 130 #[.int .i64 n, .int .i64 mm] w0 fun e w' => e = .returned (.tuple #[.int .i64 (loN n mm), .int .i64 (max (wdF n mm) 1 : Nat)]) ∧ w' = w0) := fun w0 => glowSize_c n mm hn hm w0
 have C4 : Hid (∀ w0, Calls Tryz.prog 133 #[.int .i64 n, .int .i64 mm] w0 fun e w' => e = .returned (.int .i64 ((mm + n / 2 ^ wdF n mm + 1 : Nat) : Int)) ∧ w' = w0) := fun w0 => ghighSize_c n mm hn hm w0
 have C5 : Hid (∀ w0, Below w.heap.size w w0 → Calls Tryz.prog 73 #[.agg #[.int .i64 H, .slice qo ys.length dap], .int .i64 H] w0 fun e w' => e = .returned (.int .i64 (onesI H ys H)) ∧ Below w0.heap.size w0 w') := fun w0 hb => bones_c H qo ys dap H w0 (hy.keep hb) fy yl
 have HB := hide9' hB
 obtain ⟨W, hW⟩ : ∃ W, W = w.alloc (.cells #[.int .i64 (n : Nat), .int .i64 (mm : Nat), .int .i64 k, .int .i64 V, .int .i64 LM, .slice ao xs.length cap, .int .i64 H, .slice qo ys.length dap] 35) := ⟨_, rfl⟩
 have bW := yb1 hW
 have B1 := yc1 hW
 have i2 : ¬ (1048576 : Int) < (n : Int) := by omega
 have i4 : ¬ (mm : Int) < 0 := by omega
 have i5 : ¬ (n : Int) < (mm : Int) := by omega
 clear hx hy fx fy ik ck hB
 generalize loN n mm = a1 at *
 generalize max (wdF n mm) 1 = a2 at *
 generalize mm + n / 2 ^ wdF n mm + 1 = a3 at *
 generalize onesI H ys H = a4 at *
 go_enter Tryz.func113, Tryz.ntmps113
 go_wp2_with fail
 rw [← hW]
 refine (C1.out _ bW).mono ?_
 rintro e w1 ⟨rfl, hb⟩
 have bw1 := bW.trans (hb.mono bW.size)
 replace B1 := B1.kept hb
 have q6 := B1.cell 6 rfl
 have q7 := B1.cell 7 rfl
 clear hW hb bW C1
 go_wp2_with fail
 refine (C2.out _ bw1).mono ?_
 rintro e w2 ⟨rfl, hb⟩
 have bw2 := bw1.trans (hb.mono bw1.size)
 replace B1 := B1.kept hb
 clear hb bw1 C2 q6 q7
 have q0 := B1.cell 0 rfl
 have q1 := B1.cell 1 rfl
 go_wp2_with fail
 refine (C3.out _).mono ?_
 rintro e w3 ⟨rfl, h3⟩
 rw [h3]
 clear h3 C3 q0 q1
 go_wp2_with fail
 refine region_g [] (fun w0 => Cel w0 w.heap.size [.int .i64 (n : Nat), .int .i64 (mm : Nat), .int .i64 k, .int .i64 V, .int .i64 LM, .slice ao xs.length cap, .int .i64 H, .slice qo ys.length dap] 35) (by kernel_rfl) ?_
 have hS := B1.drew
 by_cases e1 : k = (a1 : Int)
 ·have e1b : (k == (a1 : Int)) = true := by simp [e1]
  by_cases e2 : V = (a2 : Int)
  ·have e2b : (V == (a2 : Int)) = true := by simp [e2]
   by_cases e3 : H = (a3 : Int)
   ·have e3b : (H == (a3 : Int)) = true := by simp [e3]
    have HE : Hid (B = (a4 == (mm : Int))) := by show B = _; rw [Bool.eq_iff_iff, HB.out]; simp [e1, e2, e3]
    clear e1 e2 e3 HB
    refine AnyG.tk 0 hS ?_
    refine AnyG.tk 1 hS ?_
    refine AnyG.tf 2 hS rfl (fun w0 h0 => by have := h0.cell 2 rfl; go_simp; try with_reducible rfl) ?_
    refine AnyG.tk 3 hS ?_
    refine AnyG.tk 4 hS ?_
    refine AnyG.tk 5 hS ?_
    refine AnyG.tk 6 hS ?_
    refine AnyG.tk 7 hS ?_
    refine AnyG.tf 8 hS rfl (fun w0 h0 => by have := h0.cell 3 rfl; go_simp; try with_reducible rfl) ?_
    refine AnyG.tk 9 hS ?_
    refine AnyG.tk 10 hS ?_
    refine AnyG.tk 11 hS ?_
    refine AnyG.tk 12 hS ?_
    refine AnyG.tk 13 hS ?_
    refine AnyG.tk 14 hS ?_
    refine AnyG.tf 15 hS rfl (fun w0 h0 => by have := h0.cell 6 rfl; go_simp; try with_reducible rfl) ?_
    refine AnyG.tk 16 hS ?_
    refine AnyG.tf 17 hS rfl (fun w0 h0 => by have := h0.cell 0 rfl; go_simp; try with_reducible rfl) ?_
    refine AnyG.tk 18 hS ?_
    refine AnyG.tf 19 hS rfl (fun w0 h0 => by have := h0.cell 1 rfl; go_simp; try with_reducible rfl) ?_
    refine AnyG.o1 20 ?_
    intro K hK
    go_simp
    refine (C4.out _).mono ?_
    rintro e w4 ⟨rfl, h4⟩
    rw [h4]
    clear h4
    refine hK.out _ _ (fun _ => hS) ?_
    clear hK K
    try simp only [Act.put, yq0, yq1, yq2, yq3, yq4, yq5]
    refine AnyG.tk 21 hS ?_
    refine AnyG.tk 22 hS ?_
    refine AnyG.tk 23 hS ?_
    refine AnyG.tk 24 hS ?_
    refine AnyG.tf 25 hS rfl (fun w0 h0 => by have := h0.cell 6 rfl; have := h0.cell 7 rfl; go_simp; try with_reducible rfl) ?_
    refine AnyG.tk 26 hS ?_
    refine AnyG.tk 27 hS ?_
    refine AnyG.tf 28 hS rfl (fun w0 h0 => by have := h0.cell 6 rfl; go_simp; try with_reducible rfl) ?_
    refine AnyG.tk 30 hS ?_
    refine AnyG.tf 31 hS rfl (fun w0 h0 => by have := h0.cell 1 rfl; go_simp; try with_reducible rfl) ?_
    refine AnyG.o1 29 ?_
    intro K hK
    go_simp
    refine (C5.out _ bw2.drew).mono ?_
    rintro e w5 ⟨rfl, hb⟩
    have bw5 := bw2.drew.trans (hb.mono bw2.drew.size)
    have hS5 := hS.kept hb
    clear hb
    refine hK.out _ _ (fun _ => hS5) ?_
    clear hK K
    try simp only [Act.put, yq0, yq1, yq2, yq3, yq4, yq5]
    refine AnyG.tk 32 hS5 ?_
    refine AnyG.tk 33 hS5 ?_
    refine AnyG.tk 34 hS5 ?_
    refine AnyG.done (by kernel_rfl) ?_ _
    go_wp2
    go_ret
    rw [HE.out]
    exact ⟨rfl, bw5⟩
   ·have e3b : (H == (a3 : Int)) = false := by simp [e3]
    obtain rfl : B = false := Bool.eq_false_iff.2 fun h => by have := HB.out.1 h; omega
    clear e3 HB
    refine AnyG.tk 0 hS ?_
    refine AnyG.tk 1 hS ?_
    refine AnyG.tf 2 hS rfl (fun w0 h0 => by have := h0.cell 2 rfl; go_simp; try with_reducible rfl) ?_
    refine AnyG.tk 3 hS ?_
    refine AnyG.tk 4 hS ?_
    refine AnyG.tk 5 hS ?_
    refine AnyG.tk 6 hS ?_
    refine AnyG.tk 7 hS ?_
    refine AnyG.tf 8 hS rfl (fun w0 h0 => by have := h0.cell 3 rfl; go_simp; try with_reducible rfl) ?_
    refine AnyG.tk 9 hS ?_
    refine AnyG.tk 10 hS ?_
    refine AnyG.tk 11 hS ?_
    refine AnyG.tk 12 hS ?_
    refine AnyG.tk 13 hS ?_
    refine AnyG.tk 14 hS ?_
    refine AnyG.tf 15 hS rfl (fun w0 h0 => by have := h0.cell 6 rfl; go_simp; try with_reducible rfl) ?_
    refine AnyG.tk 16 hS ?_
    refine AnyG.tf 17 hS rfl (fun w0 h0 => by have := h0.cell 0 rfl; go_simp; try with_reducible rfl) ?_
    refine AnyG.tk 18 hS ?_
    refine AnyG.tf 19 hS rfl (fun w0 h0 => by have := h0.cell 1 rfl; go_simp; try with_reducible rfl) ?_
    refine AnyG.o1 20 ?_
    intro K hK
    go_simp
    refine (C4.out _).mono ?_
    rintro e w4 ⟨rfl, h4⟩
    rw [h4]
    clear h4
    refine hK.out _ _ (fun _ => hS) ?_
    clear hK K
    try simp only [Act.put, yq0, yq1, yq2, yq3, yq4, yq5]
    refine AnyG.tk 21 hS ?_
    refine AnyG.tk 22 hS ?_
    refine AnyG.tk 23 hS ?_
    refine AnyG.sk 24 hS ?_
    refine AnyG.sk 25 hS ?_
    refine AnyG.sk 26 hS ?_
    refine AnyG.sk 27 hS ?_
    refine AnyG.sk 28 hS ?_
    refine AnyG.sk 29 hS ?_
    refine AnyG.sk 30 hS ?_
    refine AnyG.sk 31 hS ?_
    refine AnyG.sk 32 hS ?_
    refine AnyG.tk 33 hS ?_
    refine AnyG.tk 34 hS ?_
    refine AnyG.done (by kernel_rfl) ?_ _
    go_wp2
    go_ret
    exact ⟨rfl, bw2.drew⟩
  ·have e2b : (V == (a2 : Int)) = false := by simp [e2]
   obtain rfl : B = false := Bool.eq_false_iff.2 fun h => by have := HB.out.1 h; omega
   clear e2 HB
   refine AnyG.tk 0 hS ?_
   refine AnyG.tk 1 hS ?_
   refine AnyG.tf 2 hS rfl (fun w0 h0 => by have := h0.cell 2 rfl; go_simp; try with_reducible rfl) ?_
   refine AnyG.tk 3 hS ?_
   refine AnyG.tk 4 hS ?_
   refine AnyG.tk 5 hS ?_
   refine AnyG.tk 6 hS ?_
   refine AnyG.tk 7 hS ?_
   refine AnyG.tf 8 hS rfl (fun w0 h0 => by have := h0.cell 3 rfl; go_simp; try with_reducible rfl) ?_
   refine AnyG.tk 9 hS ?_
   refine AnyG.tk 10 hS ?_
   refine AnyG.tk 11 hS ?_
   refine AnyG.tk 12 hS ?_
   refine AnyG.sk 13 hS ?_
   refine AnyG.sk 14 hS ?_
   refine AnyG.sk 15 hS ?_
   refine AnyG.sk 16 hS ?_
   refine AnyG.sk 17 hS ?_
   refine AnyG.sk 18 hS ?_
   refine AnyG.sk 19 hS ?_
   refine AnyG.sk 20 hS ?_
   refine AnyG.sk 21 hS ?_
   refine AnyG.tk 22 hS ?_
   refine AnyG.tk 23 hS ?_
   refine AnyG.sk 24 hS ?_
   refine AnyG.sk 25 hS ?_
   refine AnyG.sk 26 hS ?_
   refine AnyG.sk 27 hS ?_
   refine AnyG.sk 28 hS ?_
   refine AnyG.sk 29 hS ?_
   refine AnyG.sk 30 hS ?_
   refine AnyG.sk 31 hS ?_
   refine AnyG.sk 32 hS ?_
   refine AnyG.tk 33 hS ?_
   refine AnyG.tk 34 hS ?_
   refine AnyG.done (by kernel_rfl) ?_ _
   go_wp2
   go_ret
   exact ⟨rfl, bw2.drew⟩
 ·have e1b : (k == (a1 : Int)) = false := by simp [e1]
  obtain rfl : B = false := Bool.eq_false_iff.2 fun h => by have := HB.out.1 h; omega
  clear e1 HB
  refine AnyG.tk 0 hS ?_
  refine AnyG.tk 1 hS ?_
  refine AnyG.tf 2 hS rfl (fun w0 h0 => by have := h0.cell 2 rfl; go_simp; try with_reducible rfl) ?_
  refine AnyG.tk 3 hS ?_
  refine AnyG.tk 4 hS ?_
  refine AnyG.tk 5 hS ?_
  refine AnyG.sk 6 hS ?_
  refine AnyG.sk 7 hS ?_
  refine AnyG.sk 8 hS ?_
  refine AnyG.sk 9 hS ?_
  refine AnyG.sk 10 hS ?_
  refine AnyG.tk 11 hS ?_
  refine AnyG.tk 12 hS ?_
  refine AnyG.sk 13 hS ?_
  refine AnyG.sk 14 hS ?_
  refine AnyG.sk 15 hS ?_
  refine AnyG.sk 16 hS ?_
  refine AnyG.sk 17 hS ?_
  refine AnyG.sk 18 hS ?_
  refine AnyG.sk 19 hS ?_
  refine AnyG.sk 20 hS ?_
  refine AnyG.sk 21 hS ?_
  refine AnyG.tk 22 hS ?_
  refine AnyG.tk 23 hS ?_
  refine AnyG.sk 24 hS ?_
  refine AnyG.sk 25 hS ?_
  refine AnyG.sk 26 hS ?_
  refine AnyG.sk 27 hS ?_
  refine AnyG.sk 28 hS ?_
  refine AnyG.sk 29 hS ?_
  refine AnyG.sk 30 hS ?_
  refine AnyG.sk 31 hS ?_
  refine AnyG.sk 32 hS ?_
  refine AnyG.tk 33 hS ?_
  refine AnyG.tk 34 hS ?_
  refine AnyG.done (by kernel_rfl) ?_ _
  go_wp2
  go_ret
  exact ⟨rfl, bw2.drew⟩
end Go.Proofs.YtpeecabfcgijhaaGreatDoor
