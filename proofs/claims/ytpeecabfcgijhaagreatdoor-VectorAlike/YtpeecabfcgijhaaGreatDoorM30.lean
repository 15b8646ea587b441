/-
  The contract of the program's fits.
-/
import Derived.Test.YtpeecabfcgijhaaGreatDoorM11
import Derived.Test.YtpeecabfcgijhaaGreatDoorM04
import Derived.Test.YtpeecabfcgijhaaGreatDoorM29
namespace Go.Proofs.YtpeecabfcgijhaaGreatDoor
open Go.RowKit Num Bit
set_option linter.unusedVariables false
set_option linter.unusedSimpArgs false
set_option maxRecDepth 100000

set_option maxHeartbeats 8000000 in
theorem gfits_bad (N M k V LM H : Int) (ao : Option Addr) (xs : List Nat) (cap : Nat) (qo : Option Addr) (ys : List Nat) (dap : Nat) (w : World) (hx : Wd w ao xs) (fx : Fit xs) (hy : Wd w qo ys) (fy : Fit ys) (xl : xs.length ≤ cap) (yl : ys.length ≤ dap) (h : ¬ ((0 ≤ M ∧ M ≤ N ∧ N ≤ 1048576) ∧ ichk k V LM xs = true ∧ chk H ys = true)) :
  Calls Tryz.prog 113 #[.agg #[.int .i64 N, .int .i64 M, .int .i64 k, .int .i64 V, .int .i64 LM, .slice ao xs.length cap, .int .i64 H, .slice qo ys.length dap]] w fun e w' => e = .returned (.bool false) ∧ Below w.heap.size w w' := by
 have C1 : Hid (∀ w0, Below w.heap.size w w0 → Calls Tryz.prog 157 #[.agg #[.int .i64 k, .int .i64 V, .int .i64 LM, .slice ao xs.length cap]] w0 fun e w' => e = .returned (.bool (ichk k V LM xs)) ∧ Below w0.heap.size w0 w') := fun w0 hb => icheck_c k V LM ao xs cap w0 (hx.keep hb)
 have C2 : Hid (∀ w0, Below w.heap.size w w0 → Calls Tryz.prog 64 #[.agg #[.int .i64 H, .slice qo ys.length dap]] w0 fun e w' => e = .returned (.bool (chk H ys)) ∧ Below w0.heap.size w0 w') := fun w0 hb => check_c H qo ys dap w0 (hy.keep hb)
 obtain ⟨W, hW⟩ : ∃ W, W = w.alloc (.cells #[.int .i64 N, .int .i64 M, .int .i64 k, .int .i64 V, .int .i64 LM, .slice ao xs.length cap, .int .i64 H, .slice qo ys.length dap] 35) := ⟨_, rfl⟩
 have bW : Below w.heap.size w W := by rw [hW]; exact below_alloc w _
 have B1 : Cel W w.heap.size [.int .i64 N, .int .i64 M, .int .i64 k, .int .i64 V, .int .i64 LM, .slice ao xs.length cap, .int .i64 H, .slice qo ys.length dap] 35 := by rw [hW]; exact Cel.new w _ _
 clear hx hy fx fy
 by_cases m0 : M < 0
 ·clear C1 C2 h
  go_enter Tryz.func113, Tryz.ntmps113
  go_wp2
  go_ret
  rw [← hW]
  exact ⟨rfl, bW⟩
 by_cases m1 : N < M
 ·clear C1 C2 h
  go_enter Tryz.func113, Tryz.ntmps113
  go_wp2
  go_ret
  rw [← hW]
  exact ⟨rfl, bW⟩
 by_cases n1 : 1048576 < N
 ·clear C1 C2 h
  go_enter Tryz.func113, Tryz.ntmps113
  go_wp2
  go_ret
  rw [← hW]
  exact ⟨rfl, bW⟩
 cases hk : ichk k V LM xs with
 | false =>
  rw [hk] at C1
  clear C2 h hk
  go_enter Tryz.func113, Tryz.ntmps113
  go_wp2_with fail
  rw [← hW]
  refine (C1.out _ bW).mono ?_
  rintro e w1 ⟨rfl, hb⟩
  have bw1 := bW.trans (hb.mono bW.size)
  clear hW hb
  go_wp2
  go_ret
  exact ⟨rfl, bw1⟩
 | true =>
  have hc : chk H ys = false := by
   cases hc : chk H ys with
   | false => rfl
   | true => exact absurd ⟨by omega, hk, hc⟩ h
  rw [hk] at C1
  rw [hc] at C2
  clear h hk hc
  go_enter Tryz.func113, Tryz.ntmps113
  go_wp2_with fail
  rw [← hW]
  refine (C1.out _ bW).mono ?_
  rintro e w1 ⟨rfl, hb⟩
  have bw1 := bW.trans (hb.mono bW.size)
  replace B1 := B1.kept hb
  have q6 := B1.cell 6 rfl
  have q7 := B1.cell 7 rfl
  clear hW hb
  go_wp2_with fail
  refine (C2.out _ bw1).mono ?_
  rintro e w2 ⟨rfl, hb⟩
  have bw2 := bw1.trans (hb.mono bw1.size)
  clear hb
  go_wp2
  go_ret
  exact ⟨rfl, bw2⟩
set_option maxHeartbeats 16000000 in
theorem gfits_on (n mm : Nat) (k V LM H : Int) (ao : Option Addr) (xs : List Nat) (cap : Nat) (qo : Option Addr) (ys : List Nat) (dap : Nat) (w : World) (hx : Wd w ao xs) (fx : Fit xs) (hy : Wd w qo ys) (fy : Fit ys) (xl : xs.length ≤ cap) (yl : ys.length ≤ dap) (hn : n ≤ 1048576) (hm : mm ≤ n) (ik : ichk k V LM xs = true) (ck : chk H ys = true) (B : Bool) (hB : B = true ↔ (k = (loN n mm : Int) ∧ V = (max (wdF n mm) 1 : Nat) ∧ H = ((mm + n / 2 ^ wdF n mm + 1 : Nat) : Int) ∧ onesI H ys H = (mm : Int))) :
  Calls Tryz.prog 113 #[.agg #[.int .i64 (n : Nat), .int .i64 (mm : Nat), .int .i64 k, .int .i64 V, .int .i64 LM, .slice ao xs.length cap, .int .i64 H, .slice qo ys.length dap]] w fun e w' => e = .returned (.bool B) ∧ Below w.heap.size w w' := by
 have C1 : Hid (∀ w0, Below w.heap.size w w0 → Calls Tryz.prog 157 #[.agg #[.int .i64 k, .int .i64 V, .int .i64 LM, .slice ao xs.length cap]] w0 fun e w' => e = .returned (.bool true) ∧ Below w0.heap.size w0 w') := fun w0 hb => by
  have := icheck_c k V LM ao xs cap w0 (hx.keep hb)
  rw [ik] at this
  exact this
 have C2 : Hid (∀ w0, Below w.heap.size w w0 → Calls Tryz.prog 64 #[.agg #[.int .i64 H, .slice qo ys.length dap]] w0 fun e w' => e = .returned (.bool true) ∧ Below w0.heap.size w0 w') := fun w0 hb => by
  have := check_c H qo ys dap w0 (hy.keep hb)
  rw [ck] at this
  exact this
 have C3 : Hid (∀ w0, Calls Tryz.prog 130 #[.int .i64 n, .int .i64 mm] w0 fun e w' => e = .returned (.tuple #[.int .i64 (loN n mm), .int .i64 (max (wdF n mm) 1 : Nat)]) ∧ w' = w0) := fun w0 => glowSize_c n mm hn hm w0
 have C4 : Hid (∀ w0, Calls Tryz.prog 133 #[.int .i64 n, .int .i64 mm] w0 fun e w' => e = .returned (.int .i64 ((mm + n / 2 ^ wdF n mm + 1 : Nat) : Int)) ∧ w' = w0) := fun w0 => ghighSize_c n mm hn hm w0
 have C5 : Hid (∀ w0, Below w.heap.size w w0 → Calls Tryz.prog 73 #[.agg #[.int .i64 H, .slice qo ys.length dap], .int .i64 H] w0 fun e w' => e = .returned (.int .i64 (onesI H ys H)) ∧ Below w0.heap.size w0 w') := fun w0 hb => bones_c H qo ys dap H w0 (hy.keep hb) fy yl
 have HB := hide9' hB
 obtain ⟨W, hW⟩ : ∃ W, W = w.alloc (.cells #[.int .i64 (n : Nat), .int .i64 (mm : Nat), .int .i64 k, .int .i64 V, .int .i64 LM, .slice ao xs.length cap, .int .i64 H, .slice qo ys.length dap] 35) := ⟨_, rfl⟩
 have bW : Below w.heap.size w W := by rw [hW]; exact below_alloc w _
 have B1 : Cel W w.heap.size [.int .i64 (n : Nat), .int .i64 (mm : Nat), .int .i64 k, .int .i64 V, .int .i64 LM, .slice ao xs.length cap, .int .i64 H, .slice qo ys.length dap] 35 := by rw [hW]; exact Cel.new w _ _
 have i2 : ¬ (1048576 : Int) < (n : Int) := by omega
 have i4 : ¬ (mm : Int) < 0 := by omega
 have i5 : ¬ (n : Int) < (mm : Int) := by omega
 clear hx hy fx fy ik ck hB
 generalize loN n mm = a1 at *
 generalize max (wdF n mm) 1 = a2 at *
 generalize mm + n / 2 ^ wdF n mm + 1 = a3 at *
 generalize onesI H ys H = a4 at *
 go_enter Tryz.func113, Tryz.ntmps113
 go_wp2_with fail
 rw [← hW]
 refine (C1.out _ bW).mono ?_
 rintro e w1 ⟨rfl, hb⟩
 have bw1 := bW.trans (hb.mono bW.size)
 replace B1 := B1.kept hb
 have q6 := B1.cell 6 rfl
 have q7 := B1.cell 7 rfl
 clear hW hb bW C1
 go_wp2_with fail
 refine (C2.out _ bw1).mono ?_
 rintro e w2 ⟨rfl, hb⟩
 have bw2 := bw1.trans (hb.mono bw1.size)
 replace B1 := B1.kept hb
 clear hb bw1 C2 q6 q7
 have q0 := B1.cell 0 rfl
 have q1 := B1.cell 1 rfl
 go_wp2_with fail
 refine (C3.out _).mono ?_
 rintro e w3 ⟨rfl, h3⟩
 rw [h3]
 clear h3 C3 q0 q1
 go_wp2_with fail
 refine region_g [] (fun w0 => Cel w0 w.heap.size [.int .i64 (n : Nat), .int .i64 (mm : Nat), .int .i64 k, .int .i64 V, .int .i64 LM, .slice ao xs.length cap, .int .i64 H, .slice qo ys.length dap] 35) (by kernel_rfl) ?_
 have hS := B1.drew
 by_cases e1 : k = (a1 : Int)
 ·have e1b : (k == (a1 : Int)) = true := by simp [e1]
  by_cases e2 : V = (a2 : Int)
  ·have e2b : (V == (a2 : Int)) = true := by simp [e2]
   by_cases e3 : H = (a3 : Int)
   ·have e3b : (H == (a3 : Int)) = true := by simp [e3]
    have HE : Hid (B = (a4 == (mm : Int))) := by show B = _; rw [Bool.eq_iff_iff, HB.out]; simp [e1, e2, e3]
    clear e1 e2 e3 HB
    refine AnyG.take 0 (v := ?vv1) rfl (by kernel_rfl) (by kernel_rfl) (by kernel_rfl) (by kernel_rfl) (fun _ _ _ h => h) hS ?hy1 (by rfl) ?rest1
    case hy1 =>
     intro w0 h0
     go_simp
     try with_reducible rfl
    simp only [Act.put, yq0, yq1, yq2, yq3, yq4, yq5]
    refine AnyG.take 1 (v := ?vv2) rfl (by kernel_rfl) (by kernel_rfl) (by kernel_rfl) (by kernel_rfl) (fun _ _ _ h => h) hS ?hy2 (by rfl) ?rest2
    case hy2 =>
     intro w0 h0
     go_simp
     try with_reducible rfl
    simp only [Act.put, yq0, yq1, yq2, yq3, yq4, yq5]
    refine AnyG.take 2 (v := ?vv3) rfl (by kernel_rfl) (by kernel_rfl) (by kernel_rfl) (by kernel_rfl) (fun _ _ _ h => h) hS ?hy3 (by rfl) ?rest3
    case hy3 =>
     intro w0 h0
     have := h0.cell 2 rfl
     go_simp
     try with_reducible rfl
    simp only [Act.put, yq0, yq1, yq2, yq3, yq4, yq5]
    refine AnyG.take 3 (v := ?vv4) rfl (by kernel_rfl) (by kernel_rfl) (by kernel_rfl) (by kernel_rfl) (fun _ _ _ h => h) hS ?hy4 (by rfl) ?rest4
    case hy4 =>
     intro w0 h0
     go_simp
     try with_reducible rfl
    simp only [Act.put, yq0, yq1, yq2, yq3, yq4, yq5]
    refine AnyG.take 4 (v := ?vv5) rfl (by kernel_rfl) (by kernel_rfl) (by kernel_rfl) (by kernel_rfl) (fun _ _ _ h => h) hS ?hy5 (by rfl) ?rest5
    case hy5 =>
     intro w0 h0
     go_simp
     try with_reducible rfl
    simp only [Act.put, yq0, yq1, yq2, yq3, yq4, yq5]
    refine AnyG.take 5 (v := ?vv6) rfl (by kernel_rfl) (by kernel_rfl) (by kernel_rfl) (by kernel_rfl) (fun _ _ _ h => h) hS ?hy6 (by rfl) ?rest6
    case hy6 =>
     intro w0 h0
     go_simp
     try with_reducible rfl
    simp only [Act.put, yq0, yq1, yq2, yq3, yq4, yq5]
    refine AnyG.take 6 (v := ?vv7) rfl (by kernel_rfl) (by kernel_rfl) (by kernel_rfl) (by kernel_rfl) (fun _ _ _ h => h) hS ?hy7 (by rfl) ?rest7
    case hy7 =>
     intro w0 h0
     go_simp
     try with_reducible rfl
    simp only [Act.put, yq0, yq1, yq2, yq3, yq4, yq5]
    refine AnyG.take 7 (v := ?vv8) rfl (by kernel_rfl) (by kernel_rfl) (by kernel_rfl) (by kernel_rfl) (fun _ _ _ h => h) hS ?hy8 (by rfl) ?rest8
    case hy8 =>
     intro w0 h0
     go_simp
     try with_reducible rfl
    simp only [Act.put, yq0, yq1, yq2, yq3, yq4, yq5]
    refine AnyG.take 8 (v := ?vv9) rfl (by kernel_rfl) (by kernel_rfl) (by kernel_rfl) (by kernel_rfl) (fun _ _ _ h => h) hS ?hy9 (by rfl) ?rest9
    case hy9 =>
     intro w0 h0
     have := h0.cell 3 rfl
     go_simp
     try with_reducible rfl
    simp only [Act.put, yq0, yq1, yq2, yq3, yq4, yq5]
    refine AnyG.take 9 (v := ?vv10) rfl (by kernel_rfl) (by kernel_rfl) (by kernel_rfl) (by kernel_rfl) (fun _ _ _ h => h) hS ?hy10 (by rfl) ?rest10
    case hy10 =>
     intro w0 h0
     go_simp
     try with_reducible rfl
    simp only [Act.put, yq0, yq1, yq2, yq3, yq4, yq5]
    refine AnyG.take 10 (v := ?vv11) rfl (by kernel_rfl) (by kernel_rfl) (by kernel_rfl) (by kernel_rfl) (fun _ _ _ h => h) hS ?hy11 (by rfl) ?rest11
    case hy11 =>
     intro w0 h0
     go_simp
     try with_reducible rfl
    simp only [Act.put, yq0, yq1, yq2, yq3, yq4, yq5]
    refine AnyG.take 11 (v := ?vv12) rfl (by kernel_rfl) (by kernel_rfl) (by kernel_rfl) (by kernel_rfl) (fun _ _ _ h => h) hS ?hy12 (by rfl) ?rest12
    case hy12 =>
     intro w0 h0
     go_simp
     try with_reducible rfl
    simp only [Act.put, yq0, yq1, yq2, yq3, yq4, yq5]
    refine AnyG.take 12 (v := ?vv13) rfl (by kernel_rfl) (by kernel_rfl) (by kernel_rfl) (by kernel_rfl) (fun _ _ _ h => h) hS ?hy13 (by rfl) ?rest13
    case hy13 =>
     intro w0 h0
     go_simp
     try with_reducible rfl
    simp only [Act.put, yq0, yq1, yq2, yq3, yq4, yq5]
    refine AnyG.take 13 (v := ?vv14) rfl (by kernel_rfl) (by kernel_rfl) (by kernel_rfl) (by kernel_rfl) (fun _ _ _ h => h) hS ?hy14 (by rfl) ?rest14
    case hy14 =>
     intro w0 h0
     go_simp
     try with_reducible rfl
    simp only [Act.put, yq0, yq1, yq2, yq3, yq4, yq5]
    refine AnyG.take 14 (v := ?vv15) rfl (by kernel_rfl) (by kernel_rfl) (by kernel_rfl) (by kernel_rfl) (fun _ _ _ h => h) hS ?hy15 (by rfl) ?rest15
    case hy15 =>
     intro w0 h0
     go_simp
     try with_reducible rfl
    simp only [Act.put, yq0, yq1, yq2, yq3, yq4, yq5]
    refine AnyG.take 15 (v := ?vv16) rfl (by kernel_rfl) (by kernel_rfl) (by kernel_rfl) (by kernel_rfl) (fun _ _ _ h => h) hS ?hy16 (by rfl) ?rest16
    case hy16 =>
     intro w0 h0
     have := h0.cell 6 rfl
     go_simp
     try with_reducible rfl
    simp only [Act.put, yq0, yq1, yq2, yq3, yq4, yq5]
    refine AnyG.take 16 (v := ?vv17) rfl (by kernel_rfl) (by kernel_rfl) (by kernel_rfl) (by kernel_rfl) (fun _ _ _ h => h) hS ?hy17 (by rfl) ?rest17
    case hy17 =>
     intro w0 h0
     go_simp
     try with_reducible rfl
    simp only [Act.put, yq0, yq1, yq2, yq3, yq4, yq5]
    refine AnyG.take 17 (v := ?vv18) rfl (by kernel_rfl) (by kernel_rfl) (by kernel_rfl) (by kernel_rfl) (fun _ _ _ h => h) hS ?hy18 (by rfl) ?rest18
    case hy18 =>
     intro w0 h0
     have := h0.cell 0 rfl
     go_simp
     try with_reducible rfl
    simp only [Act.put, yq0, yq1, yq2, yq3, yq4, yq5]
    refine AnyG.take 18 (v := ?vv19) rfl (by kernel_rfl) (by kernel_rfl) (by kernel_rfl) (by kernel_rfl) (fun _ _ _ h => h) hS ?hy19 (by rfl) ?rest19
    case hy19 =>
     intro w0 h0
     go_simp
     try with_reducible rfl
    simp only [Act.put, yq0, yq1, yq2, yq3, yq4, yq5]
    refine AnyG.take 19 (v := ?vv20) rfl (by kernel_rfl) (by kernel_rfl) (by kernel_rfl) (by kernel_rfl) (fun _ _ _ h => h) hS ?hy20 (by rfl) ?rest20
    case hy20 =>
     intro w0 h0
     have := h0.cell 1 rfl
     go_simp
     try with_reducible rfl
    simp only [Act.put, yq0, yq1, yq2, yq3, yq4, yq5]
    refine AnyG.one 20 (by kernel_rfl) rfl ?_
    intro K hK
    go_simp
    refine (C4.out _).mono ?_
    rintro e w4 ⟨rfl, h4⟩
    rw [h4]
    clear h4
    refine hK.out _ _ (fun _ => hS) ?_
    clear hK K
    try simp only [Act.put, yq0, yq1, yq2, yq3, yq4, yq5]
    refine AnyG.take 21 (v := ?vv21) rfl (by kernel_rfl) (by kernel_rfl) (by kernel_rfl) (by kernel_rfl) (fun _ _ _ h => h) hS ?hy21 (by rfl) ?rest21
    case hy21 =>
     intro w0 h0
     go_simp
     try with_reducible rfl
    simp only [Act.put, yq0, yq1, yq2, yq3, yq4, yq5]
    refine AnyG.take 22 (v := ?vv22) rfl (by kernel_rfl) (by kernel_rfl) (by kernel_rfl) (by kernel_rfl) (fun _ _ _ h => h) hS ?hy22 (by rfl) ?rest22
    case hy22 =>
     intro w0 h0
     go_simp
     try with_reducible rfl
    simp only [Act.put, yq0, yq1, yq2, yq3, yq4, yq5]
    refine AnyG.take 23 (v := ?vv23) rfl (by kernel_rfl) (by kernel_rfl) (by kernel_rfl) (by kernel_rfl) (fun _ _ _ h => h) hS ?hy23 (by rfl) ?rest23
    case hy23 =>
     intro w0 h0
     go_simp
     try with_reducible rfl
    simp only [Act.put, yq0, yq1, yq2, yq3, yq4, yq5]
    refine AnyG.take 24 (v := ?vv24) rfl (by kernel_rfl) (by kernel_rfl) (by kernel_rfl) (by kernel_rfl) (fun _ _ _ h => h) hS ?hy24 (by rfl) ?rest24
    case hy24 =>
     intro w0 h0
     go_simp
     try with_reducible rfl
    simp only [Act.put, yq0, yq1, yq2, yq3, yq4, yq5]
    refine AnyG.take 25 (v := ?vv25) rfl (by kernel_rfl) (by kernel_rfl) (by kernel_rfl) (by kernel_rfl) (fun _ _ _ h => h) hS ?hy25 (by rfl) ?rest25
    case hy25 =>
     intro w0 h0
     have := h0.cell 6 rfl
     have := h0.cell 7 rfl
     go_simp
     try with_reducible rfl
    simp only [Act.put, yq0, yq1, yq2, yq3, yq4, yq5]
    refine AnyG.take 26 (v := ?vv26) rfl (by kernel_rfl) (by kernel_rfl) (by kernel_rfl) (by kernel_rfl) (fun _ _ _ h => h) hS ?hy26 (by rfl) ?rest26
    case hy26 =>
     intro w0 h0
     go_simp
     try with_reducible rfl
    simp only [Act.put, yq0, yq1, yq2, yq3, yq4, yq5]
    refine AnyG.take 27 (v := ?vv27) rfl (by kernel_rfl) (by kernel_rfl) (by kernel_rfl) (by kernel_rfl) (fun _ _ _ h => h) hS ?hy27 (by rfl) ?rest27
    case hy27 =>
     intro w0 h0
     go_simp
     try with_reducible rfl
    simp only [Act.put, yq0, yq1, yq2, yq3, yq4, yq5]
    refine AnyG.take 28 (v := ?vv28) rfl (by kernel_rfl) (by kernel_rfl) (by kernel_rfl) (by kernel_rfl) (fun _ _ _ h => h) hS ?hy28 (by rfl) ?rest28
    case hy28 =>
     intro w0 h0
     have := h0.cell 6 rfl
     go_simp
     try with_reducible rfl
    simp only [Act.put, yq0, yq1, yq2, yq3, yq4, yq5]
    refine AnyG.take 30 (v := ?vv29) rfl (by kernel_rfl) (by kernel_rfl) (by kernel_rfl) (by kernel_rfl) (fun _ _ _ h => h) hS ?hy29 (by rfl) ?rest29
    case hy29 =>
     intro w0 h0
     go_simp
     try with_reducible rfl
    simp only [Act.put, yq0, yq1, yq2, yq3, yq4, yq5]
    refine AnyG.take 31 (v := ?vv30) rfl (by kernel_rfl) (by kernel_rfl) (by kernel_rfl) (by kernel_rfl) (fun _ _ _ h => h) hS ?hy30 (by rfl) ?rest30
    case hy30 =>
     intro w0 h0
     have := h0.cell 1 rfl
     go_simp
     try with_reducible rfl
    simp only [Act.put, yq0, yq1, yq2, yq3, yq4, yq5]
    refine AnyG.one 29 (by kernel_rfl) rfl ?_
    intro K hK
    go_simp
    refine (C5.out _ bw2.drew).mono ?_
    rintro e w5 ⟨rfl, hb⟩
    have bw5 := bw2.drew.trans (hb.mono bw2.drew.size)
    have hS5 := hS.kept hb
    clear hb
    refine hK.out _ _ (fun _ => hS5) ?_
    clear hK K
    try simp only [Act.put, yq0, yq1, yq2, yq3, yq4, yq5]
    refine AnyG.take 32 (v := ?vv31) rfl (by kernel_rfl) (by kernel_rfl) (by kernel_rfl) (by kernel_rfl) (fun _ _ _ h => h) hS5 ?hy31 (by rfl) ?rest31
    case hy31 =>
     intro w0 h0
     go_simp
     try with_reducible rfl
    simp only [Act.put, yq0, yq1, yq2, yq3, yq4, yq5]
    refine AnyG.take 33 (v := ?vv32) rfl (by kernel_rfl) (by kernel_rfl) (by kernel_rfl) (by kernel_rfl) (fun _ _ _ h => h) hS5 ?hy32 (by rfl) ?rest32
    case hy32 =>
     intro w0 h0
     go_simp
     try with_reducible rfl
    simp only [Act.put, yq0, yq1, yq2, yq3, yq4, yq5]
    refine AnyG.take 34 (v := ?vv33) rfl (by kernel_rfl) (by kernel_rfl) (by kernel_rfl) (by kernel_rfl) (fun _ _ _ h => h) hS5 ?hy33 (by rfl) ?rest33
    case hy33 =>
     intro w0 h0
     go_simp
     try with_reducible rfl
    simp only [Act.put, yq0, yq1, yq2, yq3, yq4, yq5]
    refine AnyG.done (by kernel_rfl) ?_ _
    go_wp2
    go_ret
    rw [HE.out]
    exact ⟨rfl, bw5⟩
   ·have e3b : (H == (a3 : Int)) = false := by simp [e3]
    obtain rfl : B = false := Bool.eq_false_iff.2 fun h => by have := HB.out.1 h; omega
    clear e3 HB
    refine AnyG.take 0 (v := ?vv101) rfl (by kernel_rfl) (by kernel_rfl) (by kernel_rfl) (by kernel_rfl) (fun _ _ _ h => h) hS ?hy101 (by rfl) ?rest101
    case hy101 =>
     intro w0 h0
     go_simp
     try with_reducible rfl
    simp only [Act.put, yq0, yq1, yq2, yq3, yq4, yq5]
    refine AnyG.take 1 (v := ?vv102) rfl (by kernel_rfl) (by kernel_rfl) (by kernel_rfl) (by kernel_rfl) (fun _ _ _ h => h) hS ?hy102 (by rfl) ?rest102
    case hy102 =>
     intro w0 h0
     go_simp
     try with_reducible rfl
    simp only [Act.put, yq0, yq1, yq2, yq3, yq4, yq5]
    refine AnyG.take 2 (v := ?vv103) rfl (by kernel_rfl) (by kernel_rfl) (by kernel_rfl) (by kernel_rfl) (fun _ _ _ h => h) hS ?hy103 (by rfl) ?rest103
    case hy103 =>
     intro w0 h0
     have := h0.cell 2 rfl
     go_simp
     try with_reducible rfl
    simp only [Act.put, yq0, yq1, yq2, yq3, yq4, yq5]
    refine AnyG.take 3 (v := ?vv104) rfl (by kernel_rfl) (by kernel_rfl) (by kernel_rfl) (by kernel_rfl) (fun _ _ _ h => h) hS ?hy104 (by rfl) ?rest104
    case hy104 =>
     intro w0 h0
     go_simp
     try with_reducible rfl
    simp only [Act.put, yq0, yq1, yq2, yq3, yq4, yq5]
    refine AnyG.take 4 (v := ?vv105) rfl (by kernel_rfl) (by kernel_rfl) (by kernel_rfl) (by kernel_rfl) (fun _ _ _ h => h) hS ?hy105 (by rfl) ?rest105
    case hy105 =>
     intro w0 h0
     go_simp
     try with_reducible rfl
    simp only [Act.put, yq0, yq1, yq2, yq3, yq4, yq5]
    refine AnyG.take 5 (v := ?vv106) rfl (by kernel_rfl) (by kernel_rfl) (by kernel_rfl) (by kernel_rfl) (fun _ _ _ h => h) hS ?hy106 (by rfl) ?rest106
    case hy106 =>
     intro w0 h0
     go_simp
     try with_reducible rfl
    simp only [Act.put, yq0, yq1, yq2, yq3, yq4, yq5]
    refine AnyG.take 6 (v := ?vv107) rfl (by kernel_rfl) (by kernel_rfl) (by kernel_rfl) (by kernel_rfl) (fun _ _ _ h => h) hS ?hy107 (by rfl) ?rest107
    case hy107 =>
     intro w0 h0
     go_simp
     try with_reducible rfl
    simp only [Act.put, yq0, yq1, yq2, yq3, yq4, yq5]
    refine AnyG.take 7 (v := ?vv108) rfl (by kernel_rfl) (by kernel_rfl) (by kernel_rfl) (by kernel_rfl) (fun _ _ _ h => h) hS ?hy108 (by rfl) ?rest108
    case hy108 =>
     intro w0 h0
     go_simp
     try with_reducible rfl
    simp only [Act.put, yq0, yq1, yq2, yq3, yq4, yq5]
    refine AnyG.take 8 (v := ?vv109) rfl (by kernel_rfl) (by kernel_rfl) (by kernel_rfl) (by kernel_rfl) (fun _ _ _ h => h) hS ?hy109 (by rfl) ?rest109
    case hy109 =>
     intro w0 h0
     have := h0.cell 3 rfl
     go_simp
     try with_reducible rfl
    simp only [Act.put, yq0, yq1, yq2, yq3, yq4, yq5]
    refine AnyG.take 9 (v := ?vv110) rfl (by kernel_rfl) (by kernel_rfl) (by kernel_rfl) (by kernel_rfl) (fun _ _ _ h => h) hS ?hy110 (by rfl) ?rest110
    case hy110 =>
     intro w0 h0
     go_simp
     try with_reducible rfl
    simp only [Act.put, yq0, yq1, yq2, yq3, yq4, yq5]
    refine AnyG.take 10 (v := ?vv111) rfl (by kernel_rfl) (by kernel_rfl) (by kernel_rfl) (by kernel_rfl) (fun _ _ _ h => h) hS ?hy111 (by rfl) ?rest111
    case hy111 =>
     intro w0 h0
     go_simp
     try with_reducible rfl
    simp only [Act.put, yq0, yq1, yq2, yq3, yq4, yq5]
    refine AnyG.take 11 (v := ?vv112) rfl (by kernel_rfl) (by kernel_rfl) (by kernel_rfl) (by kernel_rfl) (fun _ _ _ h => h) hS ?hy112 (by rfl) ?rest112
    case hy112 =>
     intro w0 h0
     go_simp
     try with_reducible rfl
    simp only [Act.put, yq0, yq1, yq2, yq3, yq4, yq5]
    refine AnyG.take 12 (v := ?vv113) rfl (by kernel_rfl) (by kernel_rfl) (by kernel_rfl) (by kernel_rfl) (fun _ _ _ h => h) hS ?hy113 (by rfl) ?rest113
    case hy113 =>
     intro w0 h0
     go_simp
     try with_reducible rfl
    simp only [Act.put, yq0, yq1, yq2, yq3, yq4, yq5]
    refine AnyG.take 13 (v := ?vv114) rfl (by kernel_rfl) (by kernel_rfl) (by kernel_rfl) (by kernel_rfl) (fun _ _ _ h => h) hS ?hy114 (by rfl) ?rest114
    case hy114 =>
     intro w0 h0
     go_simp
     try with_reducible rfl
    simp only [Act.put, yq0, yq1, yq2, yq3, yq4, yq5]
    refine AnyG.take 14 (v := ?vv115) rfl (by kernel_rfl) (by kernel_rfl) (by kernel_rfl) (by kernel_rfl) (fun _ _ _ h => h) hS ?hy115 (by rfl) ?rest115
    case hy115 =>
     intro w0 h0
     go_simp
     try with_reducible rfl
    simp only [Act.put, yq0, yq1, yq2, yq3, yq4, yq5]
    refine AnyG.take 15 (v := ?vv116) rfl (by kernel_rfl) (by kernel_rfl) (by kernel_rfl) (by kernel_rfl) (fun _ _ _ h => h) hS ?hy116 (by rfl) ?rest116
    case hy116 =>
     intro w0 h0
     have := h0.cell 6 rfl
     go_simp
     try with_reducible rfl
    simp only [Act.put, yq0, yq1, yq2, yq3, yq4, yq5]
    refine AnyG.take 16 (v := ?vv117) rfl (by kernel_rfl) (by kernel_rfl) (by kernel_rfl) (by kernel_rfl) (fun _ _ _ h => h) hS ?hy117 (by rfl) ?rest117
    case hy117 =>
     intro w0 h0
     go_simp
     try with_reducible rfl
    simp only [Act.put, yq0, yq1, yq2, yq3, yq4, yq5]
    refine AnyG.take 17 (v := ?vv118) rfl (by kernel_rfl) (by kernel_rfl) (by kernel_rfl) (by kernel_rfl) (fun _ _ _ h => h) hS ?hy118 (by rfl) ?rest118
    case hy118 =>
     intro w0 h0
     have := h0.cell 0 rfl
     go_simp
     try with_reducible rfl
    simp only [Act.put, yq0, yq1, yq2, yq3, yq4, yq5]
    refine AnyG.take 18 (v := ?vv119) rfl (by kernel_rfl) (by kernel_rfl) (by kernel_rfl) (by kernel_rfl) (fun _ _ _ h => h) hS ?hy119 (by rfl) ?rest119
    case hy119 =>
     intro w0 h0
     go_simp
     try with_reducible rfl
    simp only [Act.put, yq0, yq1, yq2, yq3, yq4, yq5]
    refine AnyG.take 19 (v := ?vv120) rfl (by kernel_rfl) (by kernel_rfl) (by kernel_rfl) (by kernel_rfl) (fun _ _ _ h => h) hS ?hy120 (by rfl) ?rest120
    case hy120 =>
     intro w0 h0
     have := h0.cell 1 rfl
     go_simp
     try with_reducible rfl
    simp only [Act.put, yq0, yq1, yq2, yq3, yq4, yq5]
    refine AnyG.one 20 (by kernel_rfl) rfl ?_
    intro K hK
    go_simp
    refine (C4.out _).mono ?_
    rintro e w4 ⟨rfl, h4⟩
    rw [h4]
    clear h4
    refine hK.out _ _ (fun _ => hS) ?_
    clear hK K
    try simp only [Act.put, yq0, yq1, yq2, yq3, yq4, yq5]
    refine AnyG.take 21 (v := ?vv121) rfl (by kernel_rfl) (by kernel_rfl) (by kernel_rfl) (by kernel_rfl) (fun _ _ _ h => h) hS ?hy121 (by rfl) ?rest121
    case hy121 =>
     intro w0 h0
     go_simp
     try with_reducible rfl
    simp only [Act.put, yq0, yq1, yq2, yq3, yq4, yq5]
    refine AnyG.take 22 (v := ?vv122) rfl (by kernel_rfl) (by kernel_rfl) (by kernel_rfl) (by kernel_rfl) (fun _ _ _ h => h) hS ?hy122 (by rfl) ?rest122
    case hy122 =>
     intro w0 h0
     go_simp
     try with_reducible rfl
    simp only [Act.put, yq0, yq1, yq2, yq3, yq4, yq5]
    refine AnyG.take 23 (v := ?vv123) rfl (by kernel_rfl) (by kernel_rfl) (by kernel_rfl) (by kernel_rfl) (fun _ _ _ h => h) hS ?hy123 (by rfl) ?rest123
    case hy123 =>
     intro w0 h0
     go_simp
     try with_reducible rfl
    simp only [Act.put, yq0, yq1, yq2, yq3, yq4, yq5]
    refine AnyG.skip 24 rfl (by kernel_rfl) (by kernel_rfl) (by kernel_rfl) (by kernel_rfl) (fun _ _ _ h => h) hS (by rfl) ?_
    simp only [Act.put, yq0, yq1, yq2, yq3, yq4, yq5]
    refine AnyG.skip 25 rfl (by kernel_rfl) (by kernel_rfl) (by kernel_rfl) (by kernel_rfl) (fun _ _ _ h => h) hS (by rfl) ?_
    simp only [Act.put, yq0, yq1, yq2, yq3, yq4, yq5]
    refine AnyG.skip 26 rfl (by kernel_rfl) (by kernel_rfl) (by kernel_rfl) (by kernel_rfl) (fun _ _ _ h => h) hS (by rfl) ?_
    simp only [Act.put, yq0, yq1, yq2, yq3, yq4, yq5]
    refine AnyG.skip 27 rfl (by kernel_rfl) (by kernel_rfl) (by kernel_rfl) (by kernel_rfl) (fun _ _ _ h => h) hS (by rfl) ?_
    simp only [Act.put, yq0, yq1, yq2, yq3, yq4, yq5]
    refine AnyG.skip 28 rfl (by kernel_rfl) (by kernel_rfl) (by kernel_rfl) (by kernel_rfl) (fun _ _ _ h => h) hS (by rfl) ?_
    simp only [Act.put, yq0, yq1, yq2, yq3, yq4, yq5]
    refine AnyG.skip 29 rfl (by kernel_rfl) (by kernel_rfl) (by kernel_rfl) (by kernel_rfl) (fun _ _ _ h => h) hS (by rfl) ?_
    simp only [Act.put, yq0, yq1, yq2, yq3, yq4, yq5]
    refine AnyG.skip 30 rfl (by kernel_rfl) (by kernel_rfl) (by kernel_rfl) (by kernel_rfl) (fun _ _ _ h => h) hS (by rfl) ?_
    simp only [Act.put, yq0, yq1, yq2, yq3, yq4, yq5]
    refine AnyG.skip 31 rfl (by kernel_rfl) (by kernel_rfl) (by kernel_rfl) (by kernel_rfl) (fun _ _ _ h => h) hS (by rfl) ?_
    simp only [Act.put, yq0, yq1, yq2, yq3, yq4, yq5]
    refine AnyG.skip 32 rfl (by kernel_rfl) (by kernel_rfl) (by kernel_rfl) (by kernel_rfl) (fun _ _ _ h => h) hS (by rfl) ?_
    simp only [Act.put, yq0, yq1, yq2, yq3, yq4, yq5]
    refine AnyG.take 33 (v := ?vv124) rfl (by kernel_rfl) (by kernel_rfl) (by kernel_rfl) (by kernel_rfl) (fun _ _ _ h => h) hS ?hy124 (by rfl) ?rest124
    case hy124 =>
     intro w0 h0
     go_simp
     try with_reducible rfl
    simp only [Act.put, yq0, yq1, yq2, yq3, yq4, yq5]
    refine AnyG.take 34 (v := ?vv125) rfl (by kernel_rfl) (by kernel_rfl) (by kernel_rfl) (by kernel_rfl) (fun _ _ _ h => h) hS ?hy125 (by rfl) ?rest125
    case hy125 =>
     intro w0 h0
     go_simp
     try with_reducible rfl
    simp only [Act.put, yq0, yq1, yq2, yq3, yq4, yq5]
    refine AnyG.done (by kernel_rfl) ?_ _
    go_wp2
    go_ret
    exact ⟨rfl, bw2.drew⟩
  ·have e2b : (V == (a2 : Int)) = false := by simp [e2]
   obtain rfl : B = false := Bool.eq_false_iff.2 fun h => by have := HB.out.1 h; omega
   clear e2 HB
   refine AnyG.take 0 (v := ?vv201) rfl (by kernel_rfl) (by kernel_rfl) (by kernel_rfl) (by kernel_rfl) (fun _ _ _ h => h) hS ?hy201 (by rfl) ?rest201
   case hy201 =>
    intro w0 h0
    go_simp
    try with_reducible rfl
   simp only [Act.put, yq0, yq1, yq2, yq3, yq4, yq5]
   refine AnyG.take 1 (v := ?vv202) rfl (by kernel_rfl) (by kernel_rfl) (by kernel_rfl) (by kernel_rfl) (fun _ _ _ h => h) hS ?hy202 (by rfl) ?rest202
   case hy202 =>
    intro w0 h0
    go_simp
    try with_reducible rfl
   simp only [Act.put, yq0, yq1, yq2, yq3, yq4, yq5]
   refine AnyG.take 2 (v := ?vv203) rfl (by kernel_rfl) (by kernel_rfl) (by kernel_rfl) (by kernel_rfl) (fun _ _ _ h => h) hS ?hy203 (by rfl) ?rest203
   case hy203 =>
    intro w0 h0
    have := h0.cell 2 rfl
    go_simp
    try with_reducible rfl
   simp only [Act.put, yq0, yq1, yq2, yq3, yq4, yq5]
   refine AnyG.take 3 (v := ?vv204) rfl (by kernel_rfl) (by kernel_rfl) (by kernel_rfl) (by kernel_rfl) (fun _ _ _ h => h) hS ?hy204 (by rfl) ?rest204
   case hy204 =>
    intro w0 h0
    go_simp
    try with_reducible rfl
   simp only [Act.put, yq0, yq1, yq2, yq3, yq4, yq5]
   refine AnyG.take 4 (v := ?vv205) rfl (by kernel_rfl) (by kernel_rfl) (by kernel_rfl) (by kernel_rfl) (fun _ _ _ h => h) hS ?hy205 (by rfl) ?rest205
   case hy205 =>
    intro w0 h0
    go_simp
    try with_reducible rfl
   simp only [Act.put, yq0, yq1, yq2, yq3, yq4, yq5]
   refine AnyG.take 5 (v := ?vv206) rfl (by kernel_rfl) (by kernel_rfl) (by kernel_rfl) (by kernel_rfl) (fun _ _ _ h => h) hS ?hy206 (by rfl) ?rest206
   case hy206 =>
    intro w0 h0
    go_simp
    try with_reducible rfl
   simp only [Act.put, yq0, yq1, yq2, yq3, yq4, yq5]
   refine AnyG.take 6 (v := ?vv207) rfl (by kernel_rfl) (by kernel_rfl) (by kernel_rfl) (by kernel_rfl) (fun _ _ _ h => h) hS ?hy207 (by rfl) ?rest207
   case hy207 =>
    intro w0 h0
    go_simp
    try with_reducible rfl
   simp only [Act.put, yq0, yq1, yq2, yq3, yq4, yq5]
   refine AnyG.take 7 (v := ?vv208) rfl (by kernel_rfl) (by kernel_rfl) (by kernel_rfl) (by kernel_rfl) (fun _ _ _ h => h) hS ?hy208 (by rfl) ?rest208
   case hy208 =>
    intro w0 h0
    go_simp
    try with_reducible rfl
   simp only [Act.put, yq0, yq1, yq2, yq3, yq4, yq5]
   refine AnyG.take 8 (v := ?vv209) rfl (by kernel_rfl) (by kernel_rfl) (by kernel_rfl) (by kernel_rfl) (fun _ _ _ h => h) hS ?hy209 (by rfl) ?rest209
   case hy209 =>
    intro w0 h0
    have := h0.cell 3 rfl
    go_simp
    try with_reducible rfl
   simp only [Act.put, yq0, yq1, yq2, yq3, yq4, yq5]
   refine AnyG.take 9 (v := ?vv210) rfl (by kernel_rfl) (by kernel_rfl) (by kernel_rfl) (by kernel_rfl) (fun _ _ _ h => h) hS ?hy210 (by rfl) ?rest210
   case hy210 =>
    intro w0 h0
    go_simp
    try with_reducible rfl
   simp only [Act.put, yq0, yq1, yq2, yq3, yq4, yq5]
   refine AnyG.take 10 (v := ?vv211) rfl (by kernel_rfl) (by kernel_rfl) (by kernel_rfl) (by kernel_rfl) (fun _ _ _ h => h) hS ?hy211 (by rfl) ?rest211
   case hy211 =>
    intro w0 h0
    go_simp
    try with_reducible rfl
   simp only [Act.put, yq0, yq1, yq2, yq3, yq4, yq5]
   refine AnyG.take 11 (v := ?vv212) rfl (by kernel_rfl) (by kernel_rfl) (by kernel_rfl) (by kernel_rfl) (fun _ _ _ h => h) hS ?hy212 (by rfl) ?rest212
   case hy212 =>
    intro w0 h0
    go_simp
    try with_reducible rfl
   simp only [Act.put, yq0, yq1, yq2, yq3, yq4, yq5]
   refine AnyG.take 12 (v := ?vv213) rfl (by kernel_rfl) (by kernel_rfl) (by kernel_rfl) (by kernel_rfl) (fun _ _ _ h => h) hS ?hy213 (by rfl) ?rest213
   case hy213 =>
    intro w0 h0
    go_simp
    try with_reducible rfl
   simp only [Act.put, yq0, yq1, yq2, yq3, yq4, yq5]
   refine AnyG.skip 13 rfl (by kernel_rfl) (by kernel_rfl) (by kernel_rfl) (by kernel_rfl) (fun _ _ _ h => h) hS (by rfl) ?_
   simp only [Act.put, yq0, yq1, yq2, yq3, yq4, yq5]
   refine AnyG.skip 14 rfl (by kernel_rfl) (by kernel_rfl) (by kernel_rfl) (by kernel_rfl) (fun _ _ _ h => h) hS (by rfl) ?_
   simp only [Act.put, yq0, yq1, yq2, yq3, yq4, yq5]
   refine AnyG.skip 15 rfl (by kernel_rfl) (by kernel_rfl) (by kernel_rfl) (by kernel_rfl) (fun _ _ _ h => h) hS (by rfl) ?_
   simp only [Act.put, yq0, yq1, yq2, yq3, yq4, yq5]
   refine AnyG.skip 16 rfl (by kernel_rfl) (by kernel_rfl) (by kernel_rfl) (by kernel_rfl) (fun _ _ _ h => h) hS (by rfl) ?_
   simp only [Act.put, yq0, yq1, yq2, yq3, yq4, yq5]
   refine AnyG.skip 17 rfl (by kernel_rfl) (by kernel_rfl) (by kernel_rfl) (by kernel_rfl) (fun _ _ _ h => h) hS (by rfl) ?_
   simp only [Act.put, yq0, yq1, yq2, yq3, yq4, yq5]
   refine AnyG.skip 18 rfl (by kernel_rfl) (by kernel_rfl) (by kernel_rfl) (by kernel_rfl) (fun _ _ _ h => h) hS (by rfl) ?_
   simp only [Act.put, yq0, yq1, yq2, yq3, yq4, yq5]
   refine AnyG.skip 19 rfl (by kernel_rfl) (by kernel_rfl) (by kernel_rfl) (by kernel_rfl) (fun _ _ _ h => h) hS (by rfl) ?_
   simp only [Act.put, yq0, yq1, yq2, yq3, yq4, yq5]
   refine AnyG.skip 20 rfl (by kernel_rfl) (by kernel_rfl) (by kernel_rfl) (by kernel_rfl) (fun _ _ _ h => h) hS (by rfl) ?_
   simp only [Act.put, yq0, yq1, yq2, yq3, yq4, yq5]
   refine AnyG.skip 21 rfl (by kernel_rfl) (by kernel_rfl) (by kernel_rfl) (by kernel_rfl) (fun _ _ _ h => h) hS (by rfl) ?_
   simp only [Act.put, yq0, yq1, yq2, yq3, yq4, yq5]
   refine AnyG.take 22 (v := ?vv214) rfl (by kernel_rfl) (by kernel_rfl) (by kernel_rfl) (by kernel_rfl) (fun _ _ _ h => h) hS ?hy214 (by rfl) ?rest214
   case hy214 =>
    intro w0 h0
    go_simp
    try with_reducible rfl
   simp only [Act.put, yq0, yq1, yq2, yq3, yq4, yq5]
   refine AnyG.take 23 (v := ?vv215) rfl (by kernel_rfl) (by kernel_rfl) (by kernel_rfl) (by kernel_rfl) (fun _ _ _ h => h) hS ?hy215 (by rfl) ?rest215
   case hy215 =>
    intro w0 h0
    go_simp
    try with_reducible rfl
   simp only [Act.put, yq0, yq1, yq2, yq3, yq4, yq5]
   refine AnyG.skip 24 rfl (by kernel_rfl) (by kernel_rfl) (by kernel_rfl) (by kernel_rfl) (fun _ _ _ h => h) hS (by rfl) ?_
   simp only [Act.put, yq0, yq1, yq2, yq3, yq4, yq5]
   refine AnyG.skip 25 rfl (by kernel_rfl) (by kernel_rfl) (by kernel_rfl) (by kernel_rfl) (fun _ _ _ h => h) hS (by rfl) ?_
   simp only [Act.put, yq0, yq1, yq2, yq3, yq4, yq5]
   refine AnyG.skip 26 rfl (by kernel_rfl) (by kernel_rfl) (by kernel_rfl) (by kernel_rfl) (fun _ _ _ h => h) hS (by rfl) ?_
   simp only [Act.put, yq0, yq1, yq2, yq3, yq4, yq5]
   refine AnyG.skip 27 rfl (by kernel_rfl) (by kernel_rfl) (by kernel_rfl) (by kernel_rfl) (fun _ _ _ h => h) hS (by rfl) ?_
   simp only [Act.put, yq0, yq1, yq2, yq3, yq4, yq5]
   refine AnyG.skip 28 rfl (by kernel_rfl) (by kernel_rfl) (by kernel_rfl) (by kernel_rfl) (fun _ _ _ h => h) hS (by rfl) ?_
   simp only [Act.put, yq0, yq1, yq2, yq3, yq4, yq5]
   refine AnyG.skip 29 rfl (by kernel_rfl) (by kernel_rfl) (by kernel_rfl) (by kernel_rfl) (fun _ _ _ h => h) hS (by rfl) ?_
   simp only [Act.put, yq0, yq1, yq2, yq3, yq4, yq5]
   refine AnyG.skip 30 rfl (by kernel_rfl) (by kernel_rfl) (by kernel_rfl) (by kernel_rfl) (fun _ _ _ h => h) hS (by rfl) ?_
   simp only [Act.put, yq0, yq1, yq2, yq3, yq4, yq5]
   refine AnyG.skip 31 rfl (by kernel_rfl) (by kernel_rfl) (by kernel_rfl) (by kernel_rfl) (fun _ _ _ h => h) hS (by rfl) ?_
   simp only [Act.put, yq0, yq1, yq2, yq3, yq4, yq5]
   refine AnyG.skip 32 rfl (by kernel_rfl) (by kernel_rfl) (by kernel_rfl) (by kernel_rfl) (fun _ _ _ h => h) hS (by rfl) ?_
   simp only [Act.put, yq0, yq1, yq2, yq3, yq4, yq5]
   refine AnyG.take 33 (v := ?vv216) rfl (by kernel_rfl) (by kernel_rfl) (by kernel_rfl) (by kernel_rfl) (fun _ _ _ h => h) hS ?hy216 (by rfl) ?rest216
   case hy216 =>
    intro w0 h0
    go_simp
    try with_reducible rfl
   simp only [Act.put, yq0, yq1, yq2, yq3, yq4, yq5]
   refine AnyG.take 34 (v := ?vv217) rfl (by kernel_rfl) (by kernel_rfl) (by kernel_rfl) (by kernel_rfl) (fun _ _ _ h => h) hS ?hy217 (by rfl) ?rest217
   case hy217 =>
    intro w0 h0
    go_simp
    try with_reducible rfl
   simp only [Act.put, yq0, yq1, yq2, yq3, yq4, yq5]
   refine AnyG.done (by kernel_rfl) ?_ _
   go_wp2
   go_ret
   exact ⟨rfl, bw2.drew⟩
 ·have e1b : (k == (a1 : Int)) = false := by simp [e1]
  obtain rfl : B = false := Bool.eq_false_iff.2 fun h => by have := HB.out.1 h; omega
  clear e1 HB
  refine AnyG.take 0 (v := ?vv301) rfl (by kernel_rfl) (by kernel_rfl) (by kernel_rfl) (by kernel_rfl) (fun _ _ _ h => h) hS ?hy301 (by rfl) ?rest301
  case hy301 =>
   intro w0 h0
   go_simp
   try with_reducible rfl
  simp only [Act.put, yq0, yq1, yq2, yq3, yq4, yq5]
  refine AnyG.take 1 (v := ?vv302) rfl (by kernel_rfl) (by kernel_rfl) (by kernel_rfl) (by kernel_rfl) (fun _ _ _ h => h) hS ?hy302 (by rfl) ?rest302
  case hy302 =>
   intro w0 h0
   go_simp
   try with_reducible rfl
  simp only [Act.put, yq0, yq1, yq2, yq3, yq4, yq5]
  refine AnyG.take 2 (v := ?vv303) rfl (by kernel_rfl) (by kernel_rfl) (by kernel_rfl) (by kernel_rfl) (fun _ _ _ h => h) hS ?hy303 (by rfl) ?rest303
  case hy303 =>
   intro w0 h0
   have := h0.cell 2 rfl
   go_simp
   try with_reducible rfl
  simp only [Act.put, yq0, yq1, yq2, yq3, yq4, yq5]
  refine AnyG.take 3 (v := ?vv304) rfl (by kernel_rfl) (by kernel_rfl) (by kernel_rfl) (by kernel_rfl) (fun _ _ _ h => h) hS ?hy304 (by rfl) ?rest304
  case hy304 =>
   intro w0 h0
   go_simp
   try with_reducible rfl
  simp only [Act.put, yq0, yq1, yq2, yq3, yq4, yq5]
  refine AnyG.take 4 (v := ?vv305) rfl (by kernel_rfl) (by kernel_rfl) (by kernel_rfl) (by kernel_rfl) (fun _ _ _ h => h) hS ?hy305 (by rfl) ?rest305
  case hy305 =>
   intro w0 h0
   go_simp
   try with_reducible rfl
  simp only [Act.put, yq0, yq1, yq2, yq3, yq4, yq5]
  refine AnyG.take 5 (v := ?vv306) rfl (by kernel_rfl) (by kernel_rfl) (by kernel_rfl) (by kernel_rfl) (fun _ _ _ h => h) hS ?hy306 (by rfl) ?rest306
  case hy306 =>
   intro w0 h0
   go_simp
   try with_reducible rfl
  simp only [Act.put, yq0, yq1, yq2, yq3, yq4, yq5]
  refine AnyG.skip 6 rfl (by kernel_rfl) (by kernel_rfl) (by kernel_rfl) (by kernel_rfl) (fun _ _ _ h => h) hS (by rfl) ?_
  simp only [Act.put, yq0, yq1, yq2, yq3, yq4, yq5]
  refine AnyG.skip 7 rfl (by kernel_rfl) (by kernel_rfl) (by kernel_rfl) (by kernel_rfl) (fun _ _ _ h => h) hS (by rfl) ?_
  simp only [Act.put, yq0, yq1, yq2, yq3, yq4, yq5]
  refine AnyG.skip 8 rfl (by kernel_rfl) (by kernel_rfl) (by kernel_rfl) (by kernel_rfl) (fun _ _ _ h => h) hS (by rfl) ?_
  simp only [Act.put, yq0, yq1, yq2, yq3, yq4, yq5]
  refine AnyG.skip 9 rfl (by kernel_rfl) (by kernel_rfl) (by kernel_rfl) (by kernel_rfl) (fun _ _ _ h => h) hS (by rfl) ?_
  simp only [Act.put, yq0, yq1, yq2, yq3, yq4, yq5]
  refine AnyG.skip 10 rfl (by kernel_rfl) (by kernel_rfl) (by kernel_rfl) (by kernel_rfl) (fun _ _ _ h => h) hS (by rfl) ?_
  simp only [Act.put, yq0, yq1, yq2, yq3, yq4, yq5]
  refine AnyG.take 11 (v := ?vv307) rfl (by kernel_rfl) (by kernel_rfl) (by kernel_rfl) (by kernel_rfl) (fun _ _ _ h => h) hS ?hy307 (by rfl) ?rest307
  case hy307 =>
   intro w0 h0
   go_simp
   try with_reducible rfl
  simp only [Act.put, yq0, yq1, yq2, yq3, yq4, yq5]
  refine AnyG.take 12 (v := ?vv308) rfl (by kernel_rfl) (by kernel_rfl) (by kernel_rfl) (by kernel_rfl) (fun _ _ _ h => h) hS ?hy308 (by rfl) ?rest308
  case hy308 =>
   intro w0 h0
   go_simp
   try with_reducible rfl
  simp only [Act.put, yq0, yq1, yq2, yq3, yq4, yq5]
  refine AnyG.skip 13 rfl (by kernel_rfl) (by kernel_rfl) (by kernel_rfl) (by kernel_rfl) (fun _ _ _ h => h) hS (by rfl) ?_
  simp only [Act.put, yq0, yq1, yq2, yq3, yq4, yq5]
  refine AnyG.skip 14 rfl (by kernel_rfl) (by kernel_rfl) (by kernel_rfl) (by kernel_rfl) (fun _ _ _ h => h) hS (by rfl) ?_
  simp only [Act.put, yq0, yq1, yq2, yq3, yq4, yq5]
  refine AnyG.skip 15 rfl (by kernel_rfl) (by kernel_rfl) (by kernel_rfl) (by kernel_rfl) (fun _ _ _ h => h) hS (by rfl) ?_
  simp only [Act.put, yq0, yq1, yq2, yq3, yq4, yq5]
  refine AnyG.skip 16 rfl (by kernel_rfl) (by kernel_rfl) (by kernel_rfl) (by kernel_rfl) (fun _ _ _ h => h) hS (by rfl) ?_
  simp only [Act.put, yq0, yq1, yq2, yq3, yq4, yq5]
  refine AnyG.skip 17 rfl (by kernel_rfl) (by kernel_rfl) (by kernel_rfl) (by kernel_rfl) (fun _ _ _ h => h) hS (by rfl) ?_
  simp only [Act.put, yq0, yq1, yq2, yq3, yq4, yq5]
  refine AnyG.skip 18 rfl (by kernel_rfl) (by kernel_rfl) (by kernel_rfl) (by kernel_rfl) (fun _ _ _ h => h) hS (by rfl) ?_
  simp only [Act.put, yq0, yq1, yq2, yq3, yq4, yq5]
  refine AnyG.skip 19 rfl (by kernel_rfl) (by kernel_rfl) (by kernel_rfl) (by kernel_rfl) (fun _ _ _ h => h) hS (by rfl) ?_
  simp only [Act.put, yq0, yq1, yq2, yq3, yq4, yq5]
  refine AnyG.skip 20 rfl (by kernel_rfl) (by kernel_rfl) (by kernel_rfl) (by kernel_rfl) (fun _ _ _ h => h) hS (by rfl) ?_
  simp only [Act.put, yq0, yq1, yq2, yq3, yq4, yq5]
  refine AnyG.skip 21 rfl (by kernel_rfl) (by kernel_rfl) (by kernel_rfl) (by kernel_rfl) (fun _ _ _ h => h) hS (by rfl) ?_
  simp only [Act.put, yq0, yq1, yq2, yq3, yq4, yq5]
  refine AnyG.take 22 (v := ?vv309) rfl (by kernel_rfl) (by kernel_rfl) (by kernel_rfl) (by kernel_rfl) (fun _ _ _ h => h) hS ?hy309 (by rfl) ?rest309
  case hy309 =>
   intro w0 h0
   go_simp
   try with_reducible rfl
  simp only [Act.put, yq0, yq1, yq2, yq3, yq4, yq5]
  refine AnyG.take 23 (v := ?vv310) rfl (by kernel_rfl) (by kernel_rfl) (by kernel_rfl) (by kernel_rfl) (fun _ _ _ h => h) hS ?hy310 (by rfl) ?rest310
  case hy310 =>
   intro w0 h0
   go_simp
   try with_reducible rfl
  simp only [Act.put, yq0, yq1, yq2, yq3, yq4, yq5]
  refine AnyG.skip 24 rfl (by kernel_rfl) (by kernel_rfl) (by kernel_rfl) (by kernel_rfl) (fun _ _ _ h => h) hS (by rfl) ?_
  simp only [Act.put, yq0, yq1, yq2, yq3, yq4, yq5]
  refine AnyG.skip 25 rfl (by kernel_rfl) (by kernel_rfl) (by kernel_rfl) (by kernel_rfl) (fun _ _ _ h => h) hS (by rfl) ?_
  simp only [Act.put, yq0, yq1, yq2, yq3, yq4, yq5]
  refine AnyG.skip 26 rfl (by kernel_rfl) (by kernel_rfl) (by kernel_rfl) (by kernel_rfl) (fun _ _ _ h => h) hS (by rfl) ?_
  simp only [Act.put, yq0, yq1, yq2, yq3, yq4, yq5]
  refine AnyG.skip 27 rfl (by kernel_rfl) (by kernel_rfl) (by kernel_rfl) (by kernel_rfl) (fun _ _ _ h => h) hS (by rfl) ?_
  simp only [Act.put, yq0, yq1, yq2, yq3, yq4, yq5]
  refine AnyG.skip 28 rfl (by kernel_rfl) (by kernel_rfl) (by kernel_rfl) (by kernel_rfl) (fun _ _ _ h => h) hS (by rfl) ?_
  simp only [Act.put, yq0, yq1, yq2, yq3, yq4, yq5]
  refine AnyG.skip 29 rfl (by kernel_rfl) (by kernel_rfl) (by kernel_rfl) (by kernel_rfl) (fun _ _ _ h => h) hS (by rfl) ?_
  simp only [Act.put, yq0, yq1, yq2, yq3, yq4, yq5]
  refine AnyG.skip 30 rfl (by kernel_rfl) (by kernel_rfl) (by kernel_rfl) (by kernel_rfl) (fun _ _ _ h => h) hS (by rfl) ?_
  simp only [Act.put, yq0, yq1, yq2, yq3, yq4, yq5]
  refine AnyG.skip 31 rfl (by kernel_rfl) (by kernel_rfl) (by kernel_rfl) (by kernel_rfl) (fun _ _ _ h => h) hS (by rfl) ?_
  simp only [Act.put, yq0, yq1, yq2, yq3, yq4, yq5]
  refine AnyG.skip 32 rfl (by kernel_rfl) (by kernel_rfl) (by kernel_rfl) (by kernel_rfl) (fun _ _ _ h => h) hS (by rfl) ?_
  simp only [Act.put, yq0, yq1, yq2, yq3, yq4, yq5]
  refine AnyG.take 33 (v := ?vv311) rfl (by kernel_rfl) (by kernel_rfl) (by kernel_rfl) (by kernel_rfl) (fun _ _ _ h => h) hS ?hy311 (by rfl) ?rest311
  case hy311 =>
   intro w0 h0
   go_simp
   try with_reducible rfl
  simp only [Act.put, yq0, yq1, yq2, yq3, yq4, yq5]
  refine AnyG.take 34 (v := ?vv312) rfl (by kernel_rfl) (by kernel_rfl) (by kernel_rfl) (by kernel_rfl) (fun _ _ _ h => h) hS ?hy312 (by rfl) ?rest312
  case hy312 =>
   intro w0 h0
   go_simp
   try with_reducible rfl
  simp only [Act.put, yq0, yq1, yq2, yq3, yq4, yq5]
  refine AnyG.done (by kernel_rfl) ?_ _
  go_wp2
  go_ret
  exact ⟨rfl, bw2.drew⟩
end Go.Proofs.YtpeecabfcgijhaaGreatDoor
