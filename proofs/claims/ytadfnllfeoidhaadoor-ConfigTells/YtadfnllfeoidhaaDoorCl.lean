/-
  The contract of layer 20's heads.
-/
import Derived.Test.YtadfnllfeoidhaaDoorCk
namespace Go.Proofs.YtadfnllfeoidhaaDoor
open Go.RowKit
set_option linter.unusedVariables false
set_option linter.unusedSimpArgs false
set_option maxRecDepth 100000

namespace Co
def hn : List Nat := [98, 111, 111, 115, 116, 45, 115, 104, 97, 112, 101, 100, 45, 56, 47, 114, 114, 114, 47, 49, 54]
def bn : List Nat := [116, 114, 101, 101, 47, 112, 108, 97, 105, 110, 47, 51]
theorem h_mem : ((4, 2, 8, 2, 16) : Cf) ∈ all := mem_all (by decide)
theorem h_nm : nm (4, 2, 8, 2, 16) = hn := by decide
theorem h_fnd : fnd (str hn) = some (4, 2, 8, 2, 16) := by rw [← h_nm]; exact fnd_nm h_mem
theorem h_no : (all.all fun c => !(nm c == bn)) = true := by decide +kernel
theorem b_fnd : fnd (str bn) = none := by
  refine fnd_none fun j d hd => ?_
  have hm := List.mem_of_getElem? hd
  unfold str
  rw [eq_str _ _ (nm_bytes hm) (by unfold Bytes bn; decide)]
  refine decide_eq_false fun e => ?_
  have := List.all_eq_true.1 h_no d hm
  rw [e] at this
  cases this
end Co
set_option maxHeartbeats 8000000 in
theorem heads20_c (w : World) : Calls Tryd.prog 8 #[] w fun e w' => e = .returned (.bool true) ∧ Below w.heap.size w w' := by
  have P1 : Hid (∀ w0, Calls Tryd.prog 12 #[.string { data := #[98, 111, 111, 115, 116, 45, 115, 104, 97, 112, 101, 100, 45, 56, 47, 114, 114, 114, 47, 49, 54] }] w0 fun e w' => e = .returned (.tuple #[.agg #[.int .i64 4, .int .i64 2, .int .i64 8, .int .i64 2, .int .i64 16], .bool true]) ∧ Below w0.heap.size w0 w') := fun w0 => by
    have := kparse_c (Co.str Co.hn) (by rw [Co.str_size]; decide) w0
    unfold Co.prZ at this
    rw [Co.h_fnd] at this
    exact this
  have P2 : Hid (∀ w0, Calls Tryd.prog 12 #[.string { data := #[116, 114, 101, 101, 47, 112, 108, 97, 105, 110, 47, 51] }] w0 fun e w' => e = .returned (.tuple #[.agg #[.int .i64 0, .int .i64 0, .int .i64 0, .int .i64 0, .int .i64 0], .bool false]) ∧ Below w0.heap.size w0 w') := fun w0 => by
    have := kparse_c (Co.str Co.bn) (by rw [Co.str_size]; decide) w0
    unfold Co.prZ at this
    rw [Co.b_fnd] at this
    exact this
  have K1 : Hid (∀ w0, Calls Tryd.prog 7 #[.agg #[.int .i64 4, .int .i64 2, .int .i64 8, .int .i64 2, .int .i64 16]] w0 fun e w' => e = .returned (.bool true) ∧ Below w0.heap.size w0 w') := fun w0 => by
    have := kcheck_c 4 2 8 2 16 w0
    rwa [show Co.okZ (4, 2, 8, 2, 16) = true by decide] at this
  have K2 : Hid (∀ w0, Calls Tryd.prog 7 #[.agg #[.int .i64 0, .int .i64 0, .int .i64 0, .int .i64 0, .int .i64 0]] w0 fun e w' => e = .returned (.bool false) ∧ Below w0.heap.size w0 w') := fun w0 => by
    have := kcheck_c 0 0 0 0 0 w0
    rwa [show Co.okZ (0, 0, 0, 0, 0) = false by decide] at this
  have N1 : Hid (∀ w0, Calls Tryd.prog 10 #[.agg #[.int .i64 4, .int .i64 2, .int .i64 8, .int .i64 2, .int .i64 16]] w0 fun e w' => e = .returned (.string { data := #[98, 111, 111, 115, 116, 45, 115, 104, 97, 112, 101, 100, 45, 56, 47, 114, 114, 114, 47, 49, 54] }) ∧ Below w0.heap.size w0 w') := fun w0 => by
    have := kname_c 4 2 8 2 16 w0
    rw [show Co.nmZ (4, 2, 8, 2, 16) = Co.hn by decide] at this
    exact this
  have KA := hide kall_c
  have EQ : ∀ w, (binOp .eql 23 (.agg #[.int .i64 4, .int .i64 2, .int .i64 8, .int .i64 2, .int .i64 16]) (.agg #[.int .i64 4, .int .i64 2, .int .i64 8, .int .i64 2, .int .i64 16])).run Tryd.prog w = .ok (.bool true) w := fun w => by
    have := eq_cfg w (4, 2, 8, 2, 16) (4, 2, 8, 2, 16)
    rw [decide_eq_true (rfl : ((4, 2, 8, 2, 16) : Co.Zf) = _)] at this
    exact this
  have GC := guard_cfg
  obtain ⟨W, hW⟩ : ∃ W, W = w.alloc (.cells #[.int .i64 4, .int .i64 2, .int .i64 8, .int .i64 2, .int .i64 16] 23) := ⟨_, rfl⟩
  have HB0 : Hid (Below w.heap.size w W) := by rw [hW]; exact below_alloc w _
  have HC : Hid (Cel W w.heap.size [.int .i64 4, .int .i64 2, .int .i64 8, .int .i64 2, .int .i64 16] 23) := by rw [hW]; exact Cel.new w _ _
  have HW := hide hW
  clear hW
  obtain ⟨gc, hgc⟩ : ∃ gc, Hid (gc = w.heap.size) := ⟨_, rfl⟩
  rw [← hgc.out] at HC
  go_enter Tryd.func8, Tryd.ntmps8
  go_wp2_with fail
  rw [← HW.out, ← hgc.out]
  refine (P1.out _).mono ?_
  rintro e w1 ⟨rfl, hb⟩
  have HC1 := hide (HC.out.kept hb)
  have HB1 := hide (HB0.out.trans (hb.mono HB0.out.size))
  have HD : Hid (Cel (w1.alloc (.cells #[.int .i64 4, .int .i64 2, .int .i64 8, .int .i64 2, .int .i64 16] 23)) w1.heap.size [.int .i64 4, .int .i64 2, .int .i64 8, .int .i64 2, .int .i64 16] 23) := Cel.new w1 _ _
  have HC2 := hide (HC1.out.alloc (.cells #[.int .i64 4, .int .i64 2, .int .i64 8, .int .i64 2, .int .i64 16] 23))
  have HB2 := hide (HB1.out.alloc HB1.out.size (.cells #[.int .i64 4, .int .i64 2, .int .i64 8, .int .i64 2, .int .i64 16] 23))
  clear hb HC HB0 HC1 HB1
  go_wp2_with fail
  generalize w1.alloc (.cells #[.int .i64 4, .int .i64 2, .int .i64 8, .int .i64 2, .int .i64 16] 23) = W1 at *
  generalize w1.heap.size = gd at *
  refine (P2.out _).mono ?_
  rintro e w2 ⟨rfl, hb⟩
  have A1 := hide ((HC2.out.kept hb).alloc (.cells #[.int .i64 0, .int .i64 0, .int .i64 0, .int .i64 0, .int .i64 0] 23))
  have A2 := hide ((HD.out.kept hb).alloc (.cells #[.int .i64 0, .int .i64 0, .int .i64 0, .int .i64 0, .int .i64 0] 23))
  have A3 := hide ((HB2.out.trans (hb.mono HB2.out.size)).alloc (HB2.out.trans (hb.mono HB2.out.size)).size (.cells #[.int .i64 0, .int .i64 0, .int .i64 0, .int .i64 0, .int .i64 0] 23))
  clear hb HC2 HD HB2
  have q0 := A1.out.cell 0 rfl
  have q1 := A1.out.cell 1 rfl
  have q2 := A1.out.cell 2 rfl
  have q3 := A1.out.cell 3 rfl
  have q4 := A1.out.cell 4 rfl
  go_wp2_with fail
  generalize w2.alloc (.cells #[.int .i64 0, .int .i64 0, .int .i64 0, .int .i64 0, .int .i64 0] 23) = W2 at *
  generalize w2.heap.size = ge at *
  refine (K1.out _).mono ?_
  rintro e w3 ⟨rfl, hb⟩
  have B1 := hide (A1.out.kept hb)
  have B2 := hide (A2.out.kept hb)
  have B3 := hide (A3.out.trans (hb.mono A3.out.size))
  clear hb A1 A2 A3 q0 q1 q2 q3 q4
  have q0 := B1.out.cell 0 rfl
  have q1 := B1.out.cell 1 rfl
  have q2 := B1.out.cell 2 rfl
  have q3 := B1.out.cell 3 rfl
  have q4 := B1.out.cell 4 rfl
  go_wp2_with fail
  refine (N1.out _).mono ?_
  rintro e w4 ⟨rfl, hb⟩
  have A1 := hide (B1.out.kept hb)
  have A2 := hide (B2.out.kept hb)
  have A3 := hide (B3.out.trans (hb.mono B3.out.size))
  clear hb B1 B2 B3 q0 q1 q2 q3 q4
  have q0 := A1.out.cell 0 rfl
  have q1 := A1.out.cell 1 rfl
  have q2 := A1.out.cell 2 rfl
  have q3 := A1.out.cell 3 rfl
  have q4 := A1.out.cell 4 rfl
  have r0 := A2.out.cell 0 rfl
  have r1 := A2.out.cell 1 rfl
  have r2 := A2.out.cell 2 rfl
  have r3 := A2.out.cell 3 rfl
  have r4 := A2.out.cell 4 rfl
  go_wp2_with fail
  refine (KA.out _).mono ?_
  rintro e w5 ⟨g, cap, rfl, hA, hcap, hg, hb⟩
  have B3 := hide (A3.out.trans (hb.mono A3.out.size))
  clear hb hA hg A1 A2 A3 q0 q1 q2 q3 q4 r0 r1 r2 r3 r4
  go_wp2_with fail
  refine (K2.out _).mono ?_
  rintro e w6 ⟨rfl, hb⟩
  have A3 := hide (B3.out.trans (hb.mono B3.out.size))
  clear hb
  go_wp2
  go_ret
  exact ⟨rfl, A3.out⟩
end Go.Proofs.YtadfnllfeoidhaaDoor
