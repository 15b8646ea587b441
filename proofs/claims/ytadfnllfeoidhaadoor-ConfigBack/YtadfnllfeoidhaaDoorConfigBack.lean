/-
  ConfigBack: what is called by a name is it.
-/
import Derived.Test.YtadfnllfeoidhaaDoorCm
import Derived.Test.YtadfnllfeoidhaaDoorCards
import Derived.Test.YtadfnllfeoidhaaDoorTie
import Derived.ChangeOld
import Derived.LaidMore
import Derived.SevenTiedAt
import Derived.Deep.DeepCutAuto
namespace Go.Proofs.YtadfnllfeoidhaaDoor.configBack
open Go.ChangeShapes Go.WideShapes Go.ChangeAt Go.RowKit Go.ChangeMaps
set_option linter.unusedVariables false
set_option linter.unusedSimpArgs false
set_option maxRecDepth 100000


set_option maxHeartbeats 8000000 in
theorem walk (w : World) (z1 z2 z3 z4 z5 : Int) (s : ByteArray) (hs_ : s.size ≤ maxLen) :
    Calls Tryd.prog 6 #[.agg #[.int .i64 z1, .int .i64 z2, .int .i64 z3, .int .i64 z4, .int .i64 z5], .string s] w fun e w' => e = .returned (.bool true) ∧ Below w.heap.size w w' := by
  have HH := hide heads20_c
  have GC := guard_cfg
  have NE : ∀ w, (binOp .neq 23 (.agg #[.int .i64 z1, .int .i64 z2, .int .i64 z3, .int .i64 z4, .int .i64 z5]) (.agg #[.int .i64 z1, .int .i64 z2, .int .i64 z3, .int .i64 z4, .int .i64 z5])).run Tryd.prog w = .ok (.bool false) w := fun w => by
    have := neq_cfg w (z1, z2, z3, z4, z5) (z1, z2, z3, z4, z5)
    rw [decide_eq_true rfl] at this
    exact this
  obtain ⟨W, hW⟩ : ∃ W, W = w.alloc (.cells #[.int .i64 z1, .int .i64 z2, .int .i64 z3, .int .i64 z4, .int .i64 z5] 23) := ⟨_, rfl⟩
  have B0 : Hid (Below w.heap.size w W) := by rw [hW]; exact below_alloc w _
  have A0 : Hid (Cel W w.heap.size [.int .i64 z1, .int .i64 z2, .int .i64 z3, .int .i64 z4, .int .i64 z5] 23) := by rw [hW]; exact Cel.new w _ _
  have HW := hide hW
  clear hW
  obtain ⟨gc, hgc⟩ : ∃ gc, Hid (gc = w.heap.size) := ⟨_, rfl⟩
  rw [← hgc.out] at A0
  have q0 := A0.out.cell 0 rfl
  have q1 := A0.out.cell 1 rfl
  have q2 := A0.out.cell 2 rfl
  have q3 := A0.out.cell 3 rfl
  have q4 := A0.out.cell 4 rfl
  by_cases hL : 100 < s.size
  · have hLz : (100 : Int) < (s.size : Int) := by omega
    go_enter Tryd.func6, Tryd.ntmps6
    go_wp2_with fail
    rw [← HW.out]
    refine (HH.out _).mono ?_
    rintro e w1 ⟨rfl, hb⟩
    have B1 := hide (B0.out.trans (hb.mono B0.out.size))
    clear hb
    go_wp2
    go_ret
    exact ⟨rfl, B1.out⟩
  · have hLz : ¬ (100 : Int) < (s.size : Int) := by omega
    cases hok : Co.okZ (z1, z2, z3, z4, z5) with
    | true =>
      have KN0 : Hid (∀ w0, Calls Tryd.prog 10 #[.agg #[.int .i64 z1, .int .i64 z2, .int .i64 z3, .int .i64 z4, .int .i64 z5]] w0 fun e w' => e = .returned (.string (Co.str (Co.nm (Co.nat (z1, z2, z3, z4, z5))))) ∧ Below w0.heap.size w0 w') := fun w0 => by
        have := kname_c z1 z2 z3 z4 z5 w0
        unfold Co.nmZ at this
        rw [hok] at this
        exact this
      have KP0 : Hid (∀ w0, Calls Tryd.prog 12 #[.string (Co.str (Co.nm (Co.nat (z1, z2, z3, z4, z5))))] w0 fun e w' => e = .returned (.tuple #[.agg #[.int .i64 z1, .int .i64 z2, .int .i64 z3, .int .i64 z4, .int .i64 z5], .bool true]) ∧ Below w0.heap.size w0 w') := fun w0 => by
        have := kparse_c (Co.str (Co.nm (Co.nat (z1, z2, z3, z4, z5)))) (Co.nm_short _) w0
        unfold Co.prZ at this
        have e := Co.okZ_nn hok
        have h2 := Co.okZ_nat (Co.nat (z1, z2, z3, z4, z5))
        rw [e, hok] at h2
        rw [Co.fnd_nm (Co.mem_all h2.symm)] at this
        simp only [e] at this
        exact this
      have KC0 : Hid (∀ w0, Calls Tryd.prog 7 #[.agg #[.int .i64 z1, .int .i64 z2, .int .i64 z3, .int .i64 z4, .int .i64 z5]] w0 fun e w' => e = .returned (.bool true) ∧ Below w0.heap.size w0 w') := fun w0 => by
        have := kcheck_c z1 z2 z3 z4 z5 w0
        rwa [hok] at this
      clear hok
      generalize Co.str (Co.nm (Co.nat (z1, z2, z3, z4, z5))) = nn at *
      go_enter Tryd.func6, Tryd.ntmps6
      go_wp2_with fail
      rw [← HW.out, ← hgc.out]
      refine (KN0.out _).mono ?_
      rintro e w1 ⟨rfl, hb⟩
      have A1 := hide (A0.out.kept hb)
      have B1 := hide (B0.out.trans (hb.mono B0.out.size))
      clear hb A0 B0 q0 q1 q2 q3 q4
      go_wp2_with fail
      refine (KP0.out _).mono ?_
      rintro e w2 ⟨rfl, hb⟩
      have A2 := hide ((A1.out.kept hb).alloc (.cells #[.int .i64 z1, .int .i64 z2, .int .i64 z3, .int .i64 z4, .int .i64 z5] 23))
      have D2 : Hid (Cel (w2.alloc (.cells #[.int .i64 z1, .int .i64 z2, .int .i64 z3, .int .i64 z4, .int .i64 z5] 23)) w2.heap.size [.int .i64 z1, .int .i64 z2, .int .i64 z3, .int .i64 z4, .int .i64 z5] 23) := Cel.new w2 _ _
      have B2 := hide ((B1.out.trans (hb.mono B1.out.size)).alloc (B1.out.trans (hb.mono B1.out.size)).size (.cells #[.int .i64 z1, .int .i64 z2, .int .i64 z3, .int .i64 z4, .int .i64 z5] 23))
      clear hb A1 B1
      have q0 := A2.out.cell 0 rfl
      have q1 := A2.out.cell 1 rfl
      have q2 := A2.out.cell 2 rfl
      have q3 := A2.out.cell 3 rfl
      have q4 := A2.out.cell 4 rfl
      go_wp2_with fail
      generalize w2.alloc (.cells #[.int .i64 z1, .int .i64 z2, .int .i64 z3, .int .i64 z4, .int .i64 z5] 23) = W2 at *
      generalize w2.heap.size = g2 at *
      refine (KC0.out _).mono ?_
      rintro e w3 ⟨rfl, hb⟩
      have A5 := hide (A2.out.kept hb)
      have D5 := hide (D2.out.kept hb)
      have B5 := hide (B2.out.trans (hb.mono B2.out.size))
      clear hb A2 D2 B2 q0 q1 q2 q3 q4
      have q0 := A5.out.cell 0 rfl
      have q1 := A5.out.cell 1 rfl
      have q2 := A5.out.cell 2 rfl
      have q3 := A5.out.cell 3 rfl
      have q4 := A5.out.cell 4 rfl
      have r0 := D5.out.cell 0 rfl
      have r1 := D5.out.cell 1 rfl
      have r2 := D5.out.cell 2 rfl
      have r3 := D5.out.cell 3 rfl
      have r4 := D5.out.cell 4 rfl
      cases hf : Co.fnd s with
      | none =>
        have PS : Hid (∀ w0, Calls Tryd.prog 12 #[.string s] w0 fun e w' => e = .returned (.tuple #[.agg #[.int .i64 0, .int .i64 0, .int .i64 0, .int .i64 0, .int .i64 0], .bool false]) ∧ Below w0.heap.size w0 w') := fun w0 => by
          have := kparse_c s (by omega) w0
          unfold Co.prZ at this
          rw [hf] at this
          exact this
        go_wp2_with fail
        refine (PS.out _).mono ?_
        rintro e w6 ⟨rfl, hb⟩
        have B6 := hide ((B5.out.trans (hb.mono B5.out.size)).alloc (B5.out.trans (hb.mono B5.out.size)).size (.cells #[.int .i64 0, .int .i64 0, .int .i64 0, .int .i64 0, .int .i64 0] 23))
        clear hb hf
        go_wp2_with fail
        generalize w6.alloc (.cells #[.int .i64 0, .int .i64 0, .int .i64 0, .int .i64 0, .int .i64 0] 23) = W6 at *
        refine (HH.out _).mono ?_
        rintro e w7 ⟨rfl, hb⟩
        have B7 := hide (B6.out.trans (hb.mono B6.out.size))
        clear hb
        go_wp2
        go_ret
        exact ⟨rfl, B7.out⟩
      | some c =>
        obtain ⟨hcm, hce⟩ := Co.fnd_some hf
        obtain ⟨x1, x2, x3, x4, x5, hx⟩ : ∃ x1 x2 x3 x4 x5, Hid (Co.toZ c = (x1, x2, x3, x4, x5)) := ⟨_, _, _, _, _, rfl⟩
        have PS : Hid (∀ w0, Calls Tryd.prog 12 #[.string s] w0 fun e w' => e = .returned (.tuple #[.agg #[.int .i64 x1, .int .i64 x2, .int .i64 x3, .int .i64 x4, .int .i64 x5], .bool true]) ∧ Below w0.heap.size w0 w') := fun w0 => by
          have := kparse_c s (by omega) w0
          unfold Co.prZ at this
          rw [hf] at this
          simp only [hx.out] at this
          exact this
        have KN : Hid (∀ w0, Calls Tryd.prog 10 #[.agg #[.int .i64 x1, .int .i64 x2, .int .i64 x3, .int .i64 x4, .int .i64 x5]] w0 fun e w' => e = .returned (.string (Co.str (Co.nm c))) ∧ Below w0.heap.size w0 w') := fun w0 => by
          have := kname_c x1 x2 x3 x4 x5 w0
          have e : Co.nmZ (Co.toZ c) = Co.nm c := by
            unfold Co.nmZ
            rw [Co.okZ_nat, Co.ok_all hcm, Co.nat_toZ]
            rfl
          rw [← hx.out, e] at this
          exact this
        have KX : Hid (∀ w0, Calls Tryd.prog 7 #[.agg #[.int .i64 x1, .int .i64 x2, .int .i64 x3, .int .i64 x4, .int .i64 x5]] w0 fun e w' => e = .returned (.bool true) ∧ Below w0.heap.size w0 w') := fun w0 => by
          have := kcheck_c x1 x2 x3 x4 x5 w0
          rw [← hx.out, Co.okZ_nat, Co.ok_all hcm] at this
          exact this
        go_wp2_with fail
        refine (PS.out _).mono ?_
        rintro e w6 ⟨rfl, hb⟩
        have A6 : Hid (Cel (w6.alloc (.cells #[.int .i64 x1, .int .i64 x2, .int .i64 x3, .int .i64 x4, .int .i64 x5] 23)) w6.heap.size [.int .i64 x1, .int .i64 x2, .int .i64 x3, .int .i64 x4, .int .i64 x5] 23) := Cel.new w6 _ _
        have B6 := hide ((B5.out.trans (hb.mono B5.out.size)).alloc (B5.out.trans (hb.mono B5.out.size)).size (.cells #[.int .i64 x1, .int .i64 x2, .int .i64 x3, .int .i64 x4, .int .i64 x5] 23))
        clear hb hf PS
        have q0 := A6.out.cell 0 rfl
        have q1 := A6.out.cell 1 rfl
        have q2 := A6.out.cell 2 rfl
        have q3 := A6.out.cell 3 rfl
        have q4 := A6.out.cell 4 rfl
        go_wp2_with fail
        generalize w6.alloc (.cells #[.int .i64 x1, .int .i64 x2, .int .i64 x3, .int .i64 x4, .int .i64 x5] 23) = W6 at *
        generalize w6.heap.size = g6 at *
        refine (KN.out _).mono ?_
        rintro e w7 ⟨rfl, hb⟩
        have A7 := hide (A6.out.kept hb)
        have B7 := hide (B6.out.trans (hb.mono B6.out.size))
        clear hb q0 q1 q2 q3 q4 A6 B6
        have q0 := A7.out.cell 0 rfl
        have q1 := A7.out.cell 1 rfl
        have q2 := A7.out.cell 2 rfl
        have q3 := A7.out.cell 3 rfl
        have q4 := A7.out.cell 4 rfl
        go_wp2_with fail
        refine (KX.out _).mono ?_
        rintro e w8 ⟨rfl, hb⟩
        have B8 := hide (B7.out.trans (hb.mono B7.out.size))
        clear hb q0 q1 q2 q3 q4 A7 B7
        go_wp2_with fail
        refine (HH.out _).mono ?_
        rintro e w9 ⟨rfl, hb⟩
        have B9 := hide (B8.out.trans (hb.mono B8.out.size))
        clear hb
        go_wp2
        go_ret
        exact ⟨rfl, B9.out⟩
    | false =>
      have KN0 : Hid (∀ w0, Calls Tryd.prog 10 #[.agg #[.int .i64 z1, .int .i64 z2, .int .i64 z3, .int .i64 z4, .int .i64 z5]] w0 fun e w' => e = .returned (.string (Co.str [])) ∧ Below w0.heap.size w0 w') := fun w0 => by
        have := kname_c z1 z2 z3 z4 z5 w0
        unfold Co.nmZ at this
        rw [hok] at this
        exact this
      have KP0 : Hid (∀ w0, Calls Tryd.prog 12 #[.string (Co.str [])] w0 fun e w' => e = .returned (.tuple #[.agg #[.int .i64 0, .int .i64 0, .int .i64 0, .int .i64 0, .int .i64 0], .bool false]) ∧ Below w0.heap.size w0 w') := fun w0 => by
        have := kparse_c (Co.str []) (by rw [Co.str_size]; decide) w0
        unfold Co.prZ at this
        rw [Co.fnd_nil] at this
        exact this
      have KC0 : Hid (∀ w0, Calls Tryd.prog 7 #[.agg #[.int .i64 z1, .int .i64 z2, .int .i64 z3, .int .i64 z4, .int .i64 z5]] w0 fun e w' => e = .returned (.bool false) ∧ Below w0.heap.size w0 w') := fun w0 => by
        have := kcheck_c z1 z2 z3 z4 z5 w0
        rwa [hok] at this
      clear hok
      generalize Co.str [] = nn at *
      go_enter Tryd.func6, Tryd.ntmps6
      go_wp2_with fail
      rw [← HW.out, ← hgc.out]
      refine (KN0.out _).mono ?_
      rintro e w1 ⟨rfl, hb⟩
      have A1 := hide (A0.out.kept hb)
      have B1 := hide (B0.out.trans (hb.mono B0.out.size))
      clear hb A0 B0 q0 q1 q2 q3 q4
      go_wp2_with fail
      refine (KP0.out _).mono ?_
      rintro e w2 ⟨rfl, hb⟩
      have A2 := hide ((A1.out.kept hb).alloc (.cells #[.int .i64 0, .int .i64 0, .int .i64 0, .int .i64 0, .int .i64 0] 23))
      have D2 : Hid (Cel (w2.alloc (.cells #[.int .i64 0, .int .i64 0, .int .i64 0, .int .i64 0, .int .i64 0] 23)) w2.heap.size [.int .i64 0, .int .i64 0, .int .i64 0, .int .i64 0, .int .i64 0] 23) := Cel.new w2 _ _
      have B2 := hide ((B1.out.trans (hb.mono B1.out.size)).alloc (B1.out.trans (hb.mono B1.out.size)).size (.cells #[.int .i64 0, .int .i64 0, .int .i64 0, .int .i64 0, .int .i64 0] 23))
      clear hb A1 B1
      have q0 := A2.out.cell 0 rfl
      have q1 := A2.out.cell 1 rfl
      have q2 := A2.out.cell 2 rfl
      have q3 := A2.out.cell 3 rfl
      have q4 := A2.out.cell 4 rfl
      go_wp2_with fail
      generalize w2.alloc (.cells #[.int .i64 0, .int .i64 0, .int .i64 0, .int .i64 0, .int .i64 0] 23) = W2 at *
      generalize w2.heap.size = g2 at *
      refine (KC0.out _).mono ?_
      rintro e w3 ⟨rfl, hb⟩
      have A5 := hide (A2.out.kept hb)
      have D5 := hide (D2.out.kept hb)
      have B5 := hide (B2.out.trans (hb.mono B2.out.size))
      clear hb A2 D2 B2 q0 q1 q2 q3 q4
      have q0 := A5.out.cell 0 rfl
      have q1 := A5.out.cell 1 rfl
      have q2 := A5.out.cell 2 rfl
      have q3 := A5.out.cell 3 rfl
      have q4 := A5.out.cell 4 rfl
      have r0 := D5.out.cell 0 rfl
      have r1 := D5.out.cell 1 rfl
      have r2 := D5.out.cell 2 rfl
      have r3 := D5.out.cell 3 rfl
      have r4 := D5.out.cell 4 rfl
      cases hf : Co.fnd s with
      | none =>
        have PS : Hid (∀ w0, Calls Tryd.prog 12 #[.string s] w0 fun e w' => e = .returned (.tuple #[.agg #[.int .i64 0, .int .i64 0, .int .i64 0, .int .i64 0, .int .i64 0], .bool false]) ∧ Below w0.heap.size w0 w') := fun w0 => by
          have := kparse_c s (by omega) w0
          unfold Co.prZ at this
          rw [hf] at this
          exact this
        go_wp2_with fail
        refine (PS.out _).mono ?_
        rintro e w6 ⟨rfl, hb⟩
        have B6 := hide ((B5.out.trans (hb.mono B5.out.size)).alloc (B5.out.trans (hb.mono B5.out.size)).size (.cells #[.int .i64 0, .int .i64 0, .int .i64 0, .int .i64 0, .int .i64 0] 23))
        clear hb hf
        go_wp2_with fail
        generalize w6.alloc (.cells #[.int .i64 0, .int .i64 0, .int .i64 0, .int .i64 0, .int .i64 0] 23) = W6 at *
        refine (HH.out _).mono ?_
        rintro e w7 ⟨rfl, hb⟩
        have B7 := hide (B6.out.trans (hb.mono B6.out.size))
        clear hb
        go_wp2
        go_ret
        exact ⟨rfl, B7.out⟩
      | some c =>
        obtain ⟨hcm, hce⟩ := Co.fnd_some hf
        obtain ⟨x1, x2, x3, x4, x5, hx⟩ : ∃ x1 x2 x3 x4 x5, Hid (Co.toZ c = (x1, x2, x3, x4, x5)) := ⟨_, _, _, _, _, rfl⟩
        have PS : Hid (∀ w0, Calls Tryd.prog 12 #[.string s] w0 fun e w' => e = .returned (.tuple #[.agg #[.int .i64 x1, .int .i64 x2, .int .i64 x3, .int .i64 x4, .int .i64 x5], .bool true]) ∧ Below w0.heap.size w0 w') := fun w0 => by
          have := kparse_c s (by omega) w0
          unfold Co.prZ at this
          rw [hf] at this
          simp only [hx.out] at this
          exact this
        have KN : Hid (∀ w0, Calls Tryd.prog 10 #[.agg #[.int .i64 x1, .int .i64 x2, .int .i64 x3, .int .i64 x4, .int .i64 x5]] w0 fun e w' => e = .returned (.string (Co.str (Co.nm c))) ∧ Below w0.heap.size w0 w') := fun w0 => by
          have := kname_c x1 x2 x3 x4 x5 w0
          have e : Co.nmZ (Co.toZ c) = Co.nm c := by
            unfold Co.nmZ
            rw [Co.okZ_nat, Co.ok_all hcm, Co.nat_toZ]
            rfl
          rw [← hx.out, e] at this
          exact this
        have KX : Hid (∀ w0, Calls Tryd.prog 7 #[.agg #[.int .i64 x1, .int .i64 x2, .int .i64 x3, .int .i64 x4, .int .i64 x5]] w0 fun e w' => e = .returned (.bool true) ∧ Below w0.heap.size w0 w') := fun w0 => by
          have := kcheck_c x1 x2 x3 x4 x5 w0
          rw [← hx.out, Co.okZ_nat, Co.ok_all hcm] at this
          exact this
        go_wp2_with fail
        refine (PS.out _).mono ?_
        rintro e w6 ⟨rfl, hb⟩
        have A6 : Hid (Cel (w6.alloc (.cells #[.int .i64 x1, .int .i64 x2, .int .i64 x3, .int .i64 x4, .int .i64 x5] 23)) w6.heap.size [.int .i64 x1, .int .i64 x2, .int .i64 x3, .int .i64 x4, .int .i64 x5] 23) := Cel.new w6 _ _
        have B6 := hide ((B5.out.trans (hb.mono B5.out.size)).alloc (B5.out.trans (hb.mono B5.out.size)).size (.cells #[.int .i64 x1, .int .i64 x2, .int .i64 x3, .int .i64 x4, .int .i64 x5] 23))
        clear hb hf PS
        have q0 := A6.out.cell 0 rfl
        have q1 := A6.out.cell 1 rfl
        have q2 := A6.out.cell 2 rfl
        have q3 := A6.out.cell 3 rfl
        have q4 := A6.out.cell 4 rfl
        go_wp2_with fail
        generalize w6.alloc (.cells #[.int .i64 x1, .int .i64 x2, .int .i64 x3, .int .i64 x4, .int .i64 x5] 23) = W6 at *
        generalize w6.heap.size = g6 at *
        refine (KN.out _).mono ?_
        rintro e w7 ⟨rfl, hb⟩
        have A7 := hide (A6.out.kept hb)
        have B7 := hide (B6.out.trans (hb.mono B6.out.size))
        clear hb q0 q1 q2 q3 q4 A6 B6
        have q0 := A7.out.cell 0 rfl
        have q1 := A7.out.cell 1 rfl
        have q2 := A7.out.cell 2 rfl
        have q3 := A7.out.cell 3 rfl
        have q4 := A7.out.cell 4 rfl
        go_wp2_with fail
        refine (KX.out _).mono ?_
        rintro e w8 ⟨rfl, hb⟩
        have B8 := hide (B7.out.trans (hb.mono B7.out.size))
        clear hb q0 q1 q2 q3 q4 A7 B7
        go_wp2_with fail
        refine (HH.out _).mono ?_
        rintro e w9 ⟨rfl, hb⟩
        have B9 := hide (B8.out.trans (hb.mono B8.out.size))
        clear hb
        go_wp2
        go_ret
        exact ⟨rfl, B9.out⟩

theorem door_met (os : Os) (args : Array Value) : laidMetH Tryd.prog [("math/bits.deBruijn32tab", Rows.laid_math_bits_deBruijn32tab), ("math/bits.deBruijn64tab", Rows.laid_math_bits_deBruijn64tab), ("internal/strconv.uint64pow10", Rows.laid_internal_strconv_uint64pow10)] ((World.doorLaid Tryd.prog 400 os).forCall (fun _ _ => 0) ⟨#[], args, []⟩).memory :=
  laidMetH_of_parts3 (fuel := 8) (laidMet_of_run' 8 (by kernel_rfl) (by kernel_rfl)) (by kernel_rfl) (by kernel_rfl)

theorem lifted (os : Os) (started : os.Started) (H : Type) (enc : TypeId × Value → H) :
    ReturnsInHanded {} Tryd.checked os 6 .any (fun w args => (Rows.configBackSpec.pre enc Tryd.prog Tryd.f6 [] false w args ∧ laidMetH Tryd.prog [("math/bits.deBruijn32tab", Rows.laid_math_bits_deBruijn32tab), ("math/bits.deBruijn64tab", Rows.laid_math_bits_deBruijn64tab), ("internal/strconv.uint64pow10", Rows.laid_internal_strconv_uint64pow10)] w) ∧ sizedMet enc Tryd.prog Tryd.f6 (OpenSpec.ofChange Rows.configBackSpec) false w args)
      (Rows.configBackSpec.post enc Tryd.prog Tryd.f6 false true false false) := by
  refine returnsInHanded_of_change_and (C := Tryd.checked) (X := fun w _ => laidMetH Tryd.prog [("math/bits.deBruijn32tab", Rows.laid_math_bits_deBruijn32tab), ("math/bits.deBruijn64tab", Rows.laid_math_bits_deBruijn64tab), ("internal/strconv.uint64pow10", Rows.laid_internal_strconv_uint64pow10)] w) (fun _ _ _ hh h => h.of_heap hh) own started (by kernel_rfl) Tryd.func6
    (ChangeSpec.witness_shaped (enc := enc) (C := Tryd.checked) (os := os) (X := fun w _ => laidMetH Tryd.prog [("math/bits.deBruijn32tab", Rows.laid_math_bits_deBruijn32tab), ("math/bits.deBruijn64tab", Rows.laid_math_bits_deBruijn64tab), ("internal/strconv.uint64pow10", Rows.laid_internal_strconv_uint64pow10)] w) false (World.doorLaid Tryd.prog 400 os) #[.agg #[.int .i64 0, .int .i64 0, .int .i64 0, .int .i64 0, .int .i64 0], .string { data := #[] }] 8 rfl (World.shaped_of_RefB (by kernel_rfl) (by kernel_rfl)) (by kernel_rfl) (by kernel_rfl) (by kernel_rfl) (door_met os _)) ?_
  intro W base args ds gs before hval0 hW _ _ hL _
  have hval : ∀ (j : Nat) t v, Tryd.f6.params[j]? = some t → args[j]? = some v → Value.okWide Tryd.prog W .any base t v := hval0
  have hW' := hW
  obtain ⟨p, q, hA0, hV, rfl, hfz, hnd⟩ := hW
  have hA : DataW.TrodAll enc Tryd.prog W 0 (fun _ => true) true Tryd.f6.params.toList args.toList ds p := hA0
  rw [Tryd.params6] at hA hval
  obtain ⟨v0, vs0, d0, ds0, p0, q0, hargs, rfl, rfl, h0, r0⟩ := trodAll_cons hA
  obtain ⟨v1, vs1, d1, ds1, p1, q1, rfl, rfl, rfl, h1, r1⟩ := trodAll_cons r0
  obtain ⟨rfl, rfl, rfl⟩ := trodAll_nil r1
  obtain rfl : args = #[v0, v1] := by cases args; simp_all
  obtain ⟨rfl, rfl⟩ := trodVars_none hV
  have k0 := h0
  have lt0 : ∀ x ∈ p0, x.block < W.heap.size := by obtain ⟨m, hm⟩ := k0; exact DataW.trod_lt m _ _ _ hm
  obtain ⟨z1, z2, z3, z4, z5, rfl⟩ := open_cfg (hval 0 23 v0 rfl rfl) h0
  obtain ⟨s, rfl, rfl, rfl, w1⟩ := open_string Tryd.underlying9 (hval 1 9 v1 rfl rfl) h1
  clear hA0 hval0
  refine (walk W z1 z2 z3 z4 z5 s w1).mono fun e W' ⟨he, bel⟩ => ?_
  subst he
  exact ⟨_, rfl, _, _, _, [], _, [], hW', trodAll_mk1 (shut_bool Tryd.underlying4 _), (trodAll_cons_mk (Below.trod laidOut (by kernel_rfl) (of_decide_eq_true (by kernel_rfl)) k0 bel lt0) (trodAll_cons_mk (shut_string Tryd.underlying9 w1) trodAll_mk0)), rfl, bel.frame _, fun h => by cases h⟩

theorem over : Rows.configBackRow.holds Tryd.pinned (OpenSpec.ofChange Rows.configBackSpec) :=
  OpenClaim.holds_of_wide 6 Tryd.f6 rfl rfl rfl rfl rfl rfl rfl ⟨rfl, rfl, rfl, rfl, rfl⟩ rfl rfl rfl rfl rfl (by kernel_rfl) Tryd.func6 (by kernel_rfl)
    (of_decide_eq_true (by kernel_rfl)) (by unfold Func.isWrapper; first | (rw [if_pos (by decide +kernel)]; kernel_rfl) | (rw [if_neg (by decide +kernel)]; exact ⟨rfl, rfl⟩))
    (fun os started H enc _ => lifted os started H enc)

theorem proved : Rows.ConfigBackCardSaid :=
  Claim7.holds_tied_plain_at .later [] [.data, .data, .data] true (true, "1593746b2f8074c2f823bae7dda62f5e0b82fecdbe1678f3b126733c587ff417") false
    over (fun _ h => by cases h) (by kernel_rfl) (fun _ h => by cases h) configBack_row_tie rfl ⟨rfl, rfl⟩ (by kernel_rfl) rfl
    (fun f fn hf hfn => by
      obtain rfl : f = 6 := Option.some.inj ((show Tryd.prog.funcNamed "haystack/haystacklaw20.ConfigBack" = some 6 by kernel_rfl).symm.trans hf) |>.symm
      obtain rfl : fn = Tryd.f6 := (Option.some.inj (Tryd.func6.symm.trans hfn)).symm
      exact ⟨by kernel_rfl, fun j t ht => by
        rw [Tryd.params6] at ht
        have hm : t ∈ [23, 9] := by simpa using Array.mem_of_getElem? ht
        have hall : ([23, 9].all fun u => !Tryd.prog.wantsStandIn u) = true := by kernel_rfl
        exact (show Tryd.prog.wantsStandIn t = false by simpa using List.all_eq_true.1 hall t hm)⟩)
    (by kernel_rfl)
end Go.Proofs.YtadfnllfeoidhaaDoor.configBack
namespace Go.Proofs.YtadfnllfeoidhaaDoor
theorem configBack_holds : Rows.ConfigBackCardSaid := configBack.proved
#print axioms configBack_holds
end Go.Proofs.YtadfnllfeoidhaaDoor
