/-
  For all numbers, at most 60, some by one code, some by the other: what is put one behind the other is read so (P4.3). No condition.
-/
import Derived.Test.YtmdmjbpehbjgpaaStH
import Derived.Test.YtmdmjbpehbjgpaaSb
import Derived.Test.YtmdmjbpehbjgpaaOpenB
import Derived.Test.YtmdmjbpehbjgpaaOpenU
import Derived.Test.YtmdmjbpehbjgpaaOpen
import Derived.ChangeOld
import Derived.Deep.RegionWith
import Derived.Deep.DeepCutAuto
namespace Go.Proofs.Ytmdmjbpehbjgpaa.streamBack
open Go.ChangeShapes Go.WideShapes Go.ChangeAt Go.RowKit Num Bit
set_option linter.unusedVariables false
set_option linter.unusedSimpArgs false
set_option maxRecDepth 100000

/-- A box of two cells that may be written. -/
structure TB (w : World) (T : Nat) (u v : Value) : Prop where
  lt : T < w.heap.size
  c0 : w.cell? ⟨T, 0, none⟩ = some u
  c1 : w.cell? ⟨T, 1, none⟩ = some v
  f0 : w.frozen? ⟨T, 0, none⟩ = false
  f1 : w.frozen? ⟨T, 1, none⟩ = false
theorem TB.new (w : World) (u v : Value) (t : TypeId) : TB (w.alloc (.cells #[u, v] t)) w.heap.size u v := ⟨by simp, by simp, by simp, by simp, by simp⟩
theorem TB.keep {w w' : World} {T : Nat} {u v : Value} (h : TB w T u v) (hb : Below w.heap.size w w') : TB w' T u v :=
  ⟨Nat.lt_of_lt_of_le h.lt hb.size, (hb.cell (p := ⟨T, 0, none⟩) h.lt).trans h.c0, (hb.cell (p := ⟨T, 1, none⟩) h.lt).trans h.c1,
   (hb.frozen (p := ⟨T, 0, none⟩) h.lt).trans h.f0, (hb.frozen (p := ⟨T, 1, none⟩) h.lt).trans h.f1⟩
theorem TB.put {w : World} {T : Nat} {u v : Value} (h : TB w T u v) (p q : Value) : TB ((w.setCell ⟨T, 0, none⟩ p).setCell ⟨T, 1, none⟩ q) T p q :=
  ⟨by simp only [size_set]; exact h.lt, by simp [go_sem, h.c0], by simp [go_sem, h.c1], by simp [go_sem, h.f0], by simp [go_sem, h.f1]⟩
theorem szN_succ (ds : List Bool) (l : List Nat) (q : Nat) : (szN ds l (q + 1) : Int) = (szN ds l q : Int) + (cL (bt ds q) (gt l q) : Int) := by simp only [szN]; omega
theorem bt_out (ds : List Bool) (q : Nat) (h : ¬ q < ds.length) : bt ds q = false := by unfold bt; rw [List.getD_eq_getElem?_getD, List.getElem?_eq_none (by omega)]; rfl
theorem bl_cell {w : World} {ao : Option Addr} {ds : List Bool} (h : Bl w ao ds) (q : Nat) (hq : q < ds.length) : ∃ b off, ao = some ⟨b, off, none⟩ ∧ b < w.heap.size ∧ w.cell? ⟨b, off + q, none⟩ = some (.bool (bt ds q)) := by
  obtain ⟨b, off, e, hb, hc⟩ := h (by omega)
  exact ⟨b, off, e, hb, hc q hq⟩

set_option maxHeartbeats 40000000 in
theorem walk (w : World) (al : Option Addr) (l : List Nat) (cl : Nat) (Xl : Wd w al l) (Fl : Fit l) (Cl : l.length ≤ cl) (ad : Option Addr) (ds : List Bool) (cds : Nat) (Xds : Bl w ad ds) :
    Calls Try.prog 5 #[.slice al l.length cl, .slice ad ds.length cds] w fun e w' => e = .returned (.bool true) ∧ Below w.heap.size w w' := by
  by_cases s1 : (60 : Int) < (l.length : Int)
  case pos =>
    go_enter Try.func5, Try.ntmps5
    go_wp2_with fail
    refine (heads_c _).mono ?_
    rintro e w1 ⟨rfl, hb⟩
    go_wp2
    go_ret
    exact ⟨rfl, hb⟩
  obtain ⟨n, hn⟩ : ∃ n, n = l.length := ⟨_, rfl⟩
  have n60 : n ≤ 60 := by omega
  go_enter Try.func5, Try.ntmps5
  go_wp2
  go_loopw [6, 7] (fun size i wr => ∃ q : Nat, q ≤ n ∧ i = .int .i64 q ∧ size = .int .i64 (szN ds l q) ∧ ∃ bo bc, TB wr w.heap.size (.int .i64 (szN ds l q)) (.slice bo (rwN ds l q).length bc) ∧ Wd wr bo (rwN ds l q) ∧ Below w.heap.size w wr) (fun _ i _ => n - (intOf i).toNat)
  case atStart => exact ⟨0, Nat.zero_le _, rfl, rfl, none, 0, TB.new w _ _ _, wd0 _ _, below_alloc _ _⟩
  case round =>
    obtain ⟨q, hq, rfl, rfl, bo, bc, B, Xr, hw⟩ := hrel
    by_cases hlt : q < n
    · have hlt2 : (q : Int) < (l.length : Int) := by omega
      obtain ⟨f1, f2, f3⟩ := rwN_facts ds l Fl q (by omega)
      obtain ⟨p1, p2⟩ := rwN_put ds l Fl q (by omega)
      have x64 := Fl q
      have s0 := szN_le ds l Fl q
      have cl := cL_le (bt ds q) (gt l q) x64
      obtain ⟨bL, oL, hal, hbL, hcL⟩ := Xl (by omega)
      subst hal
      have L0 := hcL q (by omega)
      have Lr := (hw.cell (p := ⟨bL, oL + q, none⟩) hbL).trans L0
      have hS : Hid ((szN ds l (q + 1) : Int) = (szN ds l q : Int) + (cL (bt ds q) (gt l q) : Int)) := szN_succ ds l q
      have E2 : (pE (bt ds q) (szN ds l q) (rwN ds l q) (gt l q) == 0) = ((gt l q : Int) != 0) := by rw [p2, bne0]; by_cases hx : gt l q = 0 <;> simp [hx]
      have PP : Hid (∀ (w0 : World), Wd w0 bo (rwN ds l q) → ((bt ds q = false → Calls Try.prog 12 #[.agg #[.int .i64 (szN ds l q), .slice bo (rwN ds l q).length bc], .int .u64 (gt l q)] w0 fun e w' => ∃ co cc, e = .returned (.tuple #[.agg #[.int .i64 (szN ds l (q + 1)), .slice co (rwN ds l (q + 1)).length cc], .int .i64 (pE (bt ds q) (szN ds l q) (rwN ds l q) (gt l q))]) ∧ OutF w0 w' co (rwN ds l (q + 1)) cc) ∧ (bt ds q = true → Calls Try.prog 13 #[.agg #[.int .i64 (szN ds l q), .slice bo (rwN ds l q).length bc], .int .u64 (gt l q)] w0 fun e w' => ∃ co cc, e = .returned (.tuple #[.agg #[.int .i64 (szN ds l (q + 1)), .slice co (rwN ds l (q + 1)).length cc], .int .i64 (pE (bt ds q) (szN ds l q) (rwN ds l q) (gt l q))]) ∧ OutF w0 w' co (rwN ds l (q + 1)) cc))) := fun w0 h => by
        refine ⟨fun hd => ?_, fun hd => ?_⟩
        · have := putg_c (szN ds l q) bo (rwN ds l q) bc (gt l q) w0 h f2 f3 x64
          rw [← p1]
          simp only [rwN]
          rw [hd]
          exact this
        · have := putd_c (szN ds l q) bo (rwN ds l q) bc (gt l q) w0 h f2 f3 x64
          rw [← p1]
          simp only [rwN]
          rw [hd]
          exact this
      have SZ : Hid (∀ w0 : World, Calls Try.prog 20 #[.int .u64 (gt l q), .bool (bt ds q)] w0 fun e w' => e = .returned (.int .i64 (cL (bt ds q) (gt l q))) ∧ w' = w0) := fun w0 => size_c (bt ds q) (gt l q) x64 w0
      clear p1 p2 f1 hcL
      have s7 : (szN ds l q : Int) ≤ 7620 := by omega
      have c7 : (cL (bt ds q) (gt l q) : Int) ≤ 127 := by omega
      clear s0 cl
      have DD : (¬ q < ds.length ∧ bt ds q = false) ∨ (∃ bD oD, ad = some ⟨bD, oD, none⟩ ∧ q < ds.length ∧ bD < w.heap.size ∧ wr.cell? ⟨bD, oD + q, none⟩ = some (.bool (bt ds q))) := by
        by_cases h : q < ds.length
        · obtain ⟨bD, oD, e, hb, hc⟩ := bl_cell Xds q h
          exact .inr ⟨bD, oD, e, h, hb, (hw.cell (p := ⟨bD, oD + q, none⟩) hb).trans hc⟩
        · exact .inl ⟨h, bt_out ds q h⟩
      generalize pE (bt ds q) (szN ds l q) (rwN ds l q) (gt l q) = E at *
      generalize cL (bt ds q) (gt l q) = C at *
      generalize hS1 : szN ds l (q + 1) = S1 at *
      generalize hR1 : rwN ds l (q + 1) = R1 at *
      generalize szN ds l q = S at *
      generalize rwN ds l q = R at *
      generalize gt l q = x at *
      generalize hd : bt ds q = d at *
      have B0 := B.c0
      have B1 := B.c1
      have Bf0 := B.f0
      have Bf1 := B.f1
      have bl0 := B.lt
      have neL : bL ≠ w.heap.size := Nat.ne_of_lt hbL
      have hq1 : Hid (szN ds l (q + 1) = S1) := hS1
      have hr1 : Hid (rwN ds l (q + 1) = R1) := hR1
      clear hS1 hR1
      rcases DD with ⟨hD, hdd⟩ | ⟨bD, oD, had, hD, hbD, hcD⟩
      · subst hdd
        have hlen : ¬ (q : Int) < (ds.length : Int) := by omega
        have P1 : Hid (∀ (w0 : World), Wd w0 bo R → Calls Try.prog 12 #[.agg #[.int .i64 S, .slice bo R.length bc], .int .u64 x] w0 fun e w' => ∃ co cc, e = .returned (.tuple #[.agg #[.int .i64 S1, .slice co R1.length cc], .int .i64 E]) ∧ OutF w0 w' co R1 cc) := fun w0 h => (PP.out w0 h).1 rfl
        clear PP
        go_upto_region 12 with fail
        go_cut [9] (fun t9 wx => t9 = .int .i64 E ∧ ∃ co cc, TB wx w.heap.size (.int .i64 S1) (.slice co R1.length cc) ∧ Wd wx co R1 ∧ Below w.heap.size w wx)
        case first =>
          go_region_with (go_at_call 12; refine (P1.out _ ?_).mono ?_; (exact Xr.keep (by repeat (first | exact Below.refl _ _ | apply Below.drew | apply below_drewN))); rintro e wa ⟨co, cc, rfl, O1, O2, O3, O4, hb⟩; (with_reducible have hT := below_d hb); clear hb; replace B := B.keep hT; replace hw := hw.trans (hT.mono hw.size); have hsz := hT.size; replace B0 := B.c0; replace B1 := B.c1; replace Bf0 := B.f0; replace Bf1 := B.f1; clear hT Xr Lr)
          all_goals
            have O5 : ∀ a, co = some a → a.block ≠ w.heap.size := fun a ha => by have := O4 a ha; simp at this; omega
            have tt := ((Turned.refl w.heap.size wa).set 0 (.int .i64 S1)).set 1 (.slice co R1.length cc)
            have XV := O1.turn tt (fun _ => O5)
            have BV := B.put (.int .i64 S1) (.slice co R1.length cc)
            have hV := hw.trans (tt.below (Nat.le_refl _))
            go_wp2_with fail
            go_meet
            exact ⟨rfl, co, cc, BV, XV, hV⟩
        case rest =>
          obtain ⟨rfl, co, cc, BV, XV, hV⟩ := hcut
          clear B0 B1 Bf0 Bf1 bl0 Lr B Xr hw P1
          have Lr := (hV.cell (p := ⟨bL, oL + q, none⟩) hbL).trans L0
          go_wp2_with fail
          refine (SZ.out _).mono ?_
          rintro e wz ⟨rfl, hs⟩
          subst hs
          go_wp2
          refine ⟨⟨q + 1, by omega, by go_num, ?_, co, cc, ?_, ?_, hV⟩, by simp only [intOf]; omega⟩
          · rw [hq1.out, hS.out]
          · rw [hq1.out, hr1.out]; exact BV
          · rw [hr1.out]; exact XV
      · subst had
        have neD : bD ≠ w.heap.size := Nat.ne_of_lt hbD
        cases hdd : d with
        | false =>
          subst hdd
          have hlen : (q : Int) < (ds.length : Int) := by omega
          have P1 : Hid (∀ (w0 : World), Wd w0 bo R → Calls Try.prog 12 #[.agg #[.int .i64 S, .slice bo R.length bc], .int .u64 x] w0 fun e w' => ∃ co cc, e = .returned (.tuple #[.agg #[.int .i64 S1, .slice co R1.length cc], .int .i64 E]) ∧ OutF w0 w' co R1 cc) := fun w0 h => (PP.out w0 h).1 rfl
          clear PP
          go_upto_region 12 with fail
          go_cut [9] (fun t9 wx => t9 = .int .i64 E ∧ ∃ co cc, TB wx w.heap.size (.int .i64 S1) (.slice co R1.length cc) ∧ Wd wx co R1 ∧ Below w.heap.size w wx)
          case first =>
            go_region_with (go_at_call 12; refine (P1.out _ ?_).mono ?_; (exact Xr.keep (by repeat (first | exact Below.refl _ _ | apply Below.drew | apply below_drewN))); rintro e wa ⟨co, cc, rfl, O1, O2, O3, O4, hb⟩; (with_reducible have hT := below_d hb); clear hb; replace B := B.keep hT; replace hw := hw.trans (hT.mono hw.size); have hsz := hT.size; replace B0 := B.c0; replace B1 := B.c1; replace Bf0 := B.f0; replace Bf1 := B.f1; clear hT Xr Lr)
            all_goals
              have O5 : ∀ a, co = some a → a.block ≠ w.heap.size := fun a ha => by have := O4 a ha; simp at this; omega
              have tt := ((Turned.refl w.heap.size wa).set 0 (.int .i64 S1)).set 1 (.slice co R1.length cc)
              have XV := O1.turn tt (fun _ => O5)
              have BV := B.put (.int .i64 S1) (.slice co R1.length cc)
              have hV := hw.trans (tt.below (Nat.le_refl _))
              go_wp2_with fail
              go_meet
              exact ⟨rfl, co, cc, BV, XV, hV⟩
          case rest =>
            obtain ⟨rfl, co, cc, BV, XV, hV⟩ := hcut
            clear B0 B1 Bf0 Bf1 bl0 Lr B Xr hw P1
            have Lr := (hV.cell (p := ⟨bL, oL + q, none⟩) hbL).trans L0
            go_wp2_with fail
            refine (SZ.out _).mono ?_
            rintro e wz ⟨rfl, hs⟩
            subst hs
            go_wp2
            refine ⟨⟨q + 1, by omega, by go_num, ?_, co, cc, ?_, ?_, hV⟩, by simp only [intOf]; omega⟩
            · rw [hq1.out, hS.out]
            · rw [hq1.out, hr1.out]; exact BV
            · rw [hr1.out]; exact XV
        | true =>
          subst hdd
          have hlen : (q : Int) < (ds.length : Int) := by omega
          have P1 : Hid (∀ (w0 : World), Wd w0 bo R → Calls Try.prog 13 #[.agg #[.int .i64 S, .slice bo R.length bc], .int .u64 x] w0 fun e w' => ∃ co cc, e = .returned (.tuple #[.agg #[.int .i64 S1, .slice co R1.length cc], .int .i64 E]) ∧ OutF w0 w' co R1 cc) := fun w0 h => (PP.out w0 h).2 rfl
          clear PP
          go_upto_region 11 with fail
          go_cut [9] (fun t9 wx => t9 = .int .i64 E ∧ ∃ co cc, TB wx w.heap.size (.int .i64 S1) (.slice co R1.length cc) ∧ Wd wx co R1 ∧ Below w.heap.size w wx)
          case first =>
            go_region_with (go_at_call 13; refine (P1.out _ ?_).mono ?_; (exact Xr.keep (by repeat (first | exact Below.refl _ _ | apply Below.drew | apply below_drewN))); rintro e wa ⟨co, cc, rfl, O1, O2, O3, O4, hb⟩; (with_reducible have hT := below_d hb); clear hb; replace B := B.keep hT; replace hw := hw.trans (hT.mono hw.size); have hsz := hT.size; replace B0 := B.c0; replace B1 := B.c1; replace Bf0 := B.f0; replace Bf1 := B.f1; clear hT Xr Lr)
            all_goals
              have O5 : ∀ a, co = some a → a.block ≠ w.heap.size := fun a ha => by have := O4 a ha; simp at this; omega
              have tt := ((Turned.refl w.heap.size wa).set 0 (.int .i64 S1)).set 1 (.slice co R1.length cc)
              have XV := O1.turn tt (fun _ => O5)
              have BV := B.put (.int .i64 S1) (.slice co R1.length cc)
              have hV := hw.trans (tt.below (Nat.le_refl _))
              go_wp2_with fail
              go_meet
              exact ⟨rfl, co, cc, BV, XV, hV⟩
          case rest =>
            obtain ⟨rfl, co, cc, BV, XV, hV⟩ := hcut
            clear B0 B1 Bf0 Bf1 bl0 Lr B Xr hw P1
            have Lr := (hV.cell (p := ⟨bL, oL + q, none⟩) hbL).trans L0
            go_wp2_with fail
            refine (SZ.out _).mono ?_
            rintro e wz ⟨rfl, hs⟩
            subst hs
            go_wp2
            refine ⟨⟨q + 1, by omega, by go_num, ?_, co, cc, ?_, ?_, hV⟩, by simp only [intOf]; omega⟩
            · rw [hq1.out, hS.out]
            · rw [hq1.out, hr1.out]; exact BV
            · rw [hr1.out]; exact XV
    · obtain rfl : q = n := by omega
      have hlt2 : ¬ (q : Int) < (l.length : Int) := by omega
      have hqn : (q : Int) = (l.length : Int) := by omega
      have B0 := B.c0
      have B1 := B.c1
      clear hlt hq hqn
      go_wp2
      go_loopw [10, 11] (fun at_ i wr => ∃ k : Nat, k ≤ q ∧ i = .int .i64 k ∧ at_ = .int .i64 (szN ds l k) ∧ TB wr w.heap.size (.int .i64 (szN ds l q)) (.slice bo (rwN ds l q).length bc) ∧ Wd wr bo (rwN ds l q) ∧ Below w.heap.size w wr) (fun _ i _ => q - (intOf i).toNat)
      case atStart => exact ⟨0, Nat.zero_le _, rfl, rfl, B, Xr, hw⟩
      case round =>
        clear B0 B1 B Xr hw hlt2
        obtain ⟨k, hk, rfl, rfl, B, Xr, hw⟩ := hrel
        have B0 := B.c0
        have B1 := B.c1
        by_cases hlt : k < q
        · have hlt2 : (k : Int) < (l.length : Int) := by omega
          obtain ⟨bL, oL, hal, hbL, hcL⟩ := Xl (by omega)
          subst hal
          have L0 := hcL k (by omega)
          have Lr := (hw.cell (p := ⟨bL, oL + k, none⟩) hbL).trans L0
          obtain ⟨f1, f2, f3⟩ := rwN_facts ds l Fl q (by omega)
          clear hcL
          by_cases x0 : gt l k = 0
          · have hs : Hid (szN ds l (k + 1) = szN ds l k) := by unfold Hid; simp only [szN]; rw [x0, cL_zero, Nat.add_zero]
            rw [x0] at Lr
            clear L0
            go_wp2
            refine ⟨⟨k + 1, by omega, by go_num, ?_, B, Xr, hw⟩, by simp only [intOf]; omega⟩
            rw [hs.out]
          · have xz : ((gt l k : Int) == 0) = false := by simp; omega
            have rdd := rwN_read ds l Fl q k (by omega) hlt x0
            have RG : Hid (bt ds k = false → ∀ w0 : World, Wd w0 bo (rwN ds l q) → Calls Try.prog 10 #[.agg #[.int .i64 (szN ds l q), .slice bo (rwN ds l q).length bc], .int .i64 (szN ds l k)] w0 fun e w' => e = .returned (.tuple #[.int .u64 (gt l k), .int .i64 (szN ds l (k + 1)), .int .i64 0]) ∧ Below w0.heap.size w0 w') := fun hd w0 h => by
              have := gamma_c (szN ds l q) bo (rwN ds l q) bc (szN ds l k) w0 h f2
              rw [hd] at rdd
              have e1 : rdG (szN ds l q) (rwN ds l q) (szN ds l k : Int) = (gt l k, (szN ds l (k + 1) : Int), 0) := by simpa [rd] using rdd
              rw [e1] at this
              exact this
            have RA : Hid (∀ w0 : World, Wd w0 bo (rwN ds l q) → Calls Try.prog 10 #[.agg #[.int .i64 (szN ds l q), .slice bo (rwN ds l q).length bc], .int .i64 (szN ds l k)] w0 fun e w' => ∃ X1 A1 E1, e = .returned (.tuple #[.int .u64 X1, .int .i64 A1, .int .i64 E1]) ∧ Below w0.heap.size w0 w') := fun w0 h =>
              (gamma_c (szN ds l q) bo (rwN ds l q) bc (szN ds l k) w0 h f2).mono fun e w' ⟨h1, h2⟩ => ⟨_, _, _, h1, h2⟩
            have RD : Hid (bt ds k = true → ∀ w0 : World, Wd w0 bo (rwN ds l q) → Calls Try.prog 11 #[.agg #[.int .i64 (szN ds l q), .slice bo (rwN ds l q).length bc], .int .i64 (szN ds l k)] w0 fun e w' => e = .returned (.tuple #[.int .u64 (gt l k), .int .i64 (szN ds l (k + 1)), .int .i64 0]) ∧ Below w0.heap.size w0 w') := fun hd w0 h => by
              have := delta_c (szN ds l q) bo (rwN ds l q) bc (szN ds l k) w0 h f2
              rw [hd] at rdd
              have e1 : rdD (szN ds l q) (rwN ds l q) (szN ds l k : Int) = (gt l k, (szN ds l (k + 1) : Int), 0) := by simpa [rd] using rdd
              rw [e1] at this
              exact this
            clear rdd
            have DD : (¬ k < ds.length ∧ bt ds k = false) ∨ (∃ bD oD, ad = some ⟨bD, oD, none⟩ ∧ k < ds.length ∧ bD < w.heap.size ∧ w.cell? ⟨bD, oD + k, none⟩ = some (.bool (bt ds k))) := by
              by_cases h : k < ds.length
              · obtain ⟨bD, oD, e, hb, hc⟩ := bl_cell Xds k h
                exact .inr ⟨bD, oD, e, h, hb, hc⟩
              · exact .inl ⟨h, bt_out ds k h⟩
            generalize hS1 : szN ds l (k + 1) = S1 at *
            have hq1 : Hid (szN ds l (k + 1) = S1) := hS1
            clear hS1
            generalize szN ds l q = SN at *
            generalize rwN ds l q = RN at *
            generalize gt l k = x at *
            rcases DD with ⟨hD, hdd⟩ | ⟨bD, oD, had, hD, hbD, hcD⟩
            · have hlen : ¬ (k : Int) < (ds.length : Int) := by omega
              go_wp2_with fail
              refine (RG.out hdd _ Xr).mono ?_
              rintro e wa ⟨rfl, hb⟩
              clear B0 B1 Lr
              replace B := B.keep hb
              replace Xr := Xr.keep hb
              replace hw := hw.trans (hb.mono hw.size)
              clear hb
              have B0 := B.c0
              have B1 := B.c1
              have Lr := (hw.cell (p := ⟨bL, oL + k, none⟩) hbL).trans L0
              clear L0 RG RA RD
              go_wp2
              refine ⟨⟨k + 1, by omega, by go_num, ?_, B, Xr, hw⟩, by simp only [intOf]; omega⟩
              rw [hq1.out]
            · subst had
              have hlen : (k : Int) < (ds.length : Int) := by omega
              cases hdd : bt ds k with
              | false =>
                rw [hdd] at hcD
                go_wp2_with fail
                refine (RG.out hdd _ Xr).mono ?_
                rintro e wa ⟨rfl, hb⟩
                clear B0 B1 Lr
                replace B := B.keep hb
                replace Xr := Xr.keep hb
                replace hw := hw.trans (hb.mono hw.size)
                clear hb
                have B0 := B.c0
                have B1 := B.c1
                have Lr := (hw.cell (p := ⟨bL, oL + k, none⟩) hbL).trans L0
                have Dr := (hw.cell (p := ⟨bD, oD + k, none⟩) hbD).trans hcD
                clear L0 RG RA RD
                go_wp2
                refine ⟨⟨k + 1, by omega, by go_num, ?_, B, Xr, hw⟩, by simp only [intOf]; omega⟩
                rw [hq1.out]
              | true =>
                rw [hdd] at hcD
                go_wp2_with fail
                refine (RA.out _ Xr).mono ?_
                rintro e wa ⟨X1, A1, E1, rfl, hb⟩
                clear B0 B1 Lr
                replace B := B.keep hb
                replace Xr := Xr.keep hb
                replace hw := hw.trans (hb.mono hw.size)
                clear hb
                have B0 := B.c0
                have B1 := B.c1
                have Lr := (hw.cell (p := ⟨bL, oL + k, none⟩) hbL).trans L0
                have Dr := (hw.cell (p := ⟨bD, oD + k, none⟩) hbD).trans hcD
                go_wp2_with fail
                refine (RD.out hdd _ Xr).mono ?_
                rintro e wb ⟨rfl, hb⟩
                clear B0 B1 Lr Dr
                replace B := B.keep hb
                replace Xr := Xr.keep hb
                replace hw := hw.trans (hb.mono hw.size)
                clear hb
                have B0 := B.c0
                have B1 := B.c1
                have Lr := (hw.cell (p := ⟨bL, oL + k, none⟩) hbL).trans L0
                have Dr := (hw.cell (p := ⟨bD, oD + k, none⟩) hbD).trans hcD
                clear L0 RG RA RD
                go_wp2
                refine ⟨⟨k + 1, by omega, by go_num, ?_, B, Xr, hw⟩, by simp only [intOf]; omega⟩
                rw [hq1.out]
        · obtain rfl : k = q := by omega
          have hlt2 : ¬ (k : Int) < (l.length : Int) := by omega
          clear hlt
          go_wp2_with fail
          refine (heads_c _).mono ?_
          rintro e wz ⟨rfl, hb⟩
          replace hw := hw.trans (hb.mono hw.size)
          go_wp2
          go_ret
          exact ⟨rfl, hw⟩

theorem lifted (os : Os) (started : os.Started) (H : Type) (enc : TypeId × Value → H) :
    ReturnsInHanded {} Try.checked os 5 .any (Rows.streamBackSpec.pre6 enc Try.prog Try.f5 Rows.streamBackRow.domain false) (Rows.streamBackSpec.post enc Try.prog Try.f5 false true false false) := by
  refine returnsInHanded_of_change (C := Try.checked) own started (by kernel_rfl) Try.func5
    (ChangeSpec.witness6 (enc := enc) (C := Try.checked) false ⟨#[], #[.slice none 0 0, .slice none 0 0], []⟩ 8 (by kernel_rfl) (by kernel_rfl) (by kernel_rfl) (by kernel_rfl)) ?_
  intro W base args ds gs before hval0 hW hcnd _
  have hval : ∀ (j : Nat) t v, Try.f5.params[j]? = some t → args[j]? = some v → Value.okWide Try.prog W .any base t v := hval0
  have hW' := hW
  obtain ⟨p, q, hA0, hV, rfl, hfz, hnd⟩ := hW
  have hA : DataW.TrodAll enc Try.prog W 0 (fun _ => true) true Try.f5.params.toList args.toList ds p := hA0
  rw [Try.params5] at hA hval
  obtain ⟨v0, vs0, d0, ds0, p0, q0, hargs, rfl, rfl, h0, r0⟩ := trodAll_cons hA
  obtain ⟨v1, vs1, d1, ds1, p1, q1, rfl, rfl, rfl, h1, r1⟩ := trodAll_cons r0
  obtain ⟨rfl, rfl, rfl⟩ := trodAll_nil r1
  obtain rfl : args = #[v0, v1] := by cases args; simp_all
  obtain ⟨rfl, rfl⟩ := trodVars_none hV
  have k0 := h0
  have lt0 : ∀ x ∈ p0, x.block < W.heap.size := by obtain ⟨m, hm⟩ := k0; exact DataW.trod_lt m _ _ _ hm
  obtain ⟨al, l, cl, rfl, bl1, bl2, bl3⟩ := open_u64s (hval 0 22 v0 rfl rfl) h0
  have k1 := h1
  have lt1 : ∀ x ∈ p1, x.block < W.heap.size := by obtain ⟨m, hm⟩ := k1; exact DataW.trod_lt m _ _ _ hm
  obtain ⟨ads, ds, cds, rfl, bds1⟩ := open_bl (hval 1 43 v1 rfl rfl) h1
  clear hA0 hval0
  refine (walk W al l cl bl1 bl2 bl3 ads ds cds bds1).mono fun e W' ⟨he, bel⟩ => ?_
  subst he
  exact ⟨_, rfl, _, _, _, [], _, [], hW', trodAll_mk1 (shut_bool Try.underlying4 _), (trodAll_cons_mk (Below.trod laidOut (by kernel_rfl) (of_decide_eq_true (by kernel_rfl)) k0 bel lt0) (trodAll_cons_mk (Below.trod laidOut (by kernel_rfl) (of_decide_eq_true (by kernel_rfl)) k1 bel lt1) trodAll_mk0)), rfl, bel.frame _, fun h => by cases h⟩

theorem over : Rows.streamBackRow.holds Try.pinned (OpenSpec.ofChange Rows.streamBackSpec) :=
  OpenClaim.holds_of_wide 5 Try.f5 rfl rfl rfl rfl rfl rfl rfl ⟨rfl, rfl, rfl, rfl, rfl⟩ rfl rfl rfl rfl rfl (by kernel_rfl) Try.func5 (by kernel_rfl)
    (of_decide_eq_true (by kernel_rfl)) (by unfold Func.isWrapper; first | (rw [if_pos (by decide +kernel)]; kernel_rfl) | (rw [if_neg (by decide +kernel)]; exact ⟨rfl, rfl⟩))
    (fun os started H enc _ => lifted os started H enc)

theorem proved : Rows.StreamBackSaid := over
end Go.Proofs.Ytmdmjbpehbjgpaa.streamBack
namespace Go.Proofs.Ytmdmjbpehbjgpaa
theorem streamBack_holds : Rows.StreamBackSaid := streamBack.proved
#print axioms streamBack_holds
end Go.Proofs.Ytmdmjbpehbjgpaa
