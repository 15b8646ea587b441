/-
  The contracts of the document's Access, Rank and Select.
-/
import Derived.Test.YtcgnphffjfffgaaRd8
namespace Go.Proofs.Ytcgnphffjfffgaa
open Go.RowKit Num Bit
set_option linter.unusedVariables false
set_option linter.unusedSimpArgs false
set_option maxRecDepth 100000

set_option maxHeartbeats 2000000 in
theorem raccess_c (N : Int) (ao : Option Addr) (xs : List Nat) (cap : Nat) (so : Option Addr) (su : List Int) (sc : Nat) (tO : Option Addr) (sb : List Int) (tc : Nat) (i : Int) (w : World) (hx : Wd w ao xs) (hf : Fit xs) (hcap : xs.length ≤ cap) (s1 : Nd w so su) (sl : su.length ≤ 1048576) (t1 : Nd w tO sb) (tl : sb.length ≤ 1048576) :
    Calls Try.prog 17 #[.agg #[.int .i64 N, .slice ao xs.length cap, .slice so su.length sc, .slice tO sb.length tc], .int .i64 i] w fun e w' => e = .returned (.tuple #[.bool (paB N xs su sb i), .int .i64 (paE N xs su sb i)]) ∧ Below w.heap.size w w' := by
  obtain ⟨W, hW⟩ : ∃ W, W = w.alloc (.cells #[.int .i64 N, .slice ao xs.length cap, .slice so su.length sc, .slice tO sb.length tc] 29) := ⟨_, rfl⟩
  have bW : Below w.heap.size w W := by rw [hW]; exact below_alloc w _
  have C1 : Hid (∀ w0, w0 = W → Calls Try.prog 37 #[.agg #[.int .i64 N, .slice ao xs.length cap, .slice so su.length sc, .slice tO sb.length tc]] w0 fun e w' => e = .returned (.tuple #[.agg #[.int .i64 (piN N xs su sb), .slice (piA N xs su sb ao) (piX N xs su sb).length (piC N xs su sb cap)], .bool (pchk N xs su sb)]) ∧ Below w0.heap.size w0 w') := fun w0 h => by
    subst h
    exact rwhole_c N ao xs cap so su sc tO sb tc w0 (hx.keep bW) hf hcap (s1.keep bW) sl (t1.keep bW) tl
  unfold piN piX piA piC at C1
  obtain ⟨P1, hP1⟩ : ∃ P : Bool, Hid (P = paB N xs su sb i) := ⟨paB N xs su sb i, (rfl : paB N xs su sb i = paB N xs su sb i)⟩
  obtain ⟨P2, hP2⟩ : ∃ P : Int, Hid (P = paE N xs su sb i) := ⟨paE N xs su sb i, (rfl : paE N xs su sb i = paE N xs su sb i)⟩
  rw [← hP1.out, ← hP2.out]
  cases hk : pchk N xs su sb with
  | false =>
    rw [hk] at C1
    have E : Hid (P1 = false ∧ P2 = 2) := by
      show _ ∧ _
      rw [hP1.out, hP2.out]
      unfold paB paE
      rw [hk]
      exact ⟨rfl, rfl⟩
    go_enter Try.func17, Try.ntmps17
    go_wp2_with fail
    rw [← hW]
    refine (C1.out _ rfl).mono ?_
    rintro e w1 ⟨rfl, hb⟩
    have bw1 := bW.trans (hb.mono bW.size)
    go_wp2
    go_ret2
    rw [E.out.1, E.out.2]
    exact ⟨rfl, bw1.alloc bw1.size _⟩
  | true =>
    rw [hk] at C1
    have E : Hid (P1 = getB N xs i ∧ P2 = getE N xs i) := by
      show _ ∧ _
      rw [hP1.out, hP2.out]
      unfold paB paE
      rw [hk]
      exact ⟨rfl, rfl⟩
    have C2 : Hid (∀ w0, Below w.heap.size w w0 → Calls Try.prog 38 #[.agg #[.int .i64 N, .slice ao xs.length cap], .int .i64 i] w0 fun e w' => e = .returned (.tuple #[.bool P1, .int .i64 P2]) ∧ Below w0.heap.size w0 w') := fun w0 h => by
      rw [E.out.1, E.out.2]
      exact refget_c N ao xs cap i w0 (hx.keep h) hf
    go_enter Try.func17, Try.ntmps17
    go_wp2_with fail
    rw [← hW]
    refine (C1.out _ rfl).mono ?_
    rintro e w1 ⟨rfl, hb⟩
    have bw1 := bW.trans (hb.mono bW.size)
    clear hb C1
    have bA := below_alloc w1 (.cells #[.int .i64 N, .slice ao xs.length cap] 24)
    have bw2 := bw1.trans (bA.mono bw1.size)
    go_wp2_with fail
    refine (C2.out _ bw2).mono ?_
    rintro e w2 ⟨rfl, hb2⟩
    have bw3 := bw2.trans (hb2.mono bw2.size)
    go_wp2
    go_ret2
    exact ⟨rfl, bw3⟩

theorem onesI_in (N : Int) (xs : List Nat) (i : Nat) (hk : chk N xs = true) (hi : (i : Int) ≤ N) : onesI N xs i = (cntB xs i : Int) := by
  unfold onesI
  rw [hk, show min (i : Int) N = (i : Int) by omega, Int.toNat_natCast]
  rfl

set_option maxHeartbeats 2000000 in
theorem rrank_c (N : Int) (ao : Option Addr) (xs : List Nat) (cap : Nat) (so : Option Addr) (su : List Int) (sc : Nat) (tO : Option Addr) (sb : List Int) (tc : Nat) (bit : Bool) (i : Int) (w : World) (hx : Wd w ao xs) (hf : Fit xs) (hcap : xs.length ≤ cap) (s1 : Nd w so su) (sl : su.length ≤ 1048576) (t1 : Nd w tO sb) (tl : sb.length ≤ 1048576) :
    Calls Try.prog 18 #[.agg #[.int .i64 N, .slice ao xs.length cap, .slice so su.length sc, .slice tO sb.length tc], .bool bit, .int .i64 i] w fun e w' => e = .returned (.tuple #[.int .i64 (prN N xs su sb bit i), .int .i64 (prE N xs su sb i)]) ∧ Below w.heap.size w w' := by
  obtain ⟨W, hW⟩ : ∃ W, W = w.alloc (.cells #[.int .i64 N, .slice ao xs.length cap, .slice so su.length sc, .slice tO sb.length tc] 29) := ⟨_, rfl⟩
  have bW : Below w.heap.size w W := by rw [hW]; exact below_alloc w _
  have C1 : Hid (∀ w0, w0 = W → Calls Try.prog 37 #[.agg #[.int .i64 N, .slice ao xs.length cap, .slice so su.length sc, .slice tO sb.length tc]] w0 fun e w' => e = .returned (.tuple #[.agg #[.int .i64 (piN N xs su sb), .slice (piA N xs su sb ao) (piX N xs su sb).length (piC N xs su sb cap)], .bool (pchk N xs su sb)]) ∧ Below w0.heap.size w0 w') := fun w0 h => by
    subst h
    exact rwhole_c N ao xs cap so su sc tO sb tc w0 (hx.keep bW) hf hcap (s1.keep bW) sl (t1.keep bW) tl
  unfold piN piX piA piC at C1
  obtain ⟨P1, hP1⟩ : ∃ P : Int, Hid (P = prN N xs su sb bit i) := ⟨prN N xs su sb bit i, (rfl : prN N xs su sb bit i = prN N xs su sb bit i)⟩
  obtain ⟨P2, hP2⟩ : ∃ P : Int, Hid (P = prE N xs su sb i) := ⟨prE N xs su sb i, (rfl : prE N xs su sb i = prE N xs su sb i)⟩
  rw [← hP1.out, ← hP2.out]
  cases hk : pchk N xs su sb with
  | false =>
    rw [hk] at C1
    have E : Hid (P1 = 0 ∧ P2 = 2) := by
      show _ ∧ _
      rw [hP1.out, hP2.out]
      unfold prN prE
      rw [hk]
      exact ⟨rfl, rfl⟩
    go_enter Try.func18, Try.ntmps18
    go_wp2_with fail
    rw [← hW]
    refine (C1.out _ rfl).mono ?_
    rintro e w1 ⟨rfl, hb⟩
    have bw1 := bW.trans (hb.mono bW.size)
    go_wp2
    go_ret2
    rw [E.out.1, E.out.2]
    exact ⟨rfl, bw1.alloc bw1.size _⟩
  | true =>
    rw [hk] at C1
    obtain ⟨hck, -, -⟩ := pchk_out N xs su sb hk
    obtain ⟨h0, h1, -, -⟩ := chk_out N xs hck
    by_cases hi : i < 0
    · have E : Hid (P1 = 0 ∧ P2 = 3) := by
        show _ ∧ _
        have e2 : prE N xs su sb i = 3 := by unfold prE; rw [hk, if_pos rfl, if_pos (.inl hi)]
        rw [hP1.out, hP2.out]
        unfold prN
        rw [e2]
        exact ⟨rfl, rfl⟩
      go_enter Try.func18, Try.ntmps18
      go_wp2_with fail
      rw [← hW]
      refine (C1.out _ rfl).mono ?_
      rintro e w1 ⟨rfl, hb⟩
      have bw1 := bW.trans (hb.mono bW.size)
      clear hb C1
      have bA := below_alloc w1 (.cells #[.int .i64 N, .slice ao xs.length cap] 24)
      have bw2 := bw1.trans (bA.mono bw1.size)
      go_wp2
      go_ret2
      rw [E.out.1, E.out.2]
      exact ⟨rfl, bw2⟩
    by_cases hi2 : N < i
    · have E : Hid (P1 = 0 ∧ P2 = 3) := by
        show _ ∧ _
        have e2 : prE N xs su sb i = 3 := by unfold prE; rw [hk, if_pos rfl, if_pos (.inr hi2)]
        rw [hP1.out, hP2.out]
        unfold prN
        rw [e2]
        exact ⟨rfl, rfl⟩
      go_enter Try.func18, Try.ntmps18
      go_wp2_with fail
      rw [← hW]
      refine (C1.out _ rfl).mono ?_
      rintro e w1 ⟨rfl, hb⟩
      have bw1 := bW.trans (hb.mono bW.size)
      clear hb C1
      have bA := below_alloc w1 (.cells #[.int .i64 N, .slice ao xs.length cap] 24)
      have bw2 := bw1.trans (bA.mono bw1.size)
      go_wp2
      go_ret2
      rw [E.out.1, E.out.2]
      exact ⟨rfl, bw2⟩
    have E : Hid (P1 = (cB xs bit i.toNat : Int) ∧ P2 = 0) := by
      show _ ∧ _
      have e2 : prE N xs su sb i = 0 := by unfold prE; rw [hk, if_pos rfl, if_neg (by omega)]
      rw [hP1.out, hP2.out]
      unfold prN
      rw [e2]
      exact ⟨rfl, rfl⟩
    obtain ⟨k, rfl⟩ := Int.eq_ofNat_of_zero_le (show 0 ≤ i by omega)
    have hc := cntB_le xs k
    have C2 : Hid (∀ w0, Below w.heap.size w w0 → Calls Try.prog 35 #[.agg #[.int .i64 N, .slice ao xs.length cap], .int .i64 k] w0 fun e w' => e = .returned (.int .i64 (cntB xs k)) ∧ Below w0.heap.size w0 w') := fun w0 h => by
      have := refones_c N ao xs cap k w0 (hx.keep h) hf
      rw [onesI_in N xs k hck (by omega)] at this
      exact this
    rw [Int.toNat_natCast] at E
    cases bit with
    | true =>
      rw [show cB xs true k = cntB xs k from rfl] at E
      generalize cntB xs k = Z at *
      go_enter Try.func18, Try.ntmps18
      go_wp2_with fail
      rw [← hW]
      refine (C1.out _ rfl).mono ?_
      rintro e w1 ⟨rfl, hb⟩
      have bw1 := bW.trans (hb.mono bW.size)
      clear hb C1
      have bA := below_alloc w1 (.cells #[.int .i64 N, .slice ao xs.length cap] 24)
      have bw2 := bw1.trans (bA.mono bw1.size)
      go_wp2_with fail
      refine (C2.out _ bw2).mono ?_
      rintro e w2 ⟨rfl, hb2⟩
      have bw3 := bw2.trans (hb2.mono bw2.size)
      go_wp2
      go_ret2
      rw [E.out.1, E.out.2]
      exact ⟨rfl, bw3⟩
    | false =>
      rw [show cB xs false k = k - cntB xs k from rfl] at E
      generalize cntB xs k = Z at *
      have eZ : Hid (((k - Z : Nat) : Int) = (k : Int) - (Z : Int)) := by show ((k - Z : Nat) : Int) = (k : Int) - (Z : Int); omega
      go_enter Try.func18, Try.ntmps18
      go_wp2_with fail
      rw [← hW]
      refine (C1.out _ rfl).mono ?_
      rintro e w1 ⟨rfl, hb⟩
      have bw1 := bW.trans (hb.mono bW.size)
      clear hb C1
      have bA := below_alloc w1 (.cells #[.int .i64 N, .slice ao xs.length cap] 24)
      have bw2 := bw1.trans (bA.mono bw1.size)
      go_wp2_with fail
      refine (C2.out _ bw2).mono ?_
      rintro e w2 ⟨rfl, hb2⟩
      have bw3 := bw2.trans (hb2.mono bw2.size)
      go_wp2
      go_ret2
      rw [E.out.1, E.out.2, eZ.out]
      exact ⟨rfl, bw3⟩

set_option maxHeartbeats 2000000 in
theorem rselect_c (N : Int) (ao : Option Addr) (xs : List Nat) (cap : Nat) (so : Option Addr) (su : List Int) (sc : Nat) (tO : Option Addr) (sb : List Int) (tc : Nat) (bit : Bool) (k : Int) (w : World) (hx : Wd w ao xs) (hf : Fit xs) (hcap : xs.length ≤ cap) (s1 : Nd w so su) (sl : su.length ≤ 1048576) (t1 : Nd w tO sb) (tl : sb.length ≤ 1048576) :
    Calls Try.prog 20 #[.agg #[.int .i64 N, .slice ao xs.length cap, .slice so su.length sc, .slice tO sb.length tc], .bool bit, .int .i64 k] w fun e w' => e = .returned (.tuple #[.int .i64 (psX N xs su sb bit k), .int .i64 (psE N xs su sb bit k)]) ∧ Below w.heap.size w w' := by
  obtain ⟨W, hW⟩ : ∃ W, W = w.alloc (.cells #[.int .i64 N, .slice ao xs.length cap, .slice so su.length sc, .slice tO sb.length tc] 29) := ⟨_, rfl⟩
  have bW : Below w.heap.size w W := by rw [hW]; exact below_alloc w _
  have C1 : Hid (∀ w0, w0 = W → Calls Try.prog 37 #[.agg #[.int .i64 N, .slice ao xs.length cap, .slice so su.length sc, .slice tO sb.length tc]] w0 fun e w' => e = .returned (.tuple #[.agg #[.int .i64 (piN N xs su sb), .slice (piA N xs su sb ao) (piX N xs su sb).length (piC N xs su sb cap)], .bool (pchk N xs su sb)]) ∧ Below w0.heap.size w0 w') := fun w0 h => by
    subst h
    exact rwhole_c N ao xs cap so su sc tO sb tc w0 (hx.keep bW) hf hcap (s1.keep bW) sl (t1.keep bW) tl
  unfold piN piX piA piC at C1
  obtain ⟨P1, hP1⟩ : ∃ P : Int, Hid (P = psX N xs su sb bit k) := ⟨psX N xs su sb bit k, (rfl : psX N xs su sb bit k = psX N xs su sb bit k)⟩
  obtain ⟨P2, hP2⟩ : ∃ P : Int, Hid (P = psE N xs su sb bit k) := ⟨psE N xs su sb bit k, (rfl : psE N xs su sb bit k = psE N xs su sb bit k)⟩
  rw [← hP1.out, ← hP2.out]
  cases hk : pchk N xs su sb with
  | false =>
    rw [hk] at C1
    have E : Hid (P1 = 0 ∧ P2 = 2) := by
      show _ ∧ _
      rw [hP1.out, hP2.out]
      unfold psX psE
      rw [hk]
      exact ⟨rfl, rfl⟩
    go_enter Try.func20, Try.ntmps20
    go_wp2_with fail
    rw [← hW]
    refine (C1.out _ rfl).mono ?_
    rintro e w1 ⟨rfl, hb⟩
    have bw1 := bW.trans (hb.mono bW.size)
    go_wp2
    go_ret2
    rw [E.out.1, E.out.2]
    exact ⟨rfl, bw1.alloc bw1.size _⟩
  | true =>
    rw [hk] at C1
    obtain ⟨hck, -, -⟩ := pchk_out N xs su sb hk
    obtain ⟨h0, h1, h2, -⟩ := chk_out N xs hck
    obtain ⟨m, rfl⟩ := Int.eq_ofNat_of_zero_le h0
    have E1 : ∀ o, pselO m xs bit k = o → P1 = ((o.getD 0 : Nat) : Int) ∧ P2 = (if o.isSome = true then (0 : Int) else 3) := fun o ho => by
      rw [hP1.out, hP2.out]
      unfold psX psE
      rw [hk, ho]
      exact ⟨rfl, rfl⟩
    have E : Hid (∀ o, pselO m xs bit k = o → P1 = ((o.getD 0 : Nat) : Int) ∧ P2 = (if o.isSome = true then (0 : Int) else 3)) := E1
    clear E1
    have HL : Hid (∀ j, j < m → j / 64 < xs.length) := fun j hj => by omega
    clear h2
    go_enter Try.func20, Try.ntmps20
    go_wp2_with fail
    rw [← hW]
    refine (C1.out _ rfl).mono ?_
    rintro e w1 ⟨rfl, hb⟩
    have bw1 := bW.trans (hb.mono bW.size)
    clear hb C1
    have bA := below_alloc w1 (.cells #[.int .i64 m, .slice ao xs.length cap] 24)
    have bw2 := bw1.trans (bA.mono bw1.size)
    have D0 := Cel.new w1 [.int .i64 m, .slice ao xs.length cap] 24
    go_wp2
    go_loopw [10, 11] (fun n i wr => ∃ q c : Nat, q ≤ m ∧ i = .int .i64 q ∧ n = .int .i64 c ∧ c ≤ q ∧ Hid (c = cB xs bit q) ∧ Hid (∀ j, j < q → here xs bit k j = false) ∧ Cel wr w1.heap.size [.int .i64 m, .slice ao xs.length cap] 24 ∧ Below w.heap.size w wr) (fun _ i _ => m - (intOf i).toNat)
    case atStart => exact ⟨0, 0, by omega, rfl, rfl, by omega, by show 0 = cB xs bit 0; have := cB_le xs bit 0; omega, fun j hj => absurd hj (by omega), D0, bw2⟩
    case round =>
      obtain ⟨q, c, hq, rfl, rfl, hcq, Hc, Hh, hD, hwr⟩ := hrel
      have r0 := hD.cell 0 rfl
      have r1 := hD.cell 1 rfl
      by_cases hlt : q < m
      · have hlt2 : (q : Int) < (m : Int) := by omega
        have C2 : Hid (∀ w0, Below w.heap.size w w0 → Calls Try.prog 40 #[.agg #[.int .i64 m, .slice ao xs.length cap], .int .i64 q] w0 fun e w' => e = .returned (.bool (bitAt xs q)) ∧ Below w0.heap.size w0 w') := fun w0 h => at_c m ao xs cap q w0 (hx.keep h) (HL.out q hlt) (by omega)
        go_wp2_with fail
        refine (C2.out _ hwr).mono ?_
        rintro e w2 ⟨rfl, hb2⟩
        have hw2 := hwr.trans (hb2.mono hwr.size)
        have hD2 := hD.kept hb2
        clear hb2 r0 r1
        by_cases hbit : bitAt xs q = bit
        · have nb : (bitAt xs q != bit) = false := by simp [hbit]
          by_cases hck2 : (c : Int) = k
          · have hh : here xs bit k q = true := by
              unfold here
              rw [← Hc.out]
              simp [hbit, hck2]
            have hs := psel_some m xs bit k q (by omega) hh
            have RS : Hid (P1 = (q : Int) ∧ P2 = 0) := E.out (some q) hs
            have ek : ((c : Int) == k) = true := by simp [hck2]
            clear hs hh
            go_wp2
            go_ret2
            rw [RS.out.1, RS.out.2]
            exact ⟨rfl, hw2⟩
          · have ek : ((c : Int) == k) = false := by simp [hck2]
            have hn : here xs bit k q = false := by
              unfold here
              rw [← Hc.out]
              simp [hck2]
            have Hc2 : Hid (c + 1 = cB xs bit (q + 1)) := by show c + 1 = cB xs bit (q + 1); rw [cB_succ, if_pos hbit, ← Hc.out]
            have Hh2 : Hid (∀ j, j < q + 1 → here xs bit k j = false) := fun j hj => by
              by_cases e : j = q
              · subst e; exact hn
              · exact Hh.out j (by omega)
            clear hn Hc Hh
            go_wp2
            exact ⟨⟨q + 1, c + 1, by omega, by go_num, by go_num, by omega, Hc2, Hh2, hD2, hw2⟩, by simp only [intOf]; omega⟩
        · have nb : (bitAt xs q != bit) = true := by simp [hbit]
          have nb2 : (bitAt xs q == bit) = false := by simp [hbit]
          have nb3 : (bitAt xs q ^^ bit) = true := by revert hbit; cases bitAt xs q <;> cases bit <;> simp
          have hn : here xs bit k q = false := by
            unfold here
            simp [hbit]
          have Hc2 : Hid (c = cB xs bit (q + 1)) := by show c = cB xs bit (q + 1); rw [cB_succ, if_neg hbit, ← Hc.out]; rfl
          have Hh2 : Hid (∀ j, j < q + 1 → here xs bit k j = false) := fun j hj => by
            by_cases e : j = q
            · subst e; exact hn
            · exact Hh.out j (by omega)
          clear hn Hc Hh
          go_wp2
          exact ⟨⟨q + 1, c, by omega, by go_num, rfl, by omega, Hc2, Hh2, hD2, hw2⟩, by simp only [intOf]; omega⟩
      · obtain rfl : q = m := by omega
        have hs : pselO q xs bit k = none := psel_none q xs bit k (fun i hi => Hh.out i (by rw [Int.toNat_natCast] at hi; exact hi))
        have RS : Hid (P1 = 0 ∧ P2 = 3) := E.out none hs
        clear hs
        go_wp2
        go_ret2
        rw [RS.out.1, RS.out.2]
        exact ⟨rfl, hwr⟩
end Go.Proofs.Ytcgnphffjfffgaa
