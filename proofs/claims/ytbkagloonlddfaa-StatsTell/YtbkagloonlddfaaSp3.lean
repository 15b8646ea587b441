/-
  The contract of the program's Entropy.
-/
import Derived.Test.YtbkagloonlddfaaSp1
import Derived.Test.YtbkagloonlddfaaSp2
import Derived.Test.YtbkagloonlddfaaSt3
namespace Go.Proofs.Ytbkagloonlddfaa
open Go.RowKit Num
set_option linter.unusedVariables false
set_option linter.unusedSimpArgs false
set_option maxRecDepth 100000

theorem sm_vl_le {l : List Int} (ho : ∀ i, i < 256 → 0 ≤ gi l i ∧ gi l i ≤ 65536) : ∀ n, n ≤ 256 → Lg.sm (Lg.vl l) n ≤ n * 65536
  | 0, _ => Nat.zero_le _
  | n + 1, hn => by
    have h1 := sm_vl_le ho n (by omega)
    have h2 := ho n (by omega)
    have h3 : Lg.vl l n ≤ 65536 := by unfold Lg.vl; omega
    rw [Lg.sm]
    omega
theorem lgI_le {x : Nat} (h : x ≤ 16777216) : lgI (x : Int) ≤ 1572864 := by
  by_cases h0 : x = 0
  · subst h0
    unfold lgI
    rw [if_neg (by omega)]
    omega
  · rw [lgI_in (by omega) (by omega)]
    exact Lg.lg_24 h0 h
/-- What a count needs, by the logarithms as the program has them. -/
theorem need_eq {c s : Nat} (h1 : c ≤ s) (h2 : s ≤ 16777216) : (c : Int) * (if (0 : Int) < (lgI (s : Int) : Int) - (lgI (c : Int) : Int) then (lgI (s : Int) : Int) - (lgI (c : Int) : Int) else 0) = ((c * (Lg.lg s - Lg.lg c) : Nat) : Int) := by
  by_cases h0 : c = 0
  · subst h0
    simp
  · rw [lgI_in (x := s) (by omega) (by omega), lgI_in (x := c) (by omega) (by omega), Int.natCast_mul]
    congr 1
    split <;> omega
set_option maxHeartbeats 8000000 in
theorem sent_c (ao : Option Addr) (l : List Int) (cap : Nat) (w : World) (hx : Nd w ao l) :
    Calls Try.prog 10 #[.slice ao l.length cap] w fun e w' => e = .returned (.int .i64 (Lg.enN l : Nat)) ∧ Below w.heap.size w w' := by
  by_cases h : l.length = 256
  · obtain ⟨b, off, rfl, hb0, hcc⟩ := hx (by omega)
    have HC := hide hcc
    rw [h] at HC ⊢
    by_cases ho : ∀ i, i < 256 → 0 ≤ gi l i ∧ gi l i ≤ 65536
    · have RE : Hid (Lg.enN l = Lg.enV (Lg.vl l)) := en_yes ⟨h, ho⟩
      have SB := sm_vl_le ho 256 (Nat.le_refl _)
      have C1 : Hid (Calls Try.prog 22 #[.slice (some ⟨b, off, none⟩) 256 cap, .func (.func 23) #[] #[]] w fun e w' => e = .returned (.bool false) ∧ w' = w) := scon_c b off cap l true w HC ⟨fun _ => ho, fun _ => rfl⟩
      have C2 := hide (ssum_c b off cap l w HC ho)
      have VC : Hid (∀ i, i < 256 → w.cell? ⟨b, off + i, none⟩ = some (.int .i64 (Lg.vl l i : Nat)) ∧ Lg.vl l i ≤ Lg.sm (Lg.vl l) 256) := fun i hi => by
        have h1 := hcc i (by omega)
        have h2 := ho i hi
        have e : ((Lg.vl l i : Nat) : Int) = gi l i := by unfold Lg.vl; omega
        rw [e]
        exact ⟨h1, Lg.v_le_sm (Lg.vl l) hi⟩
      have EB : Hid (∀ i, i ≤ 256 → Lg.en (Lg.vl l) (Lg.sm (Lg.vl l) 256) i ≤ 26388279066624) := fun i hi => by
        by_cases h0 : Lg.sm (Lg.vl l) 256 = 0
        · have z : ∀ n, n ≤ 256 → Lg.en (Lg.vl l) (Lg.sm (Lg.vl l) 256) n = 0 := by
            intro n
            induction n with
            | zero => intro _; rfl
            | succ n ih =>
              intro hn
              have := Lg.v_le_sm (Lg.vl l) (i := n) (n := 256) (by omega)
              rw [Lg.en, ih (by omega), show Lg.vl l n = 0 by omega, Nat.zero_mul]
          rw [z i hi]
          exact Nat.zero_le _
        · have h1 := Lg.en_le (Lg.vl l) (Lg.sm (Lg.vl l) 256) (by omega) h0 i
          have h2 := Lg.sm_mono (Lg.vl l) hi
          have h3 : Lg.sm (Lg.vl l) i * 1572864 ≤ 16777216 * 1572864 := Nat.mul_le_mul_right _ (by omega)
          omega
      have EV : Hid (Lg.enV (Lg.vl l) = (Lg.en (Lg.vl l) (Lg.sm (Lg.vl l) 256) 256 + 65535) / 65536) := rfl
      obtain ⟨s, hs⟩ : ∃ s, Hid (Lg.sm (Lg.vl l) 256 = s) := ⟨_, rfl⟩
      rw [hs.out] at SB C2 VC EB EV
      have SB : s ≤ 16777216 := by omega
      have C3 : Hid (∀ w0, Calls Try.prog 14 #[.int .i64 (s : Int)] w0 fun e w' => e = .returned (.int .i64 (lgI (s : Int) : Nat)) ∧ Below w0.heap.size w0 w') := fun w0 => slog_c (s : Int) (by omega) w0
      have LS := lgI_le SB
      clear hx hcc ho HC h hs
      go_enter Try.func10, Try.ntmps10
      go_wp2_with fail
      refine C1.out.mono ?_
      rintro e w1 ⟨rfl, rfl⟩
      go_wp2_with fail
      refine C2.out.mono ?_
      rintro e w1 ⟨rfl, rfl⟩
      go_wp2_with fail
      refine (C3.out _).mono ?_
      rintro e wo ⟨rfl, hbo⟩
      have HBO := hide hbo
      clear C1 C2 C3 hbo
      go_wp2
      go_loopw [4, 19] (fun v4 v19 wr => ∃ q u : Nat, q ≤ 256 ∧ u ≤ 26388279066624 ∧ v4 = .int .i64 u ∧ v19 = .int .i64 q ∧ Hid (u = Lg.en (Lg.vl l) s q) ∧ Hid (Below w1.heap.size w1 wr)) (fun _ v19 _ => 256 - (intOf v19).toNat)
      case atStart => exact ⟨0, 0, Nat.zero_le _, Nat.zero_le _, rfl, rfl, rfl, HBO⟩
      case round =>
        clear HBO
        obtain ⟨q, u, hq, hu, rfl, rfl, HU, HB⟩ := hrel
        by_cases hlt : q < 256
        · have hltz : (q : Int) < 256 := by omega
          obtain ⟨v1, v2⟩ := VC.out q hlt
          have e1 := (HB.out.cell (p := ⟨b, off + q, none⟩) hb0).trans v1
          have ET : Hid (Lg.en (Lg.vl l) s (q + 1) = u + Lg.vl l q * (Lg.lg s - Lg.lg (Lg.vl l q))) := by rw [HU.out]; rfl
          have EB1 := EB.out (q + 1) (by omega)
          clear HU v1
          generalize Lg.vl l q = c at *
          have NE := hide (need_eq v2 SB)
          have LC := lgI_le (x := c) (by omega)
          have L2 : Hid (∀ w0, Calls Try.prog 14 #[.int .i64 (c : Int)] w0 fun e w' => e = .returned (.int .i64 (lgI (c : Int) : Nat)) ∧ Below w0.heap.size w0 w') := fun w0 => slog_c (c : Int) (by omega) w0
          rw [ET.out] at EB1
          generalize lgI (s : Int) = A at *
          generalize lgI (c : Int) = D at *
          obtain ⟨m, hm⟩ : ∃ m, c * (Lg.lg s - Lg.lg c) = m := ⟨_, rfl⟩
          rw [hm] at EB1 ET NE
          clear hm EB
          go_wp2_with fail
          refine (L2.out _).mono ?_
          rintro e w2 ⟨rfl, hb2⟩
          have HB2 := hide (HB.out.trans (hb2.mono HB.out.size))
          clear hb2 HB L2 e1
          by_cases hd : (0 : Int) < (A : Int) - (D : Int)
          · have NE2 := NE.out
            rw [if_pos hd] at NE2
            have hd2 : ¬ (A : Int) - (D : Int) < 0 := by omega
            go_wp2
            exact ⟨⟨q + 1, u + m, by omega, EB1, by go_num, by go_num, ET.out.symm, HB2⟩, by simp only [intOf]; omega⟩
          · have NE2 := NE.out
            rw [if_neg hd] at NE2
            go_wp2
            exact ⟨⟨q + 1, u + m, by omega, EB1, by go_num, by go_num, ET.out.symm, HB2⟩, by simp only [intOf]; omega⟩
        · obtain rfl : q = 256 := by omega
          have RR : Hid ((Lg.enN l : Int) = ((u : Int) + 65535) / 65536) := by
            show _ = _
            rw [RE.out, EV.out, ← HU.out]
            omega
          go_wp2
          go_ret
          exact ⟨congrArg (fun z : Int => Ending.returned (.int .i64 z)) (by rw [RR.out]; omega), HB.out⟩
    · have R := hide (en_no (l := l) fun g => ho g.2)
      have C1 : Hid (Calls Try.prog 22 #[.slice (some ⟨b, off, none⟩) 256 cap, .func (.func 23) #[] #[]] w fun e w' => e = .returned (.bool true) ∧ w' = w) := scon_c b off cap l false w HC ⟨fun h => Bool.noConfusion h, fun h => absurd h ho⟩
      clear hx hcc ho HC h
      go_enter Try.func10, Try.ntmps10
      go_wp2_with fail
      refine C1.out.mono ?_
      rintro e w1 ⟨rfl, rfl⟩
      go_wp2
      go_ret
      rw [R.out]
      exact ⟨rfl, Below.refl _ _⟩
  · have R := hide (en_no (l := l) fun g => h g.1)
    have h2 : ((l.length : Int) == 256) = false := by simp; omega
    clear hx
    generalize l.length = n at *
    go_enter Try.func10, Try.ntmps10
    go_wp2
    go_ret
    rw [R.out]
    exact ⟨rfl, Below.refl _ _⟩
end Go.Proofs.Ytbkagloonlddfaa
