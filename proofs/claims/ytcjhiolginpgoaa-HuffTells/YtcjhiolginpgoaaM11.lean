/-
  The contract of the stable sort. The contracts of the calls of package bits that only read: Check, Get, Ones, Slice, and small of the law. The contracts of the document's Numbers and Same. The contracts of the program's within and of what it calls. The contract of the program's lay: the symbols that stand, sorted. The contract of the function that takes the least thing.
-/
import Derived.Test.YtcjhiolginpgoaaM10
import Derived.Test.YtcjhiolginpgoaaM02
import Derived.Deep.QuietTactic
import Derived.BigQuiet
import Derived.Deep.DrawnRows
import Derived.Test.YtcjhiolginpgoaaM04
import Derived.Test.YtcjhiolginpgoaaM05
namespace Go.Proofs.Ytcjhiolginpgoaa
open Go.RowKit
set_option linter.unusedVariables false
set_option linter.unusedSimpArgs false
set_option maxRecDepth 100000

set_option maxHeartbeats 8000000 in
theorem jstab_c (g L cap : Nat) (f : Nat → T4) (w : World) (hT : TH w g f) (h4 : L ≤ 511) (cr : ∀ p q, p < q → q < L → Sx.Cr cT ltT (f p) (f q)) :
    Calls Try.prog 52 #[.slice (some ⟨g, 0, none⟩) L cap, .int .i64 L, .func (.func 40) #[] #[]] w fun e w' => e = .returned (.tuple #[]) ∧ SO g w (fun f' => Sx.Im 0 L f f' ∧ Sx.Up ltT 0 L f') w' := by
  have HT := hide hT
  have CR := hide cr
  have CI : Hid (∀ (F : Nat → T4) (w0 : World) (x y : Int) (p q : Nat), x = (p : Nat) → y = (q : Nat) → TH w0 g F → p ≤ q → q ≤ L → (∀ i j, p ≤ i → i < j → j < q → Sx.Cr cT ltT (F i) (F j)) → Calls Try.prog 55 #[.slice (some ⟨g, 0, none⟩) L cap, .int .i64 x, .int .i64 y, .func (.func 40) #[] #[]] w0 fun e w' => e = .returned (.tuple #[]) ∧ SO g w0 (fun f' => Sx.Im p q F f' ∧ Sx.Up ltT p q f') w') := fun F w0 x y p q e1 e2 hF g1 g2 c => by
    subst e1 e2
    exact jins_c g L cap p q F w0 hF g1 g2 h4 c
  have CS : Hid (∀ (F : Nat → T4) (w0 : World) (x y z : Int) (p q t : Nat), x = (p : Nat) → y = (q : Nat) → z = (t : Nat) → TH w0 g F → p < q → q < t → t ≤ L → Sx.Mg cT ltT p q t F → Calls Try.prog 56 #[.slice (some ⟨g, 0, none⟩) L cap, .int .i64 x, .int .i64 y, .int .i64 z, .func (.func 40) #[] #[]] w0 fun e w' => e = .returned (.tuple #[]) ∧ SO g w0 (fun f' => Sx.Im p t F f' ∧ Sx.Up ltT p t f') w') := fun F w0 x y z p q t e1 e2 e3 hF g1 g2 g3 M => jsym_k g L cap h4 (t - p) F w0 x y z p q t e1 e2 e3 (Nat.le_refl _) hF g1 g2 g3 M
  clear hT cr
  go_enter Try.func52, Try.ntmps52
  go_wp2
  go_loopw [7, 8] (fun va vb wr => ∃ (a b : Nat) (F : Nat → T4), a ≤ L ∧ Hid (b = a + 20) ∧ b ≤ 531 ∧ va = .int .i64 a ∧ vb = .int .i64 b ∧ Hid (TH wr g F) ∧ Hid (Bar g w wr) ∧ Hid (Sx.Bf ltT 20 L a f F)) (fun va _ _ => L - (intOf va).toNat)
  case atStart => exact ⟨0, 20, f, by omega, rfl, by omega, rfl, rfl, HT, Bar.refl _ _, Sx.Bf.start _ _ _ _⟩
  case round =>
    obtain ⟨a, b, F, haL, Hb, hb5, rfl, rfl, HH, HB, HI⟩ := hrel
    clear HT
    by_cases hlt : b ≤ L
    · have hltz : (b : Int) ≤ (L : Int) := by omega
      have Hcr : Hid (∀ i j, a ≤ i → i < j → j < b → Sx.Cr cT ltT (F i) (F j)) := fun i j g1 g2 g3 => by
        rw [HI.out.out i g1, HI.out.out j (by omega)]
        exact CR.out i j g2 (by omega)
      go_wp2_with fail
      refine (CI.out F _ _ _ a b rfl rfl HH.out (by have := Hb.out; omega) hlt Hcr.out).mono ?_
      rintro e w1 ⟨rfl, f', hT', hP, hB⟩
      have HT1 := hide hT'
      have HB1 := hide (HB.out.trans hB)
      have HI1 : Hid (Sx.Bf ltT 20 L b f f') := by
        have e := Hb.out
        rw [e] at hP hlt ⊢
        exact HI.out.step (by omega) hlt hP.1 hP.2
      have hab : a < b := by have := Hb.out; omega
      clear hT' hB hP HI Hcr
      go_wp2
      exact ⟨⟨b, b + 20, f', by omega, rfl, by omega, rfl, by go_num, HT1, HB1, HI1⟩, by simp only [intOf]; omega⟩
    · have hltz : ¬ (b : Int) ≤ (L : Int) := by omega
      have Hcr : Hid (∀ i j, a ≤ i → i < j → j < L → Sx.Cr cT ltT (F i) (F j)) := fun i j g1 g2 g3 => by
        rw [HI.out.out i g1, HI.out.out j (by omega)]
        exact CR.out i j g2 (by omega)
      go_wp2_with fail
      refine (CI.out F _ _ _ a L rfl rfl HH.out haL (Nat.le_refl _) Hcr.out).mono ?_
      rintro e w1 ⟨rfl, f', hT', hP, hB⟩
      have HT1 := hide hT'
      have HB1 := hide (HB.out.trans hB)
      have HI1 : Hid (Sx.Bk ltT 20 L f f') := HI.out.last (by omega) (by have := Hb.out; omega) haL hP.1 hP.2
      clear hT' hB hP HI Hcr Hb HH HB
      go_wp2
      go_loopw [6] (fun vs wr => ∃ (s : Nat) (F : Nat → T4), 0 < s ∧ s ≤ 1100 ∧ vs = .int .i64 s ∧ Hid (TH wr g F) ∧ Hid (Bar g w wr) ∧ Hid (Sx.Bk ltT s L f F)) (fun vs _ => 2048 - (intOf vs).toNat)
      case atStart => exact ⟨20, f', by omega, by omega, rfl, HT1, HB1, HI1⟩
      case round =>
        clear HT1 HB1 HI1
        obtain ⟨s, F, hs0, hs1, rfl, HH, HB, HI⟩ := hrel
        by_cases hsL : s < L
        · have hsz : (s : Int) < (L : Int) := by omega
          have HI0 := hide HI.out.round
          clear HI
          go_wp2
          go_loopw [7, 8] (fun va vb wr => ∃ (a b : Nat) (F : Nat → T4), a ≤ L ∧ Hid (b = a + 2 * s) ∧ b ≤ 2000 ∧ va = .int .i64 a ∧ vb = .int .i64 b ∧ Hid (TH wr g F) ∧ Hid (Bar g w wr) ∧ Hid (Sx.Br ltT s L a f F)) (fun va _ _ => L - (intOf va).toNat)
          case atStart => exact ⟨0, 2 * s, F, by omega, by show _ = _; omega, by omega, rfl, by go_num, HH, HB, HI0⟩
          case round =>
            clear HI0 HH HB
            obtain ⟨a, b, F, haL, Hb, hb5, rfl, rfl, HH, HB, HI⟩ := hrel
            have hb6 := Hb.out
            by_cases hlt : b ≤ L
            · have hltz : (b : Int) ≤ (L : Int) := by omega
              have HM := hide (HI.out.mg (b := b) hs0 (by omega) (by omega) CR.out)
              have k1 : a < a + s := by omega
              have k2 : a + s < b := by omega
              have k3 : a < b := by omega
              clear hb6
              go_wp2_with fail
              refine (CS.out F _ _ _ _ a (a + s) b (by omega) (by omega) (by omega) HH.out k1 k2 hlt HM.out).mono ?_
              rintro e w1 ⟨rfl, f', hT', hP, hB⟩
              have HT1 := hide hT'
              have HB1 := hide (HB.out.trans hB)
              have HI1 : Hid (Sx.Br ltT s L b f f') := by
                have e := Hb.out
                rw [e] at hP hlt ⊢
                exact HI.out.step hs0 hlt hP.1 hP.2
              clear hT' hB hP HI HM
              go_wp2
              exact ⟨⟨b, b + 2 * s, f', by omega, rfl, by omega, rfl, by go_num, HT1, HB1, HI1⟩, by simp only [intOf]; omega⟩
            · have hltz : ¬ (b : Int) ≤ (L : Int) := by omega
              by_cases hm : a + s < L
              · have hmz : (a : Int) + (s : Int) < (L : Int) := by omega
                have HM := hide (HI.out.mg (b := L) hs0 hm (by omega) CR.out)
                have k1 : a < a + s := by omega
                clear hb6
                go_wp2_with fail
                refine (CS.out F _ _ _ _ a (a + s) L (by omega) (by omega) (by omega) HH.out k1 hm (Nat.le_refl _) HM.out).mono ?_
                rintro e w1 ⟨rfl, f', hT', hP, hB⟩
                have HT1 := hide hT'
                have HB1 := hide (HB.out.trans hB)
                have HI1 : Hid (Sx.Bk ltT (2 * s) L f f') := HI.out.last hs0 (by have := Hb.out; omega) hm hP.1 hP.2
                clear hT' hB hP HI HM
                go_wp2
                exact ⟨⟨2 * s, f', by omega, by omega, by go_num, HT1, HB1, HI1⟩, by simp only [intOf]; omega⟩
              · have hmz : ¬ (a : Int) + (s : Int) < (L : Int) := by omega
                have HI1 : Hid (Sx.Bk ltT (2 * s) L f F) := HI.out.none hs0 (by omega) (by omega)
                clear hb6
                go_wp2
                exact ⟨⟨2 * s, F, by omega, by omega, by go_num, HH, HB, HI1⟩, by simp only [intOf]; omega⟩
        · have hsz : ¬ (s : Int) < (L : Int) := by omega
          have HE := hide (HI.out.done (by omega))
          go_wp2
          refine bodyPost_end (results_none rfl _ _ _) rfl ?_
          exact ⟨rfl, SO.mk _ HH.out HE.out HB.out⟩
theorem jsort_c (g L cap : Nat) (f : Nat → T4) (w : World) (hT : TH w g f) (h4 : L ≤ 511) (cr : ∀ p q, p < q → q < L → Sx.Cr cT ltT (f p) (f q)) :
    Calls Try.prog 39 #[.slice (some ⟨g, 0, none⟩) L cap, .func (.func 40) #[] #[]] w fun e w' => e = .returned (.tuple #[]) ∧ SO g w (fun f' => Sx.Im 0 L f f' ∧ Sx.Up ltT 0 L f') w' := by
  have C := hide (jstab_c g L cap f w hT h4 cr)
  clear hT cr
  go_enter Try.func39, Try.ntmps39
  go_wp2_with fail
  refine (C.out).mono ?_
  rintro e w1 ⟨rfl, hS⟩
  have HS := hide hS
  clear hS
  go_wp2
  refine bodyPost_end (results_none rfl _ _ _) rfl ?_
  exact ⟨rfl, HS.out⟩
end Go.Proofs.Ytcjhiolginpgoaa

namespace Go.Proofs.Ytcjhiolginpgoaa
open Go.RowKit Num Bit

theorem need_c (n : Int) (h0 : 0 ≤ n) (h1 : n ≤ 2097152) (w : World) :
    Calls Try.prog 49 #[.int .i64 n] w fun e w' => e = .returned (.int .i64 ((n + 63) / 64)) ∧ w' = w := by
  go_enter Try.func49, Try.ntmps49
  go_wp2
  go_ret
  exact ⟨congrArg (fun a => Ending.returned (Value.int IntKind.i64 (a / 64))) (by omega), rfl⟩

theorem chk_end (N : Int) (xs : List Nat) (h1 : 0 ≤ N) (h2 : N ≤ 1048576) (h3 : (xs.length : Int) = (N + 63) / 64) (h4 : ¬ N % 64 = 0) (j : Nat) (hj : j = xs.length - 1) (k : Nat) (hk : k = (N % 64).toNat) :
    ((gt xs j : Int) / 2 ^ k == 0) = chk N xs := by
  subst hj hk
  unfold chk
  rw [Bool.eq_iff_iff, beq_iff_eq, decide_eq_true_eq]
  have e : ((gt xs (xs.length - 1) : Int) / 2 ^ (N % 64).toNat) = ((gt xs (xs.length - 1) / 2 ^ (N % 64).toNat : Nat) : Int) := by
    rw [Int.natCast_ediv, Int.natCast_pow]; rfl
  rw [e]
  have hp : 0 < 2 ^ (N % 64).toNat := Nat.pow_pos (by decide)
  constructor
  · intro h
    refine ⟨h1, h2, h3, .inr ?_⟩
    have : gt xs (xs.length - 1) / 2 ^ (N % 64).toNat = 0 := by omega
    exact (Nat.div_eq_zero_iff_lt hp).1 this
  · rintro ⟨_, _, _, h | h⟩
    · exact absurd h h4
    · rw [Nat.div_eq_of_lt h]; rfl

theorem check_c (N : Int) (ao : Option Addr) (xs : List Nat) (cap : Nat) (w : World) (hx : Wd w ao xs) :
    Calls Try.prog 32 #[.agg #[.int .i64 N, .slice ao xs.length cap]] w fun e w' => e = .returned (.bool (chk N xs)) ∧ Below w.heap.size w w' := by
  by_cases h1 : N < 0
  · have hd : decide (N < 0) = true := by simpa using h1
    have r : false = chk N xs := by unfold chk; rw [eq_comm, decide_eq_false_iff_not]; omega
    have R : Hid (false = chk N xs) := r
    clear r hx
    go_enter Try.func32, Try.ntmps32
    go_wp2
    go_quiet (fail)
    go_wp2
    go_ret
    exact ⟨ret_bool R.out, below_drewN ((Below.refl _ _).alloc (Nat.le_refl _) _) _⟩
  have hd : decide (N < 0) = false := by simpa using h1
  by_cases h2 : N > 1048576
  · have hd2 : decide (1048576 < N) = true := by simpa using h2
    have r : false = chk N xs := by unfold chk; rw [eq_comm, decide_eq_false_iff_not]; omega
    have R : Hid (false = chk N xs) := r
    clear r hx
    go_enter Try.func32, Try.ntmps32
    go_wp2
    go_quiet (fail)
    go_wp2
    go_ret
    exact ⟨ret_bool R.out, below_drewN ((Below.refl _ _).alloc (Nat.le_refl _) _) _⟩
  have hd2 : decide (1048576 < N) = false := by simpa using h2
  by_cases h3 : (xs.length : Int) = (N + 63) / 64
  · have h3' : ((xs.length : Int) != (N + 63) / 64) = false := by simpa using h3
    by_cases h4 : N % 64 = 0
    · have h4' : (N % 64 == 0) = true := by simpa using h4
      have r : true = chk N xs := by unfold chk; rw [eq_comm, decide_eq_true_eq]; omega
      have R : Hid (true = chk N xs) := r
      clear r hx h3 h4
      go_enter Try.func32, Try.ntmps32
      go_wp2
      go_quiet ((go_at_call 49; exact Calls.quiet_of_same (need_c _ (by omega) (by omega) _)))
      go_wp2
      go_ret
      exact ⟨ret_bool R.out, below_drewN ((Below.refl _ _).alloc (Nat.le_refl _) _) _⟩
    · have h4' : (N % 64 == 0) = false := by simpa using h4
      have hl : 1 ≤ xs.length := by omega
      have hl2 : xs.length ≤ 16384 := by omega
      obtain ⟨b, off, rfl, hb, hc⟩ := hx hl
      have R : Hid (((gt xs (xs.length - 1) : Int) / 2 ^ (N % 64).toNat == 0) = chk N xs) := chk_end N xs (by omega) (by omega) h3 h4 _ rfl _ rfl
      have hc1 := hc (xs.length - 1) (by omega)
      clear hx h3 h4 hc
      go_enter Try.func32, Try.ntmps32
      go_wp2
      go_quiet ((go_at_call 49; exact Calls.quiet_of_same (need_c _ (by omega) (by omega) _)))
      go_wp2
      go_ret
      exact ⟨ret_bool R.out, below_drewN ((Below.refl _ _).alloc (Nat.le_refl _) _) _⟩
  · have h3' : ((xs.length : Int) != (N + 63) / 64) = true := by simpa using h3
    have r : false = chk N xs := by unfold chk; rw [eq_comm, decide_eq_false_iff_not]; omega
    have R : Hid (false = chk N xs) := r
    clear r hx
    go_enter Try.func32, Try.ntmps32
    go_wp2
    go_quiet ((go_at_call 49; exact Calls.quiet_of_same (need_c _ (by omega) (by omega) _)))
    go_wp2
    go_ret
    exact ⟨ret_bool R.out, below_drewN ((Below.refl _ _).alloc (Nat.le_refl _) _) _⟩

theorem place_c (N : Int) (ao : Option Addr) (xs : List Nat) (cap : Nat) (i : Int) (w : World) (hx : Wd w ao xs) :
    Calls Try.prog 50 #[.agg #[.int .i64 N, .slice ao xs.length cap], .int .i64 i] w fun e w' => e = .returned (.int .i64 (getE N xs i)) ∧ Below w.heap.size w w' := by
  have K : ∀ o, Wd (w.alloc o) ao xs := fun o => hx.keep (below_alloc w o)
  cases hk : chk N xs with
  | false =>
    have R : Hid (2 = getE N xs i) := by unfold getE; rw [if_pos hk]; rfl
    go_enter Try.func50, Try.ntmps50
    go_wp2_with (go_at_call 32; refine (check_c _ _ _ _ _ (K _)).mono ?_; rintro e w' ⟨rfl, hb⟩; obtain ⟨c0, c1, hz, hw⟩ := box_cells hb; clear hb)
    go_ret
    exact ⟨ret_int R.out, by assumption⟩
  | true =>
    by_cases h1 : i < 0
    · have R : Hid (3 = getE N xs i) := by unfold getE; rw [if_neg (by simp [hk]), if_pos (.inl h1)]; rfl
      go_enter Try.func50, Try.ntmps50
      go_wp2_with (go_at_call 32; refine (check_c _ _ _ _ _ (K _)).mono ?_; rintro e w' ⟨rfl, hb⟩; obtain ⟨c0, c1, hz, hw⟩ := box_cells hb; clear hb)
      go_ret
      exact ⟨ret_int R.out, by assumption⟩
    · by_cases h2 : N ≤ i
      · have R : Hid (3 = getE N xs i) := by unfold getE; rw [if_neg (by simp [hk]), if_pos (.inr h2)]; rfl
        go_enter Try.func50, Try.ntmps50
        go_wp2_with (go_at_call 32; refine (check_c _ _ _ _ _ (K _)).mono ?_; rintro e w' ⟨rfl, hb⟩; obtain ⟨c0, c1, hz, hw⟩ := box_cells hb; clear hb)
        go_ret
        exact ⟨ret_int R.out, by assumption⟩
      · have R : Hid (0 = getE N xs i) := by unfold getE; rw [if_neg (by simp [hk]), if_neg (by omega)]; rfl
        go_enter Try.func50, Try.ntmps50
        go_wp2_with (go_at_call 32; refine (check_c _ _ _ _ _ (K _)).mono ?_; rintro e w' ⟨rfl, hb⟩; obtain ⟨c0, c1, hz, hw⟩ := box_cells hb; clear hb)
        go_ret
        exact ⟨ret_int R.out, by assumption⟩

end Go.Proofs.Ytcjhiolginpgoaa

namespace Go.Proofs.Ytcjhiolginpgoaa
open Go.RowKit Num Bit
set_option linter.unusedVariables false
set_option linter.unusedSimpArgs false
set_option maxRecDepth 100000

set_option maxHeartbeats 2000000 in
theorem rnum_c (ao : Option Addr) (l : List Int) (cap : Nat) (bo : Option Addr) (m : List Int) (dap : Nat) (w : World) (hx : Nd w ao l) (hy : Nd w bo m) (hl : l.length ≤ 1048576) :
    Calls Try.prog 13 #[.slice ao l.length cap, .slice bo m.length dap] w fun e w' => e = .returned (.bool (decide (l = m))) ∧ Below w.heap.size w w' := by
  by_cases h2 : l.length = m.length
  · have h2' : ((l.length : Int) != (m.length : Int)) = false := by simp [h2]
    have H2 : Hid (l.length = m.length) := h2
    have h3 : l.length ≤ m.length := by omega
    clear h2
    go_enter Try.func13, Try.ntmps13
    go_wp2
    go_loopw [5] (fun i wr => ∃ k : Nat, k ≤ l.length ∧ i = .int .i64 k ∧ Hid (∀ j, j < k → gi l j = gi m j) ∧ Below w.heap.size w wr) (fun i _ => l.length - (intOf i).toNat)
    case atStart => exact ⟨0, by omega, rfl, fun j hj => absurd hj (by omega), Below.refl _ _⟩
    case round =>
      obtain ⟨k, hk, rfl, H, hw⟩ := hrel
      by_cases hlt : k < l.length
      · obtain ⟨b, off, rfl, hb, hc⟩ := hx (by omega)
        obtain ⟨d, off2, rfl, hd, hc2⟩ := hy (by omega)
        have e1 := (hw.cell (p := ⟨b, off + k, none⟩) hb).trans (hc k hlt)
        have e2 := (hw.cell (p := ⟨d, off2 + k, none⟩) hd).trans (hc2 k (by omega))
        have hlt2 : k < m.length := by omega
        have hlt3 : (k : Int) < (l.length : Int) := by omega
        have hlt4 : (k : Int) < (m.length : Int) := by omega
        clear hc hc2
        by_cases hv : gi l k = gi m k
        · have hne : (gi l k != gi m k) = false := by simp [hv]
          go_wp2
          go_quiet (fail)
          go_wp2
          refine ⟨⟨k + 1, by omega, by go_num, ?_, below_drewN hw _⟩, by simp only [intOf]; omega⟩
          intro j hj
          by_cases e : j = k
          · subst e; exact hv
          · exact H.out j (by omega)
        · have hne : (gi l k != gi m k) = true := by simp [hv]
          have R : Hid (decide (l = m) = false) := by
            show decide (l = m) = false
            simp only [decide_eq_false_iff_not]
            intro e; subst e; exact hv rfl
          go_wp2
          go_quiet (fail)
          go_wp2
          go_ret
          rw [R.out]
          exact ⟨rfl, below_drewN hw _⟩
      · have R : Hid (decide (l = m) = true) := by
          show decide (l = m) = true
          simp only [decide_eq_true_eq]
          exact gi_ext H2.out (fun i hi => H.out i (by omega))
        go_wp2
        go_ret
        rw [R.out]
        exact ⟨rfl, hw⟩
  · have h2' : ((l.length : Int) != (m.length : Int)) = true := by simp; omega
    have R : Hid (decide (l = m) = false) := by
      show decide (l = m) = false
      simp only [decide_eq_false_iff_not]
      intro e; subst e; exact h2 rfl
    go_enter Try.func13, Try.ntmps13
    go_wp2
    go_ret
    rw [R.out]
    exact ⟨rfl, Below.refl _ _⟩

end Go.Proofs.Ytcjhiolginpgoaa

namespace Go.Proofs.Ytcjhiolginpgoaa
open Go.RowKit Num Bit
set_option linter.unusedVariables false
set_option linter.unusedSimpArgs false
set_option maxRecDepth 100000

def bad (top n : Int) : Bool := decide (n < 0) || decide (top < n)
theorem jout_c (x top : Int) (p : Addr) (w : World) (hc : w.cell? p = some (.int .i64 top)) :
    Calls Try.prog 37 #[.int .i64 x, .pointer (some p)] w fun e w' => e = .returned (.bool (bad top x)) ∧ w' = w := by
  by_cases h1 : x < 0
  · have R : Hid (bad top x = true) := by show bad top x = true; unfold bad; simp [h1]
    go_enter Try.func37, Try.ntmps37
    go_wp2
    go_ret
    rw [R.out]
    exact ⟨rfl, rfl⟩
  · have h1' : decide (x < 0) = false := by simpa using h1
    have R : Hid (bad top x = decide (top < x)) := by show bad top x = _; unfold bad; rw [h1']; rfl
    go_enter Try.func37, Try.ntmps37
    go_wp2
    go_ret
    rw [R.out]
    exact ⟨rfl, rfl⟩
def IdxP (l : List Int) (top : Int) (e : Ending) : Prop := ∃ k : Int, e = .returned (.int .i64 k) ∧ (decide (0 ≤ k) = l.any (bad top))
theorem IdxP.mk {l : List Int} {top : Int} {e : Ending} (k : Int) (h : e = .returned (.int .i64 k)) (h2 : decide (0 ≤ k) = l.any (bad top)) : IdxP l top e := ⟨k, h, h2⟩
theorem gi_mem {l : List Int} {i : Nat} (h : i < l.length) : gi l i ∈ l := by
  unfold gi
  rw [List.getD_eq_getElem?_getD, List.getElem?_eq_getElem h]
  exact List.getElem_mem h
theorem any_true {l : List Int} {top : Int} {i : Nat} (h : i < l.length) (hb : bad top (gi l i) = true) : l.any (bad top) = true := List.any_eq_true.2 ⟨_, gi_mem h, hb⟩
theorem any_false {l : List Int} {top : Int} (h : ∀ i, i < l.length → bad top (gi l i) = false) : l.any (bad top) = false := by
  refine Bool.eq_false_iff.2 fun e => ?_
  obtain ⟨x, hx, hb⟩ := List.any_eq_true.1 e
  obtain ⟨i, hi, rfl⟩ := List.mem_iff_getElem.1 hx
  have := h i hi
  unfold gi at this
  rw [List.getD_eq_getElem?_getD, List.getElem?_eq_getElem hi] at this
  rw [show (some l[i]).getD 0 = l[i] from rfl, hb] at this
  cases this
set_option maxHeartbeats 2000000 in
theorem jidx_c (ao : Option Addr) (l : List Int) (cap : Nat) (top : Int) (p : Addr) (w : World) (hx : Nd w ao l) (hc : w.cell? p = some (.int .i64 top)) (hp : p.block < w.heap.size) (hl : l.length ≤ 1048576) :
    Calls Try.prog 51 #[.slice ao l.length cap, .func (.func 37) #[] #[.pointer (some p)]] w fun e w' => IdxP l top e ∧ Below w.heap.size w w' := by
  have C : Hid (∀ (x : Int) (w0 : World), Below w.heap.size w w0 → Calls Try.prog 37 #[.int .i64 x, .pointer (some p)] w0 fun e w' => e = .returned (.bool (bad top x)) ∧ w' = w0) := fun x w0 hb => jout_c x top p w0 ((hb.cell hp).trans hc)
  clear hc
  go_enter Try.func51, Try.ntmps51
  go_wp2
  go_loopw [8] (fun i wr => ∃ k : Nat, k ≤ l.length ∧ i = .int .i64 k ∧ Hid (∀ j, j < k → bad top (gi l j) = false) ∧ Hid (Below w.heap.size w wr)) (fun i _ => l.length - (intOf i).toNat)
  case atStart => exact ⟨0, by omega, rfl, fun j hj => absurd hj (by omega), Below.refl _ _⟩
  case round =>
    obtain ⟨k, hk, rfl, H, hw⟩ := hrel
    by_cases hlt : k < l.length
    · obtain ⟨b, off, rfl, hb, hcc⟩ := hx (by omega)
      have e1 := (hw.out.cell (p := ⟨b, off + k, none⟩) hb).trans (hcc k hlt)
      have hlt3 : (k : Int) < (l.length : Int) := by omega
      clear hcc
      have C1 := hide (C.out (gi l k) wr hw.out)
      cases hv : bad top (gi l k) with
      | true =>
        have HA := hide (any_true hlt hv)
        rw [hv] at C1
        go_wp2_with fail
        refine (C1.out).mono ?_
        rintro e w1 ⟨rfl, rfl⟩
        go_wp2
        go_ret
        exact ⟨IdxP.mk _ rfl (by rw [HA.out]; simp), hw.out⟩
      | false =>
        rw [hv] at C1
        have HN : Hid (∀ j, j < k + 1 → bad top (gi l j) = false) := fun j hj => by
          by_cases e : j = k
          · subst e; exact hv
          · exact H.out j (by omega)
        clear H hv
        go_wp2_with fail
        refine (C1.out).mono ?_
        rintro e w1 ⟨rfl, rfl⟩
        go_wp2
        exact ⟨⟨k + 1, by omega, by go_num, HN, hw⟩, by simp only [intOf]; omega⟩
    · have HA := hide (any_false (l := l) (top := top) fun i hi => H.out i (by omega))
      go_wp2
      go_ret
      exact ⟨IdxP.mk _ rfl (by rw [HA.out]; rfl), hw.out⟩
theorem jcont_c (ao : Option Addr) (l : List Int) (cap : Nat) (top : Int) (p : Addr) (w : World) (hx : Nd w ao l) (hc : w.cell? p = some (.int .i64 top)) (hp : p.block < w.heap.size) (hl : l.length ≤ 1048576) :
    Calls Try.prog 38 #[.slice ao l.length cap, .func (.func 37) #[] #[.pointer (some p)]] w fun e w' => e = .returned (.bool (l.any (bad top))) ∧ Below w.heap.size w w' := by
  have C := hide (jidx_c ao l cap top p w hx hc hp hl)
  clear hx hc
  go_enter Try.func38, Try.ntmps38
  go_wp2_with fail
  refine (C.out).mono ?_
  rintro e w1 ⟨⟨k, rfl, hk⟩, hb⟩
  have HK := hide hk
  clear hk
  go_wp2
  go_ret
  exact ⟨ret_bool HK.out, hb⟩
/-- 256 of them, each from 0 to top. -/
def win (l : List Int) (top : Int) : Bool := decide (l.length = 256) && !l.any (bad top)
set_option maxHeartbeats 2000000 in
theorem jwithin_c (ao : Option Addr) (l : List Int) (cap : Nat) (top : Int) (w : World) (hx : Nd w ao l) (hl : l.length ≤ 1048576) :
    Calls Try.prog 19 #[.slice ao l.length cap, .int .i64 top] w fun e w' => e = .returned (.bool (win l top)) ∧ Below w.heap.size w w' := by
  have W0 : Cel (w.alloc (.cells #[.int .i64 top] 3)) w.heap.size [.int .i64 top] 3 := Cel.new w _ _
  by_cases h : l.length = 256
  · have C := hide (jcont_c ao l cap top ⟨w.heap.size, 0, none⟩ (w.alloc (.cells #[.int .i64 top] 3)) (hx.keep (below_alloc w _)) (W0.cell 0 rfl) W0.lt hl)
    have R : Hid (win l top = !l.any (bad top)) := by show win l top = _; unfold win; simp [h]
    have h2 : ((l.length : Int) == 256) = true := by simp; omega
    have hb0 := hide (below_alloc w (.cells #[.int .i64 top] 3))
    clear h hx W0
    generalize l.any (bad top) = v at *
    go_enter Try.func19, Try.ntmps19
    go_wp2_with fail
    refine (C.out).mono ?_
    rintro e w1 ⟨rfl, hb⟩
    have HB := hide (hb0.out.trans (hb.mono (by simp)))
    clear hb
    go_wp2
    go_ret
    rw [R.out]
    exact ⟨rfl, HB.out⟩
  · have R : Hid (win l top = false) := by show win l top = _; unfold win; simp [h]
    have h2 : ((l.length : Int) == 256) = false := by simp; omega
    clear h hx W0
    go_enter Try.func19, Try.ntmps19
    go_wp2
    go_ret
    rw [R.out]
    exact ⟨rfl, below_alloc w _⟩
end Go.Proofs.Ytcjhiolginpgoaa

namespace Go.Proofs.Ytcjhiolginpgoaa
open Go.RowKit Num Bit Ji Hp
set_option linter.unusedVariables false
set_option linter.unusedSimpArgs false
set_option maxRecDepth 100000

theorem used_pair (cnt : Nat → Nat) (k : Nat) : (used cnt k).Pairwise (· < ·) := List.Pairwise.filter _ List.pairwise_lt_range
theorem laid_cr (u : List Nat) (cnt : Nat → Nat) (h : u.Pairwise (· < ·)) : ∀ p q, p < q → q < u.length → Sx.Cr cT ltT (laidL u cnt p) (laidL u cnt q) := by
  intro p q h1 h2
  refine cr_of _ _ ?_
  unfold laidL
  rw [if_pos (by omega), if_pos h2]
  show u.getD p 0 < u.getD q 0
  have := List.pairwise_iff_getElem.1 h p q (by omega) h2 h1
  rw [List.getD_eq_getElem?_getD, List.getD_eq_getElem?_getD, List.getElem?_eq_getElem (by omega), List.getElem?_eq_getElem h2]
  exact this
/-- The counts as numbers. -/
def cntOf (l : List Int) (c : Nat) : Nat := (gi l c).toNat
/-- Numbers that lie below block g. -/
def NdB (g : Nat) (w : World) (ao : Option Addr) (l : List Int) : Prop := ∃ b off, ao = some ⟨b, off, none⟩ ∧ b < g ∧ b < w.heap.size ∧ ∀ i, i < l.length → w.cell? ⟨b, off + i, none⟩ = some (.int .i64 (gi l i))
theorem tc_th1 (cnt : Nat → Nat) (c : Nat) : tc (th1 cnt c) = [.int .i64 (c : Nat), .int .i64 (cnt c : Nat), .int .i64 0, .int .i64 0] := rfl

set_option maxHeartbeats 4000000 in
theorem jlay_c (g : Nat) (ao : Option Addr) (l : List Int) (cap : Nat) (w : World) (hT : TH w g (fun _ => th0)) (hl : l.length = 256) (hb : ∀ i, i < l.length → 0 ≤ gi l i ∧ gi l i ≤ 1048576) (hN : NdB g w ao l) :
    Calls Try.prog 20 #[.pointer (some ⟨g, 0, none⟩), .slice ao l.length cap] w fun e w' => e = .returned (.int .i64 ((used (cntOf l) 256).length : Nat)) ∧ SO g w (fun f' => Srt (cntOf l) (used (cntOf l) 256).length f') w' := by
  obtain ⟨cnt, hcnt⟩ : ∃ cnt, Hid (cnt = cntOf l) := ⟨_, rfl⟩
  have HT : Hid (TH w g (laidL (used cnt 0) cnt)) := by
    show TH w g (laidL [] cnt)
    rw [laid_nil]; exact hT
  have HC : Hid (∀ i, i < l.length → gi l i = (cnt i : Int) ∧ cnt i ≤ 1048576) := fun i hi => by
    have := hb i hi
    rw [hcnt.out]
    unfold cntOf
    omega
  rw [← hcnt.out]
  obtain ⟨b, off, rfl, hbg, hbw, hcc⟩ := hN
  have HCC := hide hcc
  have CS : Hid (∀ (L : Nat) (w0 : World), L = (used cnt 256).length → TH w0 g (laidL (used cnt 256) cnt) → Calls Try.prog 39 #[.slice (some ⟨g, 0, none⟩) L 511, .func (.func 40) #[] #[]] w0 fun e w' => e = .returned (.tuple #[]) ∧ SO g w0 (fun f' => Sx.Im 0 L (laidL (used cnt 256) cnt) f' ∧ Sx.Up ltT 0 L f') w') := fun L w0 e hF => by
    subst e
    exact jsort_c g _ 511 _ w0 hF (by have := used_len cnt 256; omega) (laid_cr _ cnt (used_pair cnt 256))
  have HL := hide hl
  have l256 : l.length ≤ 256 := by omega
  clear hT hcc hb hl hcnt
  go_enter Try.func20, Try.ntmps20
  go_wp2
  go_loopw [5, 10] (fun vn vi wr => ∃ (q n : Nat), q ≤ l.length ∧ n ≤ q ∧ vi = .int .i64 q ∧ vn = .int .i64 n ∧ Hid (n = (used cnt q).length) ∧ Hid (TH wr g (laidL (used cnt q) cnt)) ∧ Hid (Bar g w wr)) (fun _ vi _ => l.length - (intOf vi).toNat)
  case atStart => exact ⟨0, 0, by omega, by omega, rfl, rfl, rfl, HT, Bar.refl _ _⟩
  case round =>
    obtain ⟨q, n, hq, hnq, rfl, rfl, Hn, HH, HB⟩ := hrel
    clear HT
    by_cases hlt : q < l.length
    · have hltz : (q : Int) < (l.length : Int) := by omega
      obtain ⟨hv, hv2⟩ := HC.out q hlt
      have c1 : wr.cell? ⟨b, off + q, none⟩ = some (.int .i64 (cnt q : Nat)) := by
        rw [← hv]
        exact ((HB.out.below (base := min g w.heap.size) (by omega) (by omega)).cell (p := ⟨b, off + q, none⟩) (by show b < _; omega)).trans (HCC.out q hlt)
      have n511 : (n : Int) < 511 := by omega
      by_cases hp : 0 < cnt q
      · have hpz : (0 : Int) < (cnt q : Int) := by omega
        have HS : Hid (upd (laidL (used cnt q) cnt) n (th1 cnt q) = laidL (used cnt (q + 1)) cnt ∧ n + 1 = (used cnt (q + 1)).length) := by
          have e := Hn.out
          rw [Hv.used_succ, if_pos hp, e]
          exact ⟨laid_step _ _ _, by simp⟩
        have HH0 := HH.out
        clear hv
        go_wp2_with (refine wpList_store_th g _ n _ (th1 cnt q) (by omega) ?e rfl rfl HH0 ?_)
        case e => omega
        intro w1 hT1 hB1
        rw [HS.out.1] at hT1
        have HT1 := hide hT1
        have HB1 := hide (HB.out.trans hB1)
        clear hT1 hB1 HH0 HH HB c1
        go_wp2
        exact ⟨⟨q + 1, n + 1, by omega, by omega, by go_num, by go_num, HS.out.2, HT1, HB1⟩, by simp only [intOf]; omega⟩
      · have hpz : ¬ (0 : Int) < (cnt q : Int) := by omega
        have HS : Hid (laidL (used cnt q) cnt = laidL (used cnt (q + 1)) cnt ∧ n = (used cnt (q + 1)).length) := by
          have e := Hn.out
          rw [Hv.used_succ, if_neg hp, List.append_nil, ← e]
          exact ⟨rfl, rfl⟩
        have HH0 : Hid (TH wr g (laidL (used cnt (q + 1)) cnt)) := by show TH wr g _; rw [← HS.out.1]; exact HH.out
        clear hv HH
        go_wp2
        exact ⟨⟨q + 1, n, by omega, by omega, by go_num, rfl, HS.out.2, HH0, HB⟩, by simp only [intOf]; omega⟩
    · obtain rfl : q = l.length := by omega
      have HH1 : Hid (TH wr g (laidL (used cnt 256) cnt)) := by rw [HL.out] at HH; exact HH
      have Hn1 : Hid (n = (used cnt 256).length) := by rw [HL.out] at Hn; exact Hn
      have n511 : (n : Int) ≤ 511 := by omega
      clear HH Hn HL HCC HC hlt hq
      go_wp2_with fail
      refine (CS.out n _ Hn1.out HH1.out).mono ?_
      rintro e w1 ⟨rfl, f', hT', hP, hB⟩
      have HT1 := hide hT'
      have HB1 := hide (HB.out.trans hB)
      have HP : Hid (Srt cnt n f') := ⟨Hn1.out, hP.1, hP.2⟩
      clear hT' hB hP
      go_wp2
      go_ret
      rw [← Hn1.out]
      exact ⟨rfl, SO.mk _ HT1.out HP.out HB1.out⟩
end Go.Proofs.Ytcjhiolginpgoaa

namespace Go.Proofs.Ytcjhiolginpgoaa
open Go.RowKit Num Bit Ji
set_option linter.unusedVariables false
set_option linter.unusedSimpArgs false
set_option maxRecDepth 100000

/-- Nothing but blocks g and h is changed. -/
structure Two (g h : Nat) (w w' : World) : Prop where
  os : w'.os = w.os
  tape : w'.tape = w.tape
  output : w'.output = w.output
  size : w'.heap.size = w.heap.size
  block : ∀ k, k ≠ g → k ≠ h → w'.heap[k]? = w.heap[k]?
theorem Two.of1 {g h : Nat} {w w' : World} (o : Only g w w') : Two g h w w' := ⟨o.os, o.tape, o.output, o.size, fun k h1 _ => o.block k h1⟩
theorem Two.of2 {g h : Nat} {w w' : World} (o : Only h w w') : Two g h w w' := ⟨o.os, o.tape, o.output, o.size, fun k _ h2 => o.block k h2⟩
theorem Two.cel {g h b : Nat} {w w' : World} {cs : List Value} {T : TypeId} (t : Two g h w w') (hc : Cel w b cs T) (h1 : b ≠ g) (h2 : b ≠ h) : Cel w' b cs T := (t.block b h1 h2).trans hc
theorem Only.drewN (g : Nat) (w : World) : ∀ n, Only g w (w.drewN n)
  | 0 => Only.refl g w
  | n + 1 => by
    have h := Only.drewN g w n
    exact ⟨h.os, h.tape, h.output, h.size, h.block⟩
/-- What the call tells. -/
def LP (g gm gs n : Nat) (f : Nat → T4) (s m e : Nat) (w : World) (ret : Ending) (w' : World) : Prop :=
  ∃ a s' m', ret = .returned (.int .i64 (a : Nat)) ∧ Pick n f s m e a s' m' ∧ Cel w' gm [.int .i64 (m' : Nat)] 3 ∧ Cel w' gs [.int .i64 (s' : Nat)] 3 ∧ Two gm gs w w'
theorem LP.mk {g gm gs n : Nat} {f : Nat → T4} {s m e : Nat} {w : World} {ret : Ending} {w' : World} (a s' m' : Nat) (h : ret = .returned (.int .i64 (a : Nat))) (h2 : Pick n f s m e a s' m') (h3 : Cel w' gm [.int .i64 (m' : Nat)] 3) (h4 : Cel w' gs [.int .i64 (s' : Nat)] 3) (h5 : Two gm gs w w') : LP g gm gs n f s m e w ret w' := ⟨a, s', m', h, h2, h3, h4, h5⟩

set_option maxHeartbeats 4000000 in
theorem jleast_c (g gm ge gs gn ga n s m e : Nat) (f : Nat → T4) (w : World) (hT : TH w g f) (cm : Cel w gm [.int .i64 (m : Nat)] 3) (ce : Cel w ge [.int .i64 (e : Nat)] 3) (cs : Cel w gs [.int .i64 (s : Nat)] 3) (cn : Cel w gn [.int .i64 (n : Nat)] 3) (ca : Cel w ga [.pointer (some ⟨g, 0, none⟩)] 78)
    (hms : gm ≠ gs) (h1 : s ≤ n) (h2 : n ≤ m) (h3 : m ≤ e) (h4 : e ≤ 510) (h5 : s < n ∨ m < e) :
    Calls Try.prog 42 #[.pointer (some ⟨gm, 0, none⟩), .pointer (some ⟨ge, 0, none⟩), .pointer (some ⟨gs, 0, none⟩), .pointer (some ⟨gn, 0, none⟩), .pointer (some ⟨ga, 0, none⟩)] w fun ret w' => LP g gm gs n f s m e w ret w' := by
  have c0 := cm.cell 0 rfl
  have c1 := ce.cell 0 rfl
  have c2 := cs.cell 0 rfl
  have c3 := cn.cell 0 rfl
  have c4 := ca.cell 0 rfl
  have fs := cs.frozen 0
  have fm := cm.frozen 0
  have HM := hide cm
  have HS := hide cs
  clear cm ce cs cn ca
  by_cases hme : m = e
  · have b1 : ((m : Int) == (e : Int)) = true := by simp [hme]
    have HP : Hid (Pick n f s m e s (s + 1) m) := .inl ⟨rfl, by omega, rfl, rfl, .inl hme⟩
    clear hme
    go_enter Try.func42, Try.ntmps42
    go_wp2
    go_quiet (fail)
    go_wp2
    go_ret
    refine LP.mk s (s + 1) m (ret_int (by go_num)) HP.out ?_ ?_ ?_
    · exact Cel.other (w := w.drewN _) HM.out hms _
    · exact Cel.set (w := w.drewN _) HS.out 0 _
    · exact Two.of2 ((Only.drewN gs w _).set 0 _)
  · have b1 : ((m : Int) == (e : Int)) = false := by simp; omega
    have m511 : (m : Int) < 511 := by omega
    have m511' : m < 511 := by omega
    have d1 := hT.c1 m (by omega)
    by_cases hsn : s < n
    · have b2 : (s : Int) < (n : Int) := by omega
      have s511 : (s : Int) < 511 := by omega
      have d2 := hT.c1 s (by omega)
      by_cases hct : (f s).ct ≤ (f m).ct
      · have b3 : ((f s).ct : Int) ≤ ((f m).ct : Int) := by omega
        have HP : Hid (Pick n f s m e s (s + 1) m) := .inl ⟨rfl, hsn, rfl, rfl, .inr hct⟩
        generalize (f s).ct = X at *
        generalize (f m).ct = Y at *
        go_enter Try.func42, Try.ntmps42
        go_wp2
        go_quiet (fail)
        go_wp2
        go_ret
        refine LP.mk s (s + 1) m (ret_int (by go_num)) HP.out ?_ ?_ ?_
        · exact Cel.other (w := w.drewN _) HM.out hms _
        · exact Cel.set (w := w.drewN _) HS.out 0 _
        · exact Two.of2 ((Only.drewN gs w _).set 0 _)
      · have b3 : ¬ ((f s).ct : Int) ≤ ((f m).ct : Int) := by omega
        have HP : Hid (Pick n f s m e m s (m + 1)) := .inr ⟨rfl, by omega, rfl, rfl, fun c => hct c.2⟩
        generalize (f s).ct = X at *
        generalize (f m).ct = Y at *
        go_enter Try.func42, Try.ntmps42
        go_wp2
        go_quiet (fail)
        go_wp2
        go_ret
        refine LP.mk m s (m + 1) (ret_int (by go_num)) HP.out ?_ ?_ ?_
        · exact Cel.set (w := w.drewN _) HM.out 0 _
        · exact Cel.other (w := w.drewN _) HS.out (Ne.symm hms) _
        · exact Two.of1 ((Only.drewN gm w _).set 0 _)
    · have b2 : ¬ (s : Int) < (n : Int) := by omega
      have HP : Hid (Pick n f s m e m s (m + 1)) := .inr ⟨rfl, by omega, rfl, rfl, fun c => hsn c.1⟩
      go_enter Try.func42, Try.ntmps42
      go_wp2
      go_quiet (fail)
      go_wp2
      go_ret
      refine LP.mk m s (m + 1) (ret_int (by go_num)) HP.out ?_ ?_ ?_
      · exact Cel.set (w := w.drewN _) HM.out 0 _
      · exact Cel.other (w := w.drewN _) HS.out (Ne.symm hms) _
      · exact Two.of1 ((Only.drewN gm w _).set 0 _)
end Go.Proofs.Ytcjhiolginpgoaa
