/-
  The contracts of cmp.Compare and slices.Compare at numbers, and of the function by which ends are sorted.
-/
import Derived.Test.YtojjinjgmijgcaaTf
namespace Go.Proofs.Ytojjinjgmijgcaa
open Go.RowKit
set_option linter.unusedVariables false
set_option linter.unusedSimpArgs false
set_option maxRecDepth 100000

def cmp1 (a b : Int) : Int := if a < b then -1 else if b < a then 1 else 0
/-- Lists of one length compared, number by number. -/
def cmpZ : List Int → List Int → Int
  | x :: l, y :: m => if x < y then -1 else if y < x then 1 else cmpZ l m
  | _, _ => 0
theorem isnan_c (a : Int) (w : World) : Calls Try.prog 47 #[.int .i64 a] w fun e w' => e = .returned (.bool false) ∧ w' = w := by
  have h : (a != a) = false := by simp
  go_enter Try.func47, Try.ntmps47
  go_wp2
  go_ret
  exact ⟨by simp, rfl⟩
theorem cmpi_c (a b : Int) (w : World) : Calls Try.prog 36 #[.int .i64 a, .int .i64 b] w fun e w' => e = .returned (.int .i64 (cmp1 a b)) ∧ w' = w := by
  have N := hide (isnan_c)
  by_cases h1 : a < b
  · have R : Hid (cmp1 a b = -1) := by unfold cmp1; exact if_pos h1
    go_enter Try.func36, Try.ntmps36
    go_wp2_with (go_at_call 47; refine (N.out _ _).mono ?_; rintro e w1 ⟨rfl, rfl⟩)
    go_ret
    rw [R.out]
    exact ⟨rfl, rfl⟩
  · by_cases h2 : b < a
    · have R : Hid (cmp1 a b = 1) := by unfold cmp1; exact (if_neg h1).trans (if_pos h2)
      go_enter Try.func36, Try.ntmps36
      go_wp2_with (go_at_call 47; refine (N.out _ _).mono ?_; rintro e w1 ⟨rfl, rfl⟩)
      go_ret
      rw [R.out]
      exact ⟨rfl, rfl⟩
    · have R : Hid (cmp1 a b = 0) := by unfold cmp1; exact (if_neg h1).trans (if_neg h2)
      go_enter Try.func36, Try.ntmps36
      go_wp2_with (go_at_call 47; refine (N.out _ _).mono ?_; rintro e w1 ⟨rfl, rfl⟩)
      go_ret
      rw [R.out]
      exact ⟨rfl, rfl⟩
theorem drop_gi (l : List Int) (k : Nat) (h : k < l.length) : l.drop k = gi l k :: l.drop (k + 1) := by
  rw [List.drop_eq_getElem_cons h]
  have := gi_get l k h
  rw [List.getElem?_eq_getElem h] at this
  injection this with this
  rw [this]
set_option maxHeartbeats 2000000 in
theorem scmp_c (ao : Option Addr) (l : List Int) (cap : Nat) (bo : Option Addr) (m : List Int) (dap : Nat) (w : World) (hx : Nd w ao l) (hy : Nd w bo m) (hl : l.length = m.length) (hn : l.length ≤ 1048576) :
    Calls Try.prog 30 #[.slice ao l.length cap, .slice bo m.length dap] w fun e w' => e = .returned (.int .i64 (cmpZ l m)) ∧ w' = w := by
  have CI := hide cmpi_c
  obtain ⟨n, hN⟩ : ∃ n, Hid (n = l.length) := ⟨_, rfl⟩
  have HX := hide hx
  have HY := hide hy
  have HM : Hid (n = m.length) := hN.out.trans hl
  rw [← hN.out] at hn
  rw [← hl, ← hN.out]
  clear hx hy hl
  go_enter Try.func30, Try.ntmps30
  go_wp2
  go_loopw [11] (fun vi wr => ∃ k : Nat, k ≤ n ∧ vi = .int .i64 k ∧ Hid (cmpZ l m = cmpZ (l.drop k) (m.drop k)) ∧ wr = w) (fun vi _ => n - (intOf vi).toNat)
  case atStart => exact ⟨0, Nat.zero_le _, rfl, rfl, rfl⟩
  case round =>
    obtain ⟨k, hk, rfl, HR, rfl⟩ := hrel
    by_cases hlt : k < n
    · have hltz : (k : Int) < (n : Int) := by omega
      obtain ⟨b, off, rfl, hb, hc⟩ := HX.out (by rw [← hN.out]; omega)
      obtain ⟨d, off2, rfl, hd, hc2⟩ := HY.out (by rw [← HM.out]; omega)
      have e1 := hc k (by rw [← hN.out]; exact hlt)
      have e2 := hc2 k (by rw [← HM.out]; exact hlt)
      have R1 : Hid (cmpZ l m = if gi l k < gi m k then -1 else if gi m k < gi l k then 1 else cmpZ (l.drop (k + 1)) (m.drop (k + 1))) := by
        show cmpZ l m = _
        rw [HR.out, drop_gi l k (by rw [← hN.out]; exact hlt), drop_gi m k (by rw [← HM.out]; exact hlt)]
        rfl
      clear hc hc2
      by_cases h1 : gi l k < gi m k
      · have R : Hid (cmpZ l m = -1) := R1.out.trans (if_pos h1)
        have CC : Hid (∀ w, Calls Try.prog 36 #[.int .i64 (gi l k), .int .i64 (gi m k)] w fun e w' => e = .returned (.int .i64 (-1)) ∧ w' = w) := fun w => by
          have := CI.out (gi l k) (gi m k) w
          rwa [show cmp1 (gi l k) (gi m k) = -1 from if_pos h1] at this
        clear CI R1
        generalize gi l k = x at *
        generalize gi m k = y at *
        go_wp2_with (go_at_call 36; refine (CC.out _).mono ?_; rintro e w1 ⟨rfl, rfl⟩)
        go_ret
        rw [R.out]
        exact ⟨rfl, rfl⟩
      · by_cases h2 : gi m k < gi l k
        · have R : Hid (cmpZ l m = 1) := R1.out.trans ((if_neg h1).trans (if_pos h2))
          have CC : Hid (∀ w, Calls Try.prog 36 #[.int .i64 (gi l k), .int .i64 (gi m k)] w fun e w' => e = .returned (.int .i64 1) ∧ w' = w) := fun w => by
            have := CI.out (gi l k) (gi m k) w
            rwa [show cmp1 (gi l k) (gi m k) = 1 from (if_neg h1).trans (if_pos h2)] at this
          clear CI R1
          generalize gi l k = x at *
          generalize gi m k = y at *
          go_wp2_with (go_at_call 36; refine (CC.out _).mono ?_; rintro e w1 ⟨rfl, rfl⟩)
          go_ret
          rw [R.out]
          exact ⟨rfl, rfl⟩
        · have R : Hid (cmpZ l m = cmpZ (l.drop (k + 1)) (m.drop (k + 1))) := R1.out.trans ((if_neg h1).trans (if_neg h2))
          have CC : Hid (∀ w, Calls Try.prog 36 #[.int .i64 (gi l k), .int .i64 (gi m k)] w fun e w' => e = .returned (.int .i64 0) ∧ w' = w) := fun w => by
            have := CI.out (gi l k) (gi m k) w
            rwa [show cmp1 (gi l k) (gi m k) = 0 from (if_neg h1).trans (if_neg h2)] at this
          clear CI R1
          generalize gi l k = x at *
          generalize gi m k = y at *
          go_wp2_with (go_at_call 36; refine (CC.out _).mono ?_; rintro e w1 ⟨rfl, rfl⟩)
          exact ⟨⟨k + 1, by omega, by go_num, R, trivial⟩, by simp only [intOf]; omega⟩
    · have hge : (n : Int) ≤ (k : Int) := by omega
      have R : Hid (cmpZ l m = 0) := by
        show cmpZ l m = 0
        rw [HR.out, List.drop_eq_nil_of_le (by rw [← hN.out]; omega), List.drop_eq_nil_of_le (by rw [← HM.out]; omega)]
        rfl
      go_wp2
      go_ret
      rw [R.out]
      exact ⟨rfl, rfl⟩
/-- How two pairs compare. -/
def cmpP (a b : Nat → Nat) (x y : Nat) : Int := cmpZ [(a x : Int), (b x : Int)] [(a y : Int), (b y : Int)]
theorem nd_pair {w : World} {gp n : Nat} {a b : Nat → Nat} {T : TypeId} (h : Cel w gp (pq n a b n) T) (x : Nat) (hx : x < n) : Nd w (some ⟨gp, x * 2, none⟩) [(a x : Int), (b x : Int)] := by
  intro _
  refine ⟨gp, x * 2, rfl, h.lt, fun i hi => ?_⟩
  match i, hi with
  | 0, _ => exact h.cell _ (pq_a n a b x hx)
  | 1, _ => exact h.cell _ (pq_b n a b x hx)
set_option maxHeartbeats 2000000 in
theorem sclo_c (gb gp n : Nat) (a b : Nat → Nat) (x y : Nat) (w : World) (hb : w.cell? ⟨gb, 0, none⟩ = some (.slice (some ⟨gp, 0, none⟩) n n)) (hp : Cel w gp (pq n a b n) 59) (hx : x < n) (hy : y < n) (hn : n ≤ 8193) :
    Calls Try.prog 29 #[.int .i64 (x : Nat), .int .i64 (y : Nat), .pointer (some ⟨gb, 0, none⟩)] w fun e w' => e = .returned (.int .i64 (cmpP a b x y)) ∧ ∃ q, w' = w.drewN q := by
  have CM : Hid (∀ k, Calls Try.prog 30 #[.slice (some ⟨gp, x * 2, none⟩) 2 2, .slice (some ⟨gp, y * 2, none⟩) 2 2] (w.drewN k) fun e w' => e = .returned (.int .i64 (cmpP a b x y)) ∧ w' = w.drewN k) := fun k => scmp_c _ [(a x : Int), (b x : Int)] 2 _ [(a y : Int), (b y : Int)] 2 _ ((nd_pair hp x hx).keep (below_drewN (Below.refl _ _) k)) ((nd_pair hp y hy).keep (below_drewN (Below.refl _ _) k)) rfl (by simp)
  have hxz : (x : Int) < (n : Int) := by omega
  have hyz : (y : Int) < (n : Int) := by omega
  clear hp
  generalize cmpP a b x y = c at *
  go_enter Try.func29, Try.ntmps29
  go_wp2
  go_quiet ((go_at_call 30; exact Calls.quiet_of_same (CM.out _)))
  go_wp2
  go_ret
  exact ⟨rfl, _, rfl⟩
end Go.Proofs.Ytojjinjgmijgcaa
