/-
  The contracts of package stream's smaller functions: what is no place, a number completed, lengths, codes by themselves.
-/
import Derived.Test.YtmdmjbpehbjgpaaSc
import Derived.Test.YtmdmjbpehbjgpaaJoin
import Derived.Test.YtmdmjbpehbjgpaaHeadC
import Derived.Test.YtmdmjbpehbjgpaaRefSlice
namespace Go.Proofs.Ytmdmjbpehbjgpaa
open Go.RowKit Num Bit
set_option linter.unusedVariables false
set_option linter.unusedSimpArgs false

abbrev ZO : Obj := .cells #[.int .i64 0, .slice none 0 0] 24
/-- A new box of two cells, which may be written. -/
structure ZB (w : World) (T : Nat) : Prop where
  lt : T < w.heap.size
  c0 : w.cell? ⟨T, 0, none⟩ = some (.int .i64 0)
  c1 : w.cell? ⟨T, 1, none⟩ = some (.slice none 0 0)
  f0 : w.frozen? ⟨T, 0, none⟩ = false
  f1 : w.frozen? ⟨T, 1, none⟩ = false
theorem ZB.new (w : World) : ZB (w.alloc ZO) w.heap.size := ⟨by simp, by simp, by simp, by simp, by simp⟩
theorem ZB.newd (w : World) : ZB (w.alloc ZO).drew w.heap.size := ⟨by simp, by simp, by simp, by simp, by simp⟩
theorem ZB.keep {w w' : World} {T : Nat} (h : ZB w T) (hb : Below w.heap.size w w') : ZB w' T :=
  ⟨Nat.lt_of_lt_of_le h.lt hb.size, (hb.cell (p := ⟨T, 0, none⟩) h.lt).trans h.c0, (hb.cell (p := ⟨T, 1, none⟩) h.lt).trans h.c1,
   (hb.frozen (p := ⟨T, 0, none⟩) h.lt).trans h.f0, (hb.frozen (p := ⟨T, 1, none⟩) h.lt).trans h.f1⟩
theorem ZB.put {w : World} {T : Nat} (h : ZB w T) (p q : Value) : Box ((w.setCell ⟨T, 0, none⟩ p).setCell ⟨T, 1, none⟩ q) T p q :=
  ⟨by simp only [size_set]; exact h.lt, by simp [go_sem, h.c0], by simp [go_sem, h.c1]⟩
theorem ZB.other {w : World} {T S : Nat} (h : ZB w T) (hS : T ≠ S) (p q : Value) : ZB ((w.setCell ⟨S, 0, none⟩ p).setCell ⟨S, 1, none⟩ q) T := by
  have tt := ((Turned.refl S w).set 0 p).set 1 q
  exact ⟨by simp only [size_set]; exact h.lt, (tt.cell (p := ⟨T, 0, none⟩) hS).trans h.c0, (tt.cell (p := ⟨T, 1, none⟩) hS).trans h.c1, (tt.frozen (p := ⟨T, 0, none⟩) hS).trans h.f0, (tt.frozen (p := ⟨T, 1, none⟩) hS).trans h.f1⟩
theorem below_two {w w' : World} (hb : Below (w.alloc ZO).heap.size (w.alloc ZO) w') : Below w.heap.size w w' := (below_alloc w ZO).trans (hb.mono (by simp))
theorem below_twod {w w' : World} (hb : Below (w.alloc ZO).drew.heap.size (w.alloc ZO).drew w') : Below w.heap.size w w' := (below_alloc w ZO).drew.trans (hb.mono (by simp))
theorem below_d {w w' : World} (hb : Below w.drew.heap.size w.drew w') : Below w.heap.size w w' := (Below.drew (Below.refl _ _)).trans hb
theorem below_i {w w' : World} (hb : Below w.heap.size w w') : Below w.heap.size w w' := hb
theorem old1 {w : World} {b j : Nat} {v : Value} {o : Obj} (h : w.cell? ⟨b, j, none⟩ = some v) (hb : b < w.heap.size) : (w.alloc o).cell? ⟨b, j, none⟩ = some v := ((below_alloc w o).cell (p := ⟨b, j, none⟩) hb).trans h
theorem old1d {w : World} {b j : Nat} {v : Value} {o : Obj} (h : w.cell? ⟨b, j, none⟩ = some v) (hb : b < w.heap.size) : (w.alloc o).drew.cell? ⟨b, j, none⟩ = some v := old1 h hb
theorem fresh_one {w : World} {yo : Option Addr} (h : ∀ a, yo = some a → (w.alloc ZO).heap.size ≤ a.block) : ∀ a, yo = some a → w.heap.size + 1 ≤ a.block := fun a ha => by have := h a ha; simpa using this
/-- A slice that reads as a list still does when a box that is not its block is written. -/
theorem Wd.turn {w w' : World} {ao : Option Addr} {xs : List Nat} {T : Nat} (h : Wd w ao xs) (hT : Turned T w w') (hn : 0 < xs.length → ∀ a, ao = some a → a.block ≠ T) : Wd w' ao xs := by
  intro hl
  obtain ⟨b, off, e, hb, hc⟩ := h hl
  have hne := hn hl _ e
  exact ⟨b, off, e, by rw [hT.size]; exact hb, fun j hj => (hT.cell (p := ⟨b, off + j, none⟩) hne).trans (hc j hj)⟩
theorem Wd.block {w : World} {ao : Option Addr} {xs : List Nat} (h : Wd w ao xs) (hl : 0 < xs.length) : ∀ a, ao = some a → a.block < w.heap.size := by
  intro a ha
  obtain ⟨b, off, e, hb, _⟩ := h hl
  rw [e] at ha
  cases ha
  exact hb
theorem ret_three {a b c a' b' c' : Value} (h : a = a') (h2 : b = b') (h3 : c = c') : Ending.returned (.tuple #[a, b, c]) = .returned (.tuple #[a', b', c']) := by rw [h, h2, h3]

theorem small_c (N : Int) (ao : Option Addr) (n cap : Nat) (w : World) :
    Calls Try.prog 7 #[.agg #[.int .i64 N, .slice ao n cap]] w fun e w' => e = .returned (.bool (decide (N ≤ 3000) && decide ((n : Int) ≤ 3000))) ∧ Below w.heap.size w w' := by
  by_cases h : N ≤ 3000
  · have hd : decide (N ≤ 3000) = true := by simpa using h
    go_enter Try.func7, Try.ntmps7
    go_wp2
    go_ret
    exact ⟨by simp [hd], below_alloc _ _⟩
  · have hd : decide (N ≤ 3000) = false := by simpa using h
    go_enter Try.func7, Try.ntmps7
    go_wp2
    go_ret
    exact ⟨by simp [hd], below_alloc _ _⟩

def plE (N : Int) (xs : List Nat) (i : Int) : Int := if chk N xs = false then 2 else if i < 0 ∨ N < i then 3 else 0

theorem splace_c (N : Int) (ao : Option Addr) (xs : List Nat) (cap : Nat) (i : Int) (w : World) (hx : Wd w ao xs) :
    Calls Try.prog 24 #[.agg #[.int .i64 N, .slice ao xs.length cap], .int .i64 i] w fun e w' => e = .returned (.int .i64 (plE N xs i)) ∧ Below w.heap.size w w' := by
  have K : ∀ o, Wd (w.alloc o) ao xs := fun o => hx.keep (below_alloc w o)
  cases hk : chk N xs with
  | false =>
    have R : Hid (2 = plE N xs i) := by unfold plE; rw [if_pos hk]; rfl
    go_enter Try.func24, Try.ntmps24
    go_wp2_with (go_at_call 37; refine (check_c _ _ _ _ _ (K _)).mono ?_; rintro e w' ⟨rfl, hb⟩; obtain ⟨c0, c1, hz, hw⟩ := box_cells hb; clear hb)
    go_ret
    exact ⟨ret_int R.out, by assumption⟩
  | true =>
    by_cases h1 : i < 0
    · have R : Hid (3 = plE N xs i) := by unfold plE; rw [if_neg (by simp [hk]), if_pos (.inl h1)]; rfl
      go_enter Try.func24, Try.ntmps24
      go_wp2_with (go_at_call 37; refine (check_c _ _ _ _ _ (K _)).mono ?_; rintro e w' ⟨rfl, hb⟩; obtain ⟨c0, c1, hz, hw⟩ := box_cells hb; clear hb)
      go_ret
      exact ⟨ret_int R.out, by assumption⟩
    · by_cases h2 : N < i
      · have R : Hid (3 = plE N xs i) := by unfold plE; rw [if_neg (by simp [hk]), if_pos (.inr h2)]; rfl
        go_enter Try.func24, Try.ntmps24
        go_wp2_with (go_at_call 37; refine (check_c _ _ _ _ _ (K _)).mono ?_; rintro e w' ⟨rfl, hb⟩; obtain ⟨c0, c1, hz, hw⟩ := box_cells hb; clear hb)
        go_ret
        exact ⟨ret_int R.out, by assumption⟩
      · have R : Hid (0 = plE N xs i) := by unfold plE; rw [if_neg (by simp [hk]), if_neg (by omega)]; rfl
        go_enter Try.func24, Try.ntmps24
        go_wp2_with (go_at_call 37; refine (check_c _ _ _ _ _ (K _)).mono ?_; rintro e w' ⟨rfl, hb⟩; obtain ⟨c0, c1, hz, hw⟩ := box_cells hb; clear hb)
        go_ret
        exact ⟨ret_int R.out, by assumption⟩

theorem top_or (n : Nat) (f : Nat → Bool) (hn : n < 64) : bits .or .u64 (IntKind.u64.wrap (2 ^ n)) (Bit.numOf n f : Int) = ((2 ^ n + Bit.numOf n f : Nat) : Int) := by
  have l := numOf_lt n f
  have l2 := two_pow_lt n hn
  rw [shl_one n hn, u64_or_nat _ _ l2 (by omega)]
  congr 1
  have e := Nat.two_pow_add_eq_or_of_lt l 1
  rw [Nat.mul_one] at e
  exact e.symm

theorem compl_c (N : Int) (ao : Option Addr) (xs : List Nat) (cap : Nat) (a n : Nat) (w : World) (hx : Wd w ao xs) (hf : Fit xs) (hk : chk N xs = true) (hn : n ≤ 63) (ha : (a : Int) ≤ N) :
    Calls Try.prog 26 #[.agg #[.int .i64 N, .slice ao xs.length cap], .int .i64 a, .int .i64 n] w fun e w' => e = .returned (.tuple #[.int .u64 (cm N xs a n).1, .int .i64 (cm N xs a n).2.1, .int .i64 (cm N xs a n).2.2]) ∧ Below w.heap.size w w' := by
  have K : ∀ o, Wd (w.alloc o) ao xs := fun o => hx.keep (below_alloc w o)
  obtain ⟨hc0, hc1, hc2, _⟩ := chk_out N xs hk
  have n0 : (0 : Int) ≤ (n : Int) := by omega
  rcases cm_cases N xs a n with ⟨h1, h2⟩ | ⟨h1, h2⟩
  · have E : slcE N xs a n = 3 := by unfold slcE; rw [if_neg (by rw [hk]; simp; omega), if_pos (by omega)]
    have S : ∀ w0 : World, Wd w0 ao xs → Calls Try.prog 39 #[.agg #[.int .i64 N, .slice ao xs.length cap], .int .i64 a, .int .i64 n] w0 fun e w' => e = .returned (.tuple #[.int .u64 (slcX N xs a n), .int .i64 3]) ∧ Below w0.heap.size w0 w' := fun w0 h0 => by
      rw [← E]; exact slice_c N ao xs cap a n w0 h0 hf (by omega) (by omega) (by omega) (by omega)
    rw [h2]
    clear hc2 E h2
    go_enter Try.func26, Try.ntmps26
    go_wp2_with (go_at_call 39; refine (S _ (K _)).mono ?_; rintro e w' ⟨rfl, hb⟩; obtain ⟨c0, c1, hz, hw⟩ := box_cells hb; clear hb)
    go_ret3
    exact ⟨rfl, by assumption⟩
  · have E : slcE N xs a n = 0 := by unfold slcE; rw [if_neg (by rw [hk]; simp; omega), if_neg (by omega)]
    have X : slcX N xs a n = Bit.numOf n (fun k => bitAt xs (a + k)) := by unfold slcX; rw [if_pos E, Int.toNat_natCast, Int.toNat_natCast]
    have S : ∀ w0 : World, Wd w0 ao xs → Calls Try.prog 39 #[.agg #[.int .i64 N, .slice ao xs.length cap], .int .i64 a, .int .i64 n] w0 fun e w' => e = .returned (.tuple #[.int .u64 (Bit.numOf n (fun k => bitAt xs (a + k))), .int .i64 0]) ∧ Below w0.heap.size w0 w' := fun w0 h0 => by
      rw [← X]
      have := slice_c N ao xs cap a n w0 h0 hf (by omega) (by omega) (by omega) (by omega)
      rw [E] at this; exact this
    have T : Hid (bits .or .u64 (IntKind.u64.wrap (2 ^ n)) (Bit.numOf n (fun k => bitAt xs (a + k)) : Int) = ((2 ^ n + Bit.numOf n (fun k => bitAt xs (a + k)) : Nat) : Int)) := top_or n _ (by omega)
    rw [h2]
    clear hc2 E X h2
    generalize Bit.numOf n (fun k => bitAt xs (a + k)) = z at *
    go_enter Try.func26, Try.ntmps26
    go_wp2_with (go_at_call 39; refine (S _ (K _)).mono ?_; rintro e w' ⟨rfl, hb⟩; obtain ⟨c0, c1, hz, hw⟩ := box_cells hb; clear hb)
    go_ret3
    exact ⟨ret_three (congrArg (Value.int IntKind.u64) T.out) rfl rfl, by assumption⟩

theorem sizeg_c (x : Nat) (h64 : x < 18446744073709551616) (w : World) :
    Calls Try.prog 20 #[.int .u64 x, .bool false] w fun e w' => e = .returned (.int .i64 (cL false x)) ∧ w' = w := by
  have q := bl64 x h64
  have LN : ∀ w0 : World, Calls Try.prog 36 #[.int .u64 x] w0 fun e w' => e = .returned (.int .i64 (bl x)) ∧ w' = w0 := fun w0 => len_c x (by omega) (by omega) w0
  by_cases h : x = 0
  · subst h
    have e0 : bl 0 = 0 := by decide
    rw [e0] at LN
    have R : Hid (0 = ((cL false 0 : Nat) : Int)) := by simp [Hid, cL]
    go_enter Try.func20, Try.ntmps20
    go_wp2_with (go_at_call 36; refine (LN _).mono ?_; rintro e w' ⟨rfl, rfl⟩)
    go_ret
    exact ⟨ret_int R.out, rfl⟩
  · have p := bl_pos x h
    have R : Hid (2 * (bl x : Int) - 1 = ((cL false x : Nat) : Int)) := by unfold Hid cL gL; rw [if_neg h]; simp; omega
    have hz : ((bl x : Int) == 0) = false := by simp; omega
    generalize bl x = n at *
    go_enter Try.func20, Try.ntmps20
    go_wp2_with (go_at_call 36; refine (LN _).mono ?_; rintro e w' ⟨rfl, rfl⟩)
    go_ret
    exact ⟨ret_int (by first | exact R.out | (rw [← R.out]; go_num)), rfl⟩

theorem sized_c (x : Nat) (h64 : x < 18446744073709551616) (w : World) :
    Calls Try.prog 20 #[.int .u64 x, .bool true] w fun e w' => e = .returned (.int .i64 (cL true x)) ∧ w' = w := by
  have q := bl64 x h64
  have LN : ∀ w0 : World, Calls Try.prog 36 #[.int .u64 x] w0 fun e w' => e = .returned (.int .i64 (bl x)) ∧ w' = w0 := fun w0 => len_c x (by omega) (by omega) w0
  by_cases h : x = 0
  · subst h
    have e0 : bl 0 = 0 := by decide
    rw [e0] at LN
    have R : Hid (0 = ((cL true 0 : Nat) : Int)) := by simp [Hid, cL]
    go_enter Try.func20, Try.ntmps20
    go_wp2_with (go_at_call 36; refine (LN _).mono ?_; rintro e w' ⟨rfl, rfl⟩)
    go_ret
    exact ⟨ret_int R.out, rfl⟩
  · have p := bl_pos x h
    have SG : ∀ w0 : World, Calls Try.prog 20 #[.int .u64 (bl x), .bool false] w0 fun e w' => e = .returned (.int .i64 (cL false (bl x))) ∧ w' = w0 := fun w0 => sizeg_c (bl x) (by omega) w0
    have g1 := cLg_le (bl x) (by omega)
    have R : Hid (((cL false (bl x) : Nat) : Int) + (bl x : Int) - 1 = ((cL true x : Nat) : Int)) := by unfold Hid cL; rw [if_neg h, if_neg (by omega)]; simp; omega
    have hz : ((bl x : Int) == 0) = false := by simp; omega
    generalize cL false (bl x) = m at *
    generalize bl x = n at *
    go_enter Try.func20, Try.ntmps20
    go_wp2_with (first | (go_at_call 36; refine (LN _).mono ?_; rintro e w' ⟨rfl, rfl⟩) | (go_at_call 20; refine (SG _).mono ?_; rintro e w' ⟨rfl, rfl⟩))
    go_ret
    exact ⟨ret_int (by first | exact R.out | (rw [← R.out]; go_num)), rfl⟩

theorem size_c (d : Bool) (x : Nat) (h64 : x < 18446744073709551616) (w : World) :
    Calls Try.prog 20 #[.int .u64 x, .bool d] w fun e w' => e = .returned (.int .i64 (cL d x)) ∧ w' = w := by
  cases d
  · exact sizeg_c x h64 w
  · exact sized_c x h64 w
end Go.Proofs.Ytmdmjbpehbjgpaa
