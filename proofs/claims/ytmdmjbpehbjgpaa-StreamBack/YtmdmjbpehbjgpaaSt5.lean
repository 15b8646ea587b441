/-
  The contracts of Gamma and Delta: reading goes by labels.
-/
import Derived.Test.YtmdmjbpehbjgpaaSt1
import Derived.WalkMore
namespace Go.Proofs.Ytmdmjbpehbjgpaa
open Go.RowKit Num Bit
set_option linter.unusedVariables false
set_option linter.unusedSimpArgs false
set_option maxRecDepth 100000

/-- As Q; by a goto to a label: what is said of that label. -/
def Exit.jumpS (J : Nat → Act → World → Prop) (Q : Exit → Act → World → Prop) : Exit → Act → World → Prop
  | .goto l, a, w => J l a w
  | e, a, w => Q e a w

/-- A scope in which the run jumps to labels: what holds at each jump, and a measure that each pass from a label lowers. -/
theorem wp_scope_labels {P : Program} {a : Act} {w : World} {Q : Exit → Act → World → Prop} {c : Code} (J : Nat → Act → World → Prop) (μ : Nat → Act → World → Nat)
    (first : c.wp P (Exit.jumpS J Q) a w)
    (pass : ∀ l a w, J l a w → ∃ r, findLabel c l = some r ∧ r.wp P (Exit.jumpS (fun l' a' w' => J l' a' w' ∧ μ l' a' w' < μ l a w) Q) a w) : (Code.scope c).wp P Q a w := by
  intro b k cs
  have key : ∀ n l a w, μ l a w = n → J l a w → ∃ r, gotoIn l (.inScope c :: k) = some (.code r :: .inScope c :: k) ∧ ∃ e a' w', Q e a' w' ∧ Arrives P (lone (b.at a (.code r :: .inScope c :: k)) cs w) b k cs e a' w' := by
    intro n
    induction n using Nat.strongRecOn with
    | _ n ih =>
      intro l a w hn hJ
      obtain ⟨r, hr, hp⟩ := pass l a w hJ
      refine ⟨r, by simp [gotoIn, hr], ?_⟩
      obtain ⟨e, a₁, w₁, hq, harr⟩ := hp b (.inScope c :: k) cs
      cases e with
      | normal => exact ⟨.normal, a₁, w₁, hq, Steps.trans harr (.one step_inScope)⟩
      | exit id => exact ⟨.exit id, a₁, w₁, hq, fun k' hk => harr k' (by simp [exitTo, hk])⟩
      | goto l' =>
        obtain ⟨hJ', hlt⟩ := hq
        obtain ⟨r₂, hr₂, e₂, a₂, w₂, hq₂, harr₂⟩ := ih _ (by omega) l' a₁ w₁ rfl hJ'
        exact ⟨e₂, a₂, w₂, hq₂, .of_steps (harr _ hr₂) harr₂⟩
      | ret => exact ⟨_, a₁, w₁, hq, harr⟩
      | panic ch => exact ⟨_, a₁, w₁, hq, harr⟩
      | outgrown => exact ⟨_, a₁, w₁, hq, harr⟩
  obtain ⟨e, a₁, w₁, hq, harr⟩ := first b (.inScope c :: k) cs
  cases e with
  | normal => exact ⟨.normal, a₁, w₁, hq, .head step_scope (Steps.trans harr (.one step_inScope))⟩
  | exit id => exact ⟨.exit id, a₁, w₁, hq, fun k' hk => .head step_scope (harr k' (by simp [exitTo, hk]))⟩
  | goto l' =>
    obtain ⟨r₂, hr₂, e₂, a₂, w₂, hq₂, harr₂⟩ := key _ l' a₁ w₁ rfl hq
    exact ⟨e₂, a₂, w₂, hq₂, .of_steps (.head step_scope (harr _ hr₂)) harr₂⟩
  | ret => exact ⟨_, a₁, w₁, hq, .of_steps (.one step_scope) harr⟩
  | panic ch => exact ⟨_, a₁, w₁, hq, .of_steps (.one step_scope) harr⟩
  | outgrown => exact ⟨_, a₁, w₁, hq, .of_steps (.one step_scope) harr⟩

/-! ### what is read, by how far the noughts go -/
theorem rdG_place (N : Int) (xs : List Nat) (i : Int) (h : plE N xs i ≠ 0) : rdG N xs i = (0, 0, plE N xs i) := by
  unfold plE at h ⊢
  unfold rdG
  split
  · rfl
  · rename_i h1
    rw [if_neg h1] at h
    split
    · rfl
    · rename_i h2; rw [if_neg h2] at h; exact absurd rfl h
theorem plE_zero (N : Int) (xs : List Nat) (i : Int) (h : plE N xs i = 0) : chk N xs = true ∧ 0 ≤ i ∧ i ≤ N := by
  unfold plE at h
  split at h
  · omega
  · rename_i h1
    split at h
    · omega
    · exact ⟨by simpa using h1, by omega, by omega⟩
theorem rdG_short (N : Int) (xs : List Nat) (a k : Nat) (hc : chk N xs = true) (hk : k ≤ 63) (hN : (a : Int) + k = N) (hz : ∀ j, j < k → bitAt xs (a + j) = false) : rdG N xs (a : Int) = (0, 0, 160) := by
  have ez : gz N xs (a : Int) = k := by
    unfold gz
    have em : min 64 (N - (a : Int)).toNat = k := by rw [Nat.min_def]; split <;> omega
    rw [em, Int.toNat_natCast, zr_shift xs a k k (Nat.le_refl _) hz, Nat.sub_self]; simp [zr]
  unfold rdG
  rw [if_neg (by rw [hc]; simp), if_neg (by omega), ez, if_neg (by omega), if_pos (by omega)]
theorem rdG_form (N : Int) (xs : List Nat) (a : Nat) (hc : chk N xs = true) (hN : (a : Int) + 64 ≤ N) (hz : ∀ j, j < 64 → bitAt xs (a + j) = false) : rdG N xs (a : Int) = (0, 0, 161) := by
  have ez : gz N xs (a : Int) = 64 := by
    unfold gz
    have em : min 64 (N - (a : Int)).toNat = 64 := by rw [Nat.min_def]; split <;> omega
    rw [em, Int.toNat_natCast, zr_shift xs a 64 64 (Nat.le_refl _) hz, Nat.sub_self]; simp [zr]
  unfold rdG
  rw [if_neg (by rw [hc]; simp), if_neg (by omega), ez, if_pos rfl]
theorem rdG_cm (N : Int) (xs : List Nat) (a k : Nat) (hc : chk N xs = true) (hk : k ≤ 63) (hN : (a : Int) + k < N) (hz : ∀ j, j < k → bitAt xs (a + j) = false) (hb : bitAt xs (a + k) = true) : rdG N xs (a : Int) = cm N xs (a + k + 1) k := by
  have ez : gz N xs (a : Int) = k := zr_eq _ _ _ _ (fun j hj => by rw [Int.toNat_natCast]; exact hz j hj) (by rw [Int.toNat_natCast]; exact hb) (by rw [Nat.lt_min]; constructor <;> omega)
  unfold rdG
  rw [if_neg (by rw [hc]; simp), if_neg (by omega), ez, if_neg (by omega), if_neg (by omega), Int.toNat_natCast]

def intOf : Value → Int | .int _ q => q | _ => 0

theorem gamma_bad (N : Int) (ao : Option Addr) (xs : List Nat) (cap : Nat) (i : Int) (w : World) (hx : Wd w ao xs) (hf : Fit xs) (h : plE N xs i ≠ 0) :
    Calls Try.prog 10 #[.agg #[.int .i64 N, .slice ao xs.length cap], .int .i64 i] w fun e w' => e = .returned (.tuple #[.int .u64 (0 : Nat), .int .i64 0, .int .i64 (plE N xs i)]) ∧ Below w.heap.size w w' := by
  have PL : ∀ o, Calls Try.prog 24 #[.agg #[.int .i64 N, .slice ao xs.length cap], .int .i64 i] (w.alloc o) fun e w' => e = .returned (.int .i64 (plE N xs i)) ∧ Below (w.alloc o).heap.size (w.alloc o) w' := fun o => splace_c N ao xs cap i _ (hx.keep (below_alloc w o))
  have hE : (plE N xs i != 0) = true := by simpa using h
  generalize plE N xs i = E at *
  go_enter Try.func10, Try.ntmps10
  go_wp2_with fail
  go_step3
  go_wp2_with (go_at_call 24; refine (PL _).mono ?_; rintro e w' ⟨rfl, hb⟩; obtain ⟨c0, c1, hz, hw⟩ := box_cells hb; clear hb)
  rw [Exit.noGoto_ret]
  go_ret3
  exact ⟨rfl, by assumption⟩

set_option maxHeartbeats 4000000 in
theorem gamma_ok (N : Int) (ao : Option Addr) (xs : List Nat) (cap a : Nat) (w : World) (hx : Wd w ao xs) (hf : Fit xs) (hc : chk N xs = true) (haN : (a : Int) ≤ N) :
    Calls Try.prog 10 #[.agg #[.int .i64 N, .slice ao xs.length cap], .int .i64 a] w fun e w' => e = .returned (.tuple #[.int .u64 (rdG N xs (a : Int)).1, .int .i64 (rdG N xs (a : Int)).2.1, .int .i64 (rdG N xs (a : Int)).2.2]) ∧ Below w.heap.size w w' := by
  obtain ⟨hc0, hc1, hc2, _⟩ := chk_out N xs hc
  have HC : Hid (chk N xs = true) := hc
  have pl : plE N xs a = 0 := by unfold plE; rw [if_neg (by rw [hc]; simp), if_neg (by omega)]
  have PL : ∀ o, Calls Try.prog 24 #[.agg #[.int .i64 N, .slice ao xs.length cap], .int .i64 a] (w.alloc o) fun e w' => e = .returned (.int .i64 0) ∧ Below (w.alloc o).heap.size (w.alloc o) w' := fun o => by
    have := splace_c N ao xs cap a _ (hx.keep (below_alloc w o))
    rw [pl] at this
    exact this
  have GE : Hid (∀ (w0 : World), Below w.heap.size w w0 → Calls Try.prog 25 #[.agg #[.int .i64 N, .slice ao xs.length cap], .int .i64 N] w0 fun e w' => e = .returned (.tuple #[.bool false, .int .i64 3]) ∧ Below w0.heap.size w0 w') := fun w0 hb => by
    have := get_c N ao xs cap N w0 (hx.keep hb) hf
    have e1 : getE N xs N = 3 := by unfold getE; rw [if_neg (by rw [hc]; simp), if_pos (by omega)]
    have e2 : getB N xs N = false := by unfold getB; simp
    rw [e1, e2] at this
    exact this
  have GT : Hid (∀ (w0 : World) (j : Nat), (j : Int) < N → Below w.heap.size w w0 → Calls Try.prog 25 #[.agg #[.int .i64 N, .slice ao xs.length cap], .int .i64 j] w0 fun e w' => e = .returned (.tuple #[.bool (bitAt xs j), .int .i64 0]) ∧ Below w0.heap.size w0 w') := fun w0 j hj hb => by
    have := get_c N ao xs cap j w0 (hx.keep hb) hf
    have e1 : getE N xs j = 0 := by unfold getE; rw [if_neg (by rw [hc]; simp), if_neg (by omega)]
    have e2 : getB N xs j = bitAt xs j := by unfold getB; rw [hc, show decide (0 ≤ (j : Int) ∧ (j : Int) < N) = true by simpa using hj]; simp
    rw [e1, e2] at this
    exact this
  have CM : Hid (∀ (w0 : World) (p n : Nat), n ≤ 63 → (p : Int) ≤ N → Below w.heap.size w w0 → Calls Try.prog 26 #[.agg #[.int .i64 N, .slice ao xs.length cap], .int .i64 p, .int .i64 n] w0 fun e w' => e = .returned (.tuple #[.int .u64 (cm N xs p n).1, .int .i64 (cm N xs p n).2.1, .int .i64 (cm N xs p n).2.2]) ∧ Below w0.heap.size w0 w') := fun w0 p n h1 h2 hb => compl_c N ao xs cap p n w0 (hx.keep hb) hf hc h1 h2
  clear hc2 pl hc
  go_enter Try.func10, Try.ntmps10
  go_wp2_with fail
  refine wp_scope_labels (fun l a' w' => (Box w' w.heap.size (.int .i64 N) (.slice ao xs.length cap) ∧ Below w.heap.size w w') ∧ ∃ (k : Nat) (P K : Int) (u7 u9 u10 u11 u12 u13 u14 u15 u16 u17 u18 u19 u20 u21 u22 u23 u24 u25 u26 u27 u28 u29 u30 u31 u32 u33 u34 u35 u36 u37 u38 : Value), a' = { tmps := #[.agg #[.int .i64 N, .slice ao xs.length cap], .int .i64 P, .pointer (some ⟨w.heap.size, 0, none⟩), undef, .int .u64 0, .int .i64 0, .int .i64 0, u7, .int .i64 K, u9, u10, u11, u12, u13, u14, u15, u16, u17, u18, u19, u20, u21, u22, u23, u24, u25, u26, u27, u28, u29, u30, u31, u32, u33, u34, u35, u36, u37, u38], defers := [] } ∧ K = (k : Int) ∧ k ≤ 63 ∧ ((l = 0 ∧ P = (a : Int) + k ∧ P ≤ N ∧ Hid (∀ j, j < k → bitAt xs (a + j) = false)) ∨ (l = 1 ∧ P = ((a + k + 1 : Nat) : Int) ∧ P ≤ N ∧ Hid (rdG N xs (a : Int) = cm N xs (a + k + 1) k)))) (fun l a' _ => if l = 0 then 65 - (intOf (a'.tmps.getD 8 undef)).toNat else 0) ?_ ?_
  · go_wp2_with (go_at_call 24; refine (PL _).mono ?_; rintro e w' ⟨rfl, hb⟩; have B := Box.new hb; obtain ⟨c0, c1, hzz, hw⟩ := box_cells hb; clear hb)
    clear PL c0 c1 hzz
    have b0 := B.2.1
    have b1 := B.2.2
    go_step3
    by_cases hlt : (a : Int) < N
    · cases hb : bitAt xs a with
      | true =>
        have GT1 : Hid (∀ (w0 : World), Below w.heap.size w w0 → Calls Try.prog 25 #[.agg #[.int .i64 N, .slice ao xs.length cap], .int .i64 (a : Int)] w0 fun e w' => e = .returned (.tuple #[.bool true, .int .i64 0]) ∧ Below w0.heap.size w0 w') := fun w0 h0 => by have := GT.out w0 (a) (by omega) h0; rw [hb] at this; first | exact this | (rw [show ((a : Nat) : Int) = (a : Int) by omega] at this; exact this)
        have R : Hid (rdG N xs (a : Int) = cm N xs (a + 0 + 1) 0) := rdG_cm N xs a 0 HC.out (by omega) (by omega) (fun j hj => by omega) hb
        clear hb GE CM GT HC
        go_wp2_with (go_at_call 25; refine (GT1.out _ hw).mono ?_; rintro e w1 ⟨rfl, hb⟩; replace B := B.keep hb; replace hw := hw.trans (hb.mono hw.size); clear hb)
        go_step3
        exact ⟨⟨B, hw⟩, 0, _, _, _, _, _, _, _, _, _, _, _, _, _, _, _, _, _, _, _, _, _, _, _, _, _, _, _, _, _, _, _, _, _, rfl, rfl, by omega, .inr ⟨rfl, by omega, by omega, R⟩⟩
      | false =>
        have GT1 : Hid (∀ (w0 : World), Below w.heap.size w w0 → Calls Try.prog 25 #[.agg #[.int .i64 N, .slice ao xs.length cap], .int .i64 (a : Int)] w0 fun e w' => e = .returned (.tuple #[.bool false, .int .i64 0]) ∧ Below w0.heap.size w0 w') := fun w0 h0 => by have := GT.out w0 (a) (by omega) h0; rw [hb] at this; first | exact this | (rw [show ((a : Nat) : Int) = (a : Int) by omega] at this; exact this)
        have R : Hid (∀ j, j < 1 → bitAt xs (a + j) = false) := fun j hj => by obtain rfl : j = 0 := by omega
                                                                               exact hb
        clear hb GE CM GT HC
        go_wp2_with (go_at_call 25; refine (GT1.out _ hw).mono ?_; rintro e w1 ⟨rfl, hb⟩; replace B := B.keep hb; replace hw := hw.trans (hb.mono hw.size); clear hb)
        go_step3
        exact ⟨⟨B, hw⟩, 1, _, _, _, _, _, _, _, _, _, _, _, _, _, _, _, _, _, _, _, _, _, _, _, _, _, _, _, _, _, _, _, _, _, rfl, rfl, by omega, .inl ⟨rfl, by omega, by omega, R⟩⟩
    · have hNN : (a : Int) = N := by omega
      have R : Hid (rdG N xs (a : Int) = (0, 0, 160)) := rdG_short N xs a 0 HC.out (by omega) (by omega) (fun j hj => by omega)
      clear CM GT HC
      go_wp2_with (go_at_call 25; refine (GE.out _ hw).mono ?_; rintro e w1 ⟨rfl, hb⟩; replace B := B.keep hb; replace hw := hw.trans (hb.mono hw.size); clear hb)
      simp only [Exit.jumpS]
      go_ret3
      rw [R.out]
      exact ⟨rfl, hw⟩
  · rintro l a' w' ⟨⟨B, hw⟩, k, P, K, u7, u9, u10, u11, u12, u13, u14, u15, u16, u17, u18, u19, u20, u21, u22, u23, u24, u25, u26, u27, u28, u29, u30, u31, u32, u33, u34, u35, u36, u37, u38, rfl, hK, hk, h⟩
    rcases h with ⟨rfl, hP, hPN, hz⟩ | ⟨rfl, hP, hPN, hR⟩
    · refine ⟨_, rfl, ?_⟩
      subst hK
      subst hP
      clear PL
      have b0 := B.2.1
      have b1 := B.2.2
      by_cases hlt : (a : Int) + k < N
      · cases hb : bitAt xs (a + k) with
        | true =>
          have GT1 : Hid (∀ (w0 : World), Below w.heap.size w w0 → Calls Try.prog 25 #[.agg #[.int .i64 N, .slice ao xs.length cap], .int .i64 ((a : Int) + k)] w0 fun e w' => e = .returned (.tuple #[.bool true, .int .i64 0]) ∧ Below w0.heap.size w0 w') := fun w0 h0 => by have := GT.out w0 (a + k) (by omega) h0; rw [hb] at this; first | exact this | (rw [show ((a + k : Nat) : Int) = ((a : Int) + k) by omega] at this; exact this)
          have R : Hid (rdG N xs (a : Int) = cm N xs (a + k + 1) k) := rdG_cm N xs a k HC.out hk hlt hz.out hb
          clear hz hb GE CM GT HC
          go_wp2_with (go_at_call 25; refine (GT1.out _ hw).mono ?_; rintro e w1 ⟨rfl, hb⟩; replace B := B.keep hb; replace hw := hw.trans (hb.mono hw.size); clear hb)
          go_step3
          exact ⟨⟨⟨B, hw⟩, k, _, _, _, _, _, _, _, _, _, _, _, _, _, _, _, _, _, _, _, _, _, _, _, _, _, _, _, _, _, _, _, _, _, rfl, rfl, hk, .inr ⟨rfl, by omega, by omega, R⟩⟩, by simp [intOf]; omega⟩
        | false =>
          have GT1 : Hid (∀ (w0 : World), Below w.heap.size w w0 → Calls Try.prog 25 #[.agg #[.int .i64 N, .slice ao xs.length cap], .int .i64 ((a : Int) + k)] w0 fun e w' => e = .returned (.tuple #[.bool false, .int .i64 0]) ∧ Below w0.heap.size w0 w') := fun w0 h0 => by have := GT.out w0 (a + k) (by omega) h0; rw [hb] at this; first | exact this | (rw [show ((a + k : Nat) : Int) = ((a : Int) + k) by omega] at this; exact this)
          by_cases hk2 : k = 63
          · have R : Hid (rdG N xs (a : Int) = (0, 0, 161)) := rdG_form N xs a HC.out (by omega) (fun j hj => by by_cases e : j = k; (subst e; exact hb); exact hz.out j (by omega))
            have hk3 : ¬ ((k : Int) + 1 < 64) := by omega
            clear hz hb GE CM GT HC hk2
            go_wp2_with (go_at_call 25; refine (GT1.out _ hw).mono ?_; rintro e w1 ⟨rfl, hb⟩; replace B := B.keep hb; replace hw := hw.trans (hb.mono hw.size); clear hb)
            simp only [Exit.jumpS]
            go_ret3
            rw [R.out]
            exact ⟨rfl, hw⟩
          · have R : Hid (∀ j, j < k + 1 → bitAt xs (a + j) = false) := fun j hj => by by_cases e : j = k; (subst e; exact hb); exact hz.out j (by omega)
            have hk3 : (k : Int) + 1 < 64 := by omega
            clear hz hb GE CM GT HC
            go_wp2_with (go_at_call 25; refine (GT1.out _ hw).mono ?_; rintro e w1 ⟨rfl, hb⟩; replace B := B.keep hb; replace hw := hw.trans (hb.mono hw.size); clear hb)
            go_step3
            exact ⟨⟨⟨B, hw⟩, k + 1, _, _, _, _, _, _, _, _, _, _, _, _, _, _, _, _, _, _, _, _, _, _, _, _, _, _, _, _, _, _, _, _, _, rfl, by omega, by omega, .inl ⟨rfl, by omega, by omega, R⟩⟩, by simp [intOf]; omega⟩
      · have hNN : (a : Int) + k = N := by omega
        have R : Hid (rdG N xs (a : Int) = (0, 0, 160)) := rdG_short N xs a k HC.out hk hNN hz.out
        clear hz CM GT HC
        go_wp2_with (go_at_call 25; refine (GE.out _ hw).mono ?_; rintro e w1 ⟨rfl, hb⟩; replace B := B.keep hb; replace hw := hw.trans (hb.mono hw.size); clear hb)
        simp only [Exit.jumpS]
        go_ret3
        rw [R.out]
        exact ⟨rfl, hw⟩
    · refine ⟨_, rfl, ?_⟩
      subst hK
      have b0 := B.2.1
      have b1 := B.2.2
      have CM1 : Hid (∀ (w0 : World), Below w.heap.size w w0 → Calls Try.prog 26 #[.agg #[.int .i64 N, .slice ao xs.length cap], .int .i64 P, .int .i64 k] w0 fun e w' => e = .returned (.tuple #[.int .u64 (cm N xs (a + k + 1) k).1, .int .i64 (cm N xs (a + k + 1) k).2.1, .int .i64 (cm N xs (a + k + 1) k).2.2]) ∧ Below w0.heap.size w0 w') := fun w0 h0 => by rw [hP]; exact CM.out w0 _ _ hk (by omega) h0
      clear GE GT PL hP CM
      go_wp2_with (go_at_call 26; refine (CM1.out _ hw).mono ?_; rintro e w1 ⟨rfl, hb⟩; replace hw := hw.trans (hb.mono hw.size); clear hb)
      simp only [Exit.jumpS]
      go_ret3
      rw [hR.out]
      exact ⟨rfl, hw⟩
theorem gamma_c (N : Int) (ao : Option Addr) (xs : List Nat) (cap : Nat) (i : Int) (w : World) (hx : Wd w ao xs) (hf : Fit xs) :
    Calls Try.prog 10 #[.agg #[.int .i64 N, .slice ao xs.length cap], .int .i64 i] w fun e w' => e = .returned (.tuple #[.int .u64 (rdG N xs i).1, .int .i64 (rdG N xs i).2.1, .int .i64 (rdG N xs i).2.2]) ∧ Below w.heap.size w w' := by
  by_cases h : plE N xs i = 0
  · obtain ⟨h1, h2, h3⟩ := plE_zero N xs i h
    obtain ⟨a, rfl⟩ := Int.eq_ofNat_of_zero_le h2
    exact gamma_ok N ao xs cap a w hx hf h1 h3
  · rw [rdG_place N xs i h]
    exact gamma_bad N ao xs cap i w hx hf h

theorem delta_c (N : Int) (ao : Option Addr) (xs : List Nat) (cap : Nat) (i : Int) (w : World) (hx : Wd w ao xs) (hf : Fit xs) :
    Calls Try.prog 11 #[.agg #[.int .i64 N, .slice ao xs.length cap], .int .i64 i] w fun e w' => e = .returned (.tuple #[.int .u64 (rdD N xs i).1, .int .i64 (rdD N xs i).2.1, .int .i64 (rdD N xs i).2.2]) ∧ Below w.heap.size w w' := by
  obtain ⟨X, A, E, hg⟩ : ∃ X A E, rdG N xs i = (X, A, E) := ⟨_, _, _, rfl⟩
  have GA : Hid (∀ w0 : World, Wd w0 ao xs → Calls Try.prog 10 #[.agg #[.int .i64 N, .slice ao xs.length cap], .int .i64 i] w0 fun e w' => e = .returned (.tuple #[.int .u64 X, .int .i64 A, .int .i64 E]) ∧ Below w0.heap.size w0 w') := fun w0 h => by
    have := gamma_c N ao xs cap i w0 h hf
    rw [hg] at this
    exact this
  have K : ∀ o, Wd (w.alloc o) ao xs := fun o => hx.keep (below_alloc w o)
  by_cases hE : E = 0
  · subst hE
    obtain ⟨h1, h2, h3, h4, h5, h6, -⟩ := rdG_once N xs i X A hg
    obtain ⟨hc0, hc1, _, _⟩ := chk_out N xs h1
    obtain ⟨a, rfl⟩ := Int.eq_ofNat_of_zero_le (show 0 ≤ A by omega)
    by_cases h64 : 64 < X
    · have R : Hid (rdD N xs i = (0, 0, 161)) := by unfold Hid rdD; rw [hg]; simp [h64]
      have d1 : (64 : Int) < (X : Int) := by omega
      clear hg h5
      go_enter Try.func11, Try.ntmps11
      go_wp2_with (go_at_call 10; refine (GA.out _ (K _)).mono ?_; rintro e w' ⟨rfl, hb⟩; obtain ⟨c0, c1, hz, hw⟩ := box_cells hb; clear hb)
      go_ret3
      rw [R.out]
      exact ⟨rfl, by assumption⟩
    · have R : Hid (rdD N xs i = cm N xs a (X - 1)) := by unfold Hid rdD; rw [hg]; simp [h64]
      have d1 : ¬ (64 : Int) < (X : Int) := by omega
      have CM : Hid (∀ (w0 : World), Below w.heap.size w w0 → Calls Try.prog 26 #[.agg #[.int .i64 N, .slice ao xs.length cap], .int .i64 a, .int .i64 ((X : Int) - 1)] w0 fun e w' => e = .returned (.tuple #[.int .u64 (cm N xs a (X - 1)).1, .int .i64 (cm N xs a (X - 1)).2.1, .int .i64 (cm N xs a (X - 1)).2.2]) ∧ Below w0.heap.size w0 w') := fun w0 hb => by
        rw [show (X : Int) - 1 = ((X - 1 : Nat) : Int) by omega]
        exact compl_c N ao xs cap a (X - 1) w0 (hx.keep hb) hf h1 (by omega) h6
      have x1 : (1 : Int) ≤ (X : Int) := by omega
      have x2 : (X : Int) ≤ 64 := by omega
      clear hg h5
      go_enter Try.func11, Try.ntmps11
      go_wp2_with (first | (go_at_call 10; refine (GA.out _ (K _)).mono ?_; rintro e w' ⟨rfl, hb⟩; obtain ⟨c0, c1, hz, hw⟩ := box_cells hb; clear hb) | (go_at_call 26; refine (CM.out _ hw).mono ?_; rintro e w1 ⟨rfl, hb⟩; replace hw := hw.trans (hb.mono hw.size); clear hb))
      go_ret3
      rw [R.out]
      exact ⟨rfl, by assumption⟩
  · have R : Hid (rdD N xs i = (0, 0, E)) := by unfold Hid rdD; rw [hg]; simp [hE]
    have d1 : (E != 0) = true := by simpa using hE
    clear hg
    go_enter Try.func11, Try.ntmps11
    go_wp2_with (go_at_call 10; refine (GA.out _ (K _)).mono ?_; rintro e w' ⟨rfl, hb⟩; obtain ⟨c0, c1, hz, hw⟩ := box_cells hb; clear hb)
    go_ret3
    rw [R.out]
    exact ⟨rfl, by assumption⟩
end Go.Proofs.Ytmdmjbpehbjgpaa
