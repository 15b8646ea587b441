/-
  The contract of the program's Next, where a code stands.
-/
import Derived.Test.YtcjhiolginpgoaaM16
import Derived.WalkMore
namespace Go.Proofs.Ytcjhiolginpgoaa
open Go.RowKit Num Bit Ji Hp Ka Hr
set_option linter.unusedVariables false
set_option linter.unusedSimpArgs false
set_option maxRecDepth 100000

/-- As Q; by a goto to a label: what is said of that label. -/
def Exit.jumpS (J : Nat → Act → World → Prop) (Q : Exit → Act → World → Prop) : Exit → Act → World → Prop
  | .goto l, a, w => J l a w
  | e, a, w => Q e a w

/-- A scope in which the run jumps to labels: what holds at each jump, and a measure that each pass from a label lowers. -/
theorem wp_scope_labels {P : Program} {a : Act} {w : World} {Q : Exit → Act → World → Prop} {c : Code} (J : Nat → Act → World → Prop) (μ : Nat → Act → World → Nat)
    (first : c.wp P (Exit.jumpS J Q) a w)
    (pass : ∀ l a w, J l a w → ∃ r, findLabel c l = some r ∧ r.wp P (Exit.jumpS (fun l' a' w' => J l' a' w' ∧ μ l' a' w' < μ l a w) Q) a w) : (Code.scope c).wp P Q a w := by
  intro b k cs
  have key : ∀ n l a w, μ l a w = n → J l a w → ∃ r, gotoIn l (.inScope c :: k) = some (.code r :: .inScope c :: k) ∧ ∃ e a' w', Q e a' w' ∧ Arrives P (lone (b.at a (.code r :: .inScope c :: k)) cs w) b k cs e a' w' := by
    intro n
    induction n using Nat.strongRecOn with
    | _ n ih =>
      intro l a w hn hJ
      obtain ⟨r, hr, hp⟩ := pass l a w hJ
      refine ⟨r, by simp [gotoIn, hr], ?_⟩
      obtain ⟨e, a₁, w₁, hq, harr⟩ := hp b (.inScope c :: k) cs
      cases e with
      | normal => exact ⟨.normal, a₁, w₁, hq, Steps.trans harr (.one step_inScope)⟩
      | exit id => exact ⟨.exit id, a₁, w₁, hq, fun k' hk => harr k' (by simp [exitTo, hk])⟩
      | goto l' =>
        obtain ⟨hJ', hlt⟩ := hq
        obtain ⟨r₂, hr₂, e₂, a₂, w₂, hq₂, harr₂⟩ := ih _ (by omega) l' a₁ w₁ rfl hJ'
        exact ⟨e₂, a₂, w₂, hq₂, .of_steps (harr _ hr₂) harr₂⟩
      | ret => exact ⟨_, a₁, w₁, hq, harr⟩
      | panic ch => exact ⟨_, a₁, w₁, hq, harr⟩
      | outgrown => exact ⟨_, a₁, w₁, hq, harr⟩
  obtain ⟨e, a₁, w₁, hq, harr⟩ := first b (.inScope c :: k) cs
  cases e with
  | normal => exact ⟨.normal, a₁, w₁, hq, .head step_scope (Steps.trans harr (.one step_inScope))⟩
  | exit id => exact ⟨.exit id, a₁, w₁, hq, fun k' hk => .head step_scope (harr k' (by simp [exitTo, hk]))⟩
  | goto l' =>
    obtain ⟨r₂, hr₂, e₂, a₂, w₂, hq₂, harr₂⟩ := key _ l' a₁ w₁ rfl hq
    exact ⟨e₂, a₂, w₂, hq₂, .of_steps (.head step_scope (harr _ hr₂)) harr₂⟩
  | ret => exact ⟨_, a₁, w₁, hq, .of_steps (.one step_scope) harr⟩
  | panic ch => exact ⟨_, a₁, w₁, hq, .of_steps (.one step_scope) harr⟩
  | outgrown => exact ⟨_, a₁, w₁, hq, .of_steps (.one step_scope) harr⟩


theorem cod_pos {v : Nat → Nat} {c : Nat} (h : 0 < v c) : cod v c = code v 256 c := by unfold cod; rw [if_pos h]
theorem cod_lt {v : Nat → Nat} (h : Lok v) (c : Nat) (hc : c < 256) : cod v c < 2 ^ 40 := by
  by_cases g : 0 < v c
  · rw [cod_pos g]
    exact Nat.lt_of_lt_of_le (code_lt v 256 g (h.le c) hc (fit_need h.fit)) (Nat.pow_le_pow_right (by decide) (h.le c))
  · unfold cod; rw [if_neg g]; exact Nat.two_pow_pos _
/-- Where the code of c stands, n + 1 bits of it are read. -/
theorem reads_at {v : Nat → Nat} (h : Lok v) {B : Nat → Bool} {at_ c : Nat} (hc : c < 256) (hp : 0 < v c) (hB : ∀ i, i < v c → B (at_ + i) = (code v 256 c).testBit (v c - 1 - i)) (n : Nat) (hn : n < v c) :
    beg v (n + 1) (Hs.bv B at_ (n + 1)) c = true ∧ (∀ s, s < 256 → n + 1 < v c → beg v (n + 1) (Hs.bv B at_ (n + 1)) s = true → n + 1 < v s) ∧ (∀ s, s < 256 → n + 1 = v c → beg v (n + 1) (Hs.bv B at_ (n + 1)) s = true → s = c) := by
  have hlt := code_lt v 256 hp (h.le c) hc (fit_need h.fit)
  have e := Hs.bv_code B at_ (code v 256 c) (v c) hlt hB (n + 1) (by omega)
  rw [e]
  refine ⟨?_, fun s hs h1 hb => ?_, fun s hs h1 hb => ?_⟩
  · unfold beg
    rw [cod_pos hp]
    simp
    omega
  · unfold beg at hb
    simp only [Bool.and_eq_true, decide_eq_true_eq] at hb
    obtain ⟨b1, b2⟩ := hb
    refine Nat.lt_of_le_of_ne b1 fun e1 => ?_
    rw [cod_pos (by omega), ← e1, Nat.sub_self, Nat.pow_zero, Nat.div_one, e1] at b2
    exact (apart v 256 (a := s) (b := c) (by omega) hp (h.le c) hs hc (fun x => by subst x; omega) (by omega)).1 b2.symm
  · unfold beg at hb
    simp only [Bool.and_eq_true, decide_eq_true_eq] at hb
    obtain ⟨b1, b2⟩ := hb
    rw [h1, Nat.sub_self, Nat.pow_zero, Nat.div_one] at b2
    refine Classical.byContradiction fun hne => ?_
    rw [cod_pos (by omega)] at b2
    exact (apart v 256 (a := c) (b := s) hp (by omega) (h.le s) hc hs (fun x => hne x.symm) (by omega)).1 b2
theorem bv_lt {v : Nat → Nat} (h : Lok v) {B : Nat → Bool} {at_ c : Nat} (hc : c < 256) (hp : 0 < v c) (hB : ∀ i, i < v c → B (at_ + i) = (code v 256 c).testBit (v c - 1 - i)) (n : Nat) (hn : n ≤ v c) : Hs.bv B at_ n < 4611686018427387904 := by
  have hlt := code_lt v 256 hp (h.le c) hc (fit_need h.fit)
  rw [Hs.bv_code B at_ (code v 256 c) (v c) hlt hB n hn]
  have h1 : code v 256 c / 2 ^ (v c - n) ≤ code v 256 c := Nat.div_le_self _ _
  have h2 : 2 ^ v c ≤ 2 ^ 40 := Nat.pow_le_pow_right (by decide) (h.le c)
  have h3 : (2 : Nat) ^ 40 = 1099511627776 := by decide
  omega

set_option maxHeartbeats 8000000 in
theorem jnext_c (g cap : Nat) (v : Nat → Nat) (N at_ c : Nat) (B : Nat → Bool) (ao : Option Addr) (n cap2 : Nat) (w : World) (hC : Cel w g (cds v) 33) (hv : Lok v) (hW : Wd w ao (rowOf N B)) (hn : n = (rowOf N B).length) (hN : N ≤ 1048576) (hcc : c < 256) (hp : 0 < v c) (hat : at_ + v c ≤ N) (hB : ∀ i, i < v c → B (at_ + i) = (code v 256 c).testBit (v c - 1 - i)) :
    Calls Try.prog 18 #[.slice (some ⟨g, 0, none⟩) 256 cap, .agg #[.int .i64 (N : Nat), .slice ao n cap2], .int .i64 (at_ : Nat)] w fun e w' => e = .returned (.tuple #[.int .i64 (c : Nat), .int .i64 ((at_ + v c : Nat) : Int), .int .i64 0]) ∧ Below w.heap.size w w' := by
  subst hn
  have hgw := hC.lt
  have HCD := hide hC
  have HLK := hide hv
  have HPL := hide (reads_at hv hcc hp hB)
  have HBL := hide (bv_lt hv hcc hp hB)
  have HCL : Hid (∀ c, c < 256 → cod v c < 18446744073709551616) := fun c h => by
    have h1 := cod_lt hv c h
    have h3 : (2 : Nat) ^ 40 = 1099511627776 := by decide
    omega
  have HLE : Hid (v c ≤ 40) := hv.le c
  have hk := chk_rowOf N B hN
  have CC := hide (fun w0 (hb : Below w.heap.size w w0) => jcanon_c g cap v w0 (hC.keep hb hC.lt) hv)
  have CK : Hid (∀ w0, Below w.heap.size w w0 → Calls Try.prog 32 #[.agg #[.int .i64 (N : Nat), .slice ao (rowOf N B).length cap2]] w0 fun e w' => e = .returned (.bool true) ∧ Below w0.heap.size w0 w') := fun w0 hb => by
    have := check_c (N : Nat) ao (rowOf N B) cap2 w0 (hW.keep hb)
    rw [hk] at this
    exact this
  have CG : Hid (∀ (k : Nat) (w0 : World), k < v c → Below w.heap.size w w0 → Calls Try.prog 34 #[.agg #[.int .i64 (N : Nat), .slice ao (rowOf N B).length cap2], .int .i64 ((at_ : Int) + (k : Nat))] w0 fun e w' => e = .returned (.tuple #[.bool (B (at_ + k)), .int .i64 0]) ∧ Below w0.heap.size w0 w') := fun k w0 hk2 hb => by
    have := get_c (N : Nat) ao (rowOf N B) cap2 ((at_ : Int) + (k : Nat)) w0 (hW.keep hb) (fit_rowOf _ _)
    have e1 : getE (N : Nat) (rowOf N B) ((at_ : Int) + (k : Nat)) = 0 := by unfold getE; rw [if_neg (by rw [hk]; simp), if_neg (by omega)]
    have e2 : getB (N : Nat) (rowOf N B) ((at_ : Int) + (k : Nat)) = B (at_ + k) := by
      unfold getB
      rw [hk, show ((at_ : Int) + (k : Nat)).toNat = at_ + k by omega, bitAt_rowOf, decide_eq_true (show 0 ≤ (at_ : Int) + (k : Nat) ∧ (at_ : Int) + (k : Nat) < (N : Nat) by omega), decide_eq_true (show at_ + k < N by omega)]
      simp
    rw [e1, e2] at this
    exact this
  clear hC hv hW hB hk
  generalize (rowOf N B).length = n at *
  have HB0 := hide (below_alloc w (.cells #[.int .i64 (N : Nat), .slice ao n cap2] 45))
  have HX0 := hide (Cel.new w [.int .i64 (N : Nat), .slice ao n cap2] 45)
  go_enter Try.func18, Try.ntmps18
  go_wp2_with fail
  refine wp_scope_labels (fun l a' w' => l = 0 ∧ (Cel w' w.heap.size [.int .i64 (N : Nat), .slice ao n cap2] 45 ∧ Below w.heap.size w w') ∧ ∃ (n0 gr : Nat) (P : Int) (u11 u12 u13 u14 u15 u16 u17 u18 u19 u20 u21 u22 u23 u24 u25 u26 u27 u28 u29 u30 u31 u32 u33 u34 u35 u36 u37 u38 u39 u40 u41 u42 u43 u44 u45 u46 u47 u48 u49 u50 u51 u52 u53 u54 u55 u56 u57 u58 u59 : Value), Cel w' gr [.int .i64 (n0 : Nat), .int .u64 (Hs.bv B at_ n0 : Nat)] 33 ∧ a' = { tmps := #[.slice (some ⟨g, 0, none⟩) 256 cap, .agg #[.int .i64 (N : Nat), .slice ao n cap2], .int .i64 P, undef, .pointer (some ⟨w.heap.size, 0, none⟩), undef, .int .i64 0, .int .i64 0, .int .i64 0, .pointer (some ⟨gr, 0, none⟩), .func (.func 33) #[] #[.pointer (some ⟨gr, 0, none⟩)], u11, u12, u13, u14, u15, u16, u17, u18, u19, u20, u21, u22, u23, u24, u25, u26, u27, u28, u29, u30, u31, u32, u33, u34, u35, u36, u37, u38, u39, u40, u41, u42, u43, u44, u45, u46, u47, u48, u49, u50, u51, u52, u53, u54, u55, u56, u57, u58, u59], defers := [] } ∧ P = (at_ : Int) + (n0 : Nat) ∧ n0 < v c ∧ Hid (w.heap.size < gr)) (fun l a' _ => at_ + v c - (intOf (a'.tmps.getD 2 undef)).toNat) ?_ ?_
  · have c0 := HX0.out.cell 0 rfl
    have c1 := HX0.out.cell 1 rfl
    go_wp2_with fail
    refine (CC.out _ HB0.out).mono ?_
    rintro e w1 ⟨rfl, hb1⟩
    have HX1' := hide (HX0.out.kept hb1)
    have HB1' := hide (HB0.out.trans (hb1.mono HB0.out.size))
    clear hb1 c0 c1
    have c0 := HX1'.out.cell 0 rfl
    have c1 := HX1'.out.cell 1 rfl
    go_wp2_with fail
    refine (CK.out _ HB1'.out).mono ?_
    rintro e w2 ⟨rfl, hb2⟩
    have HX2' := hide (HX1'.out.kept hb2)
    have HB2' := hide (HB1'.out.trans (hb2.mono HB1'.out.size))
    have HGR : Hid (w.heap.size < w2.heap.size) := by have h1 := HX2'.out.lt; exact h1
    clear hb2 c0 c1 HX1' HB1' HX0 HB0 CC CK
    have HBX := hide (HX2'.out.alloc (.cells #[.int .i64 0, .int .u64 0] 33))
    have HRX : Hid (Cel (w2.alloc (.cells #[.int .i64 0, .int .u64 0] 33)) w2.heap.size [.int .i64 0, .int .u64 0] 33) := Cel.new w2 _ _
    have HBB := hide (HB2'.out.alloc HB2'.out.size (.cells #[.int .i64 0, .int .u64 0] 33))
    have c0 := HX2'.out.cell 0 rfl
    have c1 := HX2'.out.cell 1 rfl
    have hnL : 0 < v c := hp
    have az : ¬ (at_ : Int) < 0 := by omega
    have az2 : ¬ ((N : Nat) : Int) < (at_ : Int) := by omega
    have hb0 := HBX.out.cell 0 rfl
    have hb1 := HBX.out.cell 1 rfl
    have hr0 := HRX.out.cell 0 rfl
    have hr1 := HRX.out.cell 1 rfl
    have HP1 := hide (HPL.out 0 hnL)
    have bvlt : 0 < 4611686018427387904 := by decide
    have C1 : Hid (Calls Try.prog 34 #[.agg #[.int .i64 (N : Nat), .slice ao n cap2], .int .i64 (at_ : Int)] (w2.alloc (.cells #[.int .i64 0, .int .u64 0] 33)) fun e w' => e = .returned (.tuple #[.bool (B (at_ + 0)), .int .i64 0]) ∧ Below (w2.alloc (.cells #[.int .i64 0, .int .u64 0] 33)).heap.size (w2.alloc (.cells #[.int .i64 0, .int .u64 0] 33)) w') := by
      have := CG.out 0 _ hnL HBB.out
      rw [show (at_ : Int) + ((0 : Nat) : Int) = (at_ : Int) by omega] at this
      exact this
    obtain ⟨X1, hX1⟩ : ∃ X1, Hid (Hs.bv B at_ (0 + 1) = X1) := ⟨_, rfl⟩
    have HX1 := hX1
    have C2 : Hid (∀ w0, Calls Try.prog 35 #[.agg #[.int .i64 0, .int .u64 0], .bool (B (at_ + 0))] w0 fun e w' => e = .returned (.agg #[.int .i64 ((0 + 1 : Nat) : Int), .int .u64 (X1 : Nat)]) ∧ Below w0.heap.size w0 w') := fun w0 => by
      have := jlonger_c 0 0 (B (at_ + 0)) w0 (by omega) bvlt
      rw [← hX1.out]
      exact this
    clear hX1 bvlt CG HPL HBL
    generalize B (at_ + 0) = bit at *
    go_wp2_with fail
    clear c0 c1 HX2' HB2'
    generalize w2.alloc (.cells #[.int .i64 0, .int .u64 0] 33) = W at *
    generalize w2.heap.size = gr at *
    go_step3
    go_wp2_with fail
    refine (C1.out).mono ?_
    rintro e w1 ⟨rfl, hb1'⟩
    have HB1 := hide (HBB.out.trans (hb1'.mono HBB.out.size))
    have hR1 := HRX.out.kept hb1'
    have HX2 := hide (HBX.out.kept hb1')
    clear hb1' hb0 hb1 hr0 hr1 C1
    have hr0 := hR1.cell 0 rfl
    have hr1 := hR1.cell 1 rfl
    go_wp2_with fail
    refine (C2.out _).mono ?_
    rintro e w2' ⟨rfl, hb2⟩
    have HB2 := hide (HB1.out.trans (hb2.mono HB1.out.size))
    have hR2 := hR1.kept hb2
    have HX3 := hide (HX2.out.kept hb2)
    clear hb2 hR1 hr0 hr1 C2 HB1 HX2
    go_wp2_with (refine store_cel gr _ [.int .i64 ((0 + 1 : Nat) : Int), .int .u64 (X1 : Nat)] rfl rfl hR2 rfl (by kernel_rfl) (one2 rfl rfl) ?_)
    intro w3 hc3 ho3
    have HB3 := hide (HB2.out.trans (ho3.below (by have := HGR.out; omega)))
    have HX4 := hide (ho3.cel HX3.out (by have := HGR.out; omega))
    have HR3 := hide hc3
    have hcd := HCD.out.keep HB3.out hgw
    have C3 := hide (jidxc_c g cap (0 + 1) X1 gr v w3 hcd hc3 HLK.out.le HCL.out)
    clear hc3 ho3 hR2 HB2 HX3
    go_wp2_with fail
    refine (C3.out).mono ?_
    rintro e w4 ⟨hI, hb4⟩
    have HB4 := hide (HB3.out.trans (hb4.mono HB3.out.size))
    have HX5 := hide (HX4.out.kept hb4)
    have HR5 := hide (HR3.out.kept hb4)
    clear hb4 HB3 HX4 HR3 C3 hcd
    have HP2 := HP1.out
    rw [HX1.out] at HP2
    replace HP1 := hide HP2
    clear HP2
    rcases hI with ⟨s, hs, rfl, hbg⟩ | ⟨_, hno⟩
    rotate_left
    · exact absurd (hno c hcc) (by rw [HP1.out.1]; simp)
    have hr0 := HR5.out.cell 0 rfl
    have hcs := (HCD.out.keep HB4.out hgw).cell (s * 2) (cds_fst v s hs)
    have s256 : (s : Int) < 256 := by omega
    by_cases hend : 0 + 1 = v c
    · obtain rfl : s = c := HP1.out.2.2 s hs hend hbg
      have HE : Hid (((at_ + v s : Nat) : Int) = (at_ : Int) + 1) := by show _ = _; omega
      have hvq : v s = 0 + 1 := hend.symm
      rw [hvq] at hcs
      have HF : Hid (Below w.heap.size w w4) := HB4.out
      have hvz : ¬ (((0 + 1 : Nat) : Int) < ((0 + 1 : Nat) : Int)) := by omega
      clear hend hvq HP1
      go_wp2
      go_quiet (fail)
      go_wp2
      simp only [Exit.jumpS]
      go_ret3
      exact ⟨by rw [HE.out]; rfl, below_drewN HF.out _⟩
    · have hgt := HP1.out.2.1 s hs (by omega) hbg
      have hvz : ((0 + 1 : Nat) : Int) < ((v s : Nat) : Int) := by omega
      have HF : Hid (∀ k, Below w.heap.size w (w4.drewN k)) := fun k => below_drewN HB4.out k
      rw [← HX1.out] at HR5
      generalize v s = vs at *
      go_wp2
      go_quiet (fail)
      go_wp2
      go_step3
      exact ⟨rfl, ⟨HX5.out, HF.out _⟩, 1, gr, _, _, _, _, _, _, _, _, _, _, _, _, _, _, _, _, _, _, _, _, _, _, _, _, _, _, _, _, _, _, _, _, _, _, _, _, _, _, _, _, _, _, _, _, _, _, _, _, _, _, HR5.out, rfl, by omega, by omega, HGR⟩
  · rintro l a' W ⟨hl0, ⟨hbx, hbb⟩, n0, gr, P, u11, u12, u13, u14, u15, u16, u17, u18, u19, u20, u21, u22, u23, u24, u25, u26, u27, u28, u29, u30, u31, u32, u33, u34, u35, u36, u37, u38, u39, u40, u41, u42, u43, u44, u45, u46, u47, u48, u49, u50, u51, u52, u53, u54, u55, u56, u57, u58, u59, hrx, rfl, hP, hnL, HGR⟩
    · subst hl0
      refine ⟨_, rfl, ?_⟩
      subst hP
      have HBX := hide hbx
      have HRX := hide hrx
      have HBB := hide hbb
      clear hbx hrx hbb HX0 HB0 CC CK
      have hb0 := HBX.out.cell 0 rfl
      have hb1 := HBX.out.cell 1 rfl
      have hr0 := HRX.out.cell 0 rfl
      have hr1 := HRX.out.cell 1 rfl
      have HP1 := hide (HPL.out n0 hnL)
      have bvlt := HBL.out n0 (by omega)
      have C1 := hide (CG.out n0 W hnL HBB.out)
      obtain ⟨X1, hX1⟩ : ∃ X1, Hid (Hs.bv B at_ (n0 + 1) = X1) := ⟨_, rfl⟩
      have HX1 := hX1
      have C2 : Hid (∀ w0, Calls Try.prog 35 #[.agg #[.int .i64 (n0 : Nat), .int .u64 (Hs.bv B at_ n0 : Nat)], .bool (B (at_ + n0))] w0 fun e w' => e = .returned (.agg #[.int .i64 ((n0 + 1 : Nat) : Int), .int .u64 (X1 : Nat)]) ∧ Below w0.heap.size w0 w') := fun w0 => by
        have := jlonger_c n0 (Hs.bv B at_ n0) (B (at_ + n0)) w0 (by have := HLE.out; omega) bvlt
        rw [← hX1.out]
        exact this
      have n040 : n0 < 40 := by have := HLE.out; omega
      clear hX1 CG HPL HBL
      generalize B (at_ + n0) = bit at *
      generalize Hs.bv B at_ n0 = X0 at *
      go_wp2_with fail
      refine (C1.out).mono ?_
      rintro e w1 ⟨rfl, hb1'⟩
      have HB1 := hide (HBB.out.trans (hb1'.mono HBB.out.size))
      have hR1 := HRX.out.kept hb1'
      have HX2 := hide (HBX.out.kept hb1')
      clear hb1' hb0 hb1 hr0 hr1 C1
      have hr0 := hR1.cell 0 rfl
      have hr1 := hR1.cell 1 rfl
      go_wp2_with fail
      refine (C2.out _).mono ?_
      rintro e w2' ⟨rfl, hb2⟩
      have HB2 := hide (HB1.out.trans (hb2.mono HB1.out.size))
      have hR2 := hR1.kept hb2
      have HX3 := hide (HX2.out.kept hb2)
      clear hb2 hR1 hr0 hr1 C2 HB1 HX2
      go_wp2_with (refine store_cel gr _ [.int .i64 ((n0 + 1 : Nat) : Int), .int .u64 (X1 : Nat)] rfl rfl hR2 rfl (by kernel_rfl) (one2 rfl rfl) ?_)
      intro w3 hc3 ho3
      have HB3 := hide (HB2.out.trans (ho3.below (by have := HGR.out; omega)))
      have HX4 := hide (ho3.cel HX3.out (by have := HGR.out; omega))
      have HR3 := hide hc3
      have hcd := HCD.out.keep HB3.out hgw
      have C3 := hide (jidxc_c g cap (n0 + 1) X1 gr v w3 hcd hc3 HLK.out.le HCL.out)
      clear hc3 ho3 hR2 HB2 HX3
      go_wp2_with fail
      refine (C3.out).mono ?_
      rintro e w4 ⟨hI, hb4⟩
      have HB4 := hide (HB3.out.trans (hb4.mono HB3.out.size))
      have HX5 := hide (HX4.out.kept hb4)
      have HR5 := hide (HR3.out.kept hb4)
      clear hb4 HB3 HX4 HR3 C3 hcd
      have HP2 := HP1.out
      rw [HX1.out] at HP2
      replace HP1 := hide HP2
      clear HP2
      rcases hI with ⟨s, hs, rfl, hbg⟩ | ⟨_, hno⟩
      rotate_left
      · exact absurd (hno c hcc) (by rw [HP1.out.1]; simp)
      have hr0 := HR5.out.cell 0 rfl
      have hcs := (HCD.out.keep HB4.out hgw).cell (s * 2) (cds_fst v s hs)
      have s256 : (s : Int) < 256 := by omega
      by_cases hend : n0 + 1 = v c
      · obtain rfl : s = c := HP1.out.2.2 s hs hend hbg
        have HE : Hid (((at_ + v s : Nat) : Int) = (at_ : Int) + (n0 : Int) + 1) := by show _ = _; omega
        have hvq : v s = n0 + 1 := hend.symm
        rw [hvq] at hcs
        have HF : Hid (Below w.heap.size w w4) := HB4.out
        have hvz : ¬ (((n0 + 1 : Nat) : Int) < ((n0 + 1 : Nat) : Int)) := by omega
        clear hend hvq HP1
        go_wp2
        go_quiet (fail)
        go_wp2
        simp only [Exit.jumpS]
        go_ret3
        exact ⟨by rw [HE.out]; rfl, below_drewN HF.out _⟩
      · have hgt := HP1.out.2.1 s hs (by omega) hbg
        have hvz : ((n0 + 1 : Nat) : Int) < ((v s : Nat) : Int) := by omega
        have HF : Hid (∀ k, Below w.heap.size w (w4.drewN k)) := fun k => below_drewN HB4.out k
        rw [← HX1.out] at HR5
        generalize v s = vs at *
        go_wp2
        go_quiet (fail)
        go_wp2
        go_step3
        exact ⟨⟨rfl, ⟨HX5.out, HF.out _⟩, n0 + 1, gr, _, _, _, _, _, _, _, _, _, _, _, _, _, _, _, _, _, _, _, _, _, _, _, _, _, _, _, _, _, _, _, _, _, _, _, _, _, _, _, _, _, _, _, _, _, _, _, _, _, _, HR5.out, rfl, by omega, by omega, HGR⟩, by simp [intOf]; omega⟩
end Go.Proofs.Ytcjhiolginpgoaa
