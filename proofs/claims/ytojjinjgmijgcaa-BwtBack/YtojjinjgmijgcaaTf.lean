/-
  The contracts of the program's named and alike.
-/
import Derived.Test.YtojjinjgmijgcaaTe
import Derived.Deep.QuietTactic
import Derived.BigQuiet
import Derived.Laws.StructEq
namespace Go.Proofs.Ytojjinjgmijgcaa
open Go.RowKit
set_option linter.unusedVariables false
set_option linter.unusedSimpArgs false
set_option maxRecDepth 100000

/-- Two pairs compared. -/
theorem eq_pair (d : Nat) (w : World) (x y x' y' : Int) : (Op.equalIn (d + 2) 59 (.agg #[.int .i64 x, .int .i64 y]) (.agg #[.int .i64 x', .int .i64 y'])).run Try.prog w = .ok (x == x' && y == y') w := by
  have e3 := fun a b => run_equalIn_int (P := Try.prog) w d 3 .i64 .i64 a b Try.underlying3
  rw [Op.equalIn]
  simp only [Sem.run_bind, run_underlying Try.underlying59, Result.andThen_ok, Try.sizeOf3]
  simp [part]
  rw [show List.range' 0 2 = [0, 1] from rfl]
  cases h1 : (x == x') <;> cases h2 : (y == y') <;> simp [Try.isAgg3, e3, h1, h2]
theorem neq_pair (w : World) (x y x' y' : Int) : (binOp .neq 59 (.agg #[.int .i64 x, .int .i64 y]) (.agg #[.int .i64 x', .int .i64 y'])).run Try.prog w = .ok (.bool (!(x == x' && y == y'))) w := by
  rw [run_neq_struct, eq_pair 9998]
  rfl
theorem guard_pair : Try.prog.eqGuardType Try.prog.depth 59 = false := by kernel_rfl
namespace Su
/-- The name at a place of the order. -/
def nk (E : List Nat) (p : Nat → Nat × Nat) : Nat → Nat
  | 0 => 0
  | i + 1 => nk E p i + if p (gt E (i + 1)) = p (gt E i) then 0 else 1
theorem nk_le (E : List Nat) (p : Nat → Nat × Nat) : ∀ i, nk E p i ≤ i
  | 0 => Nat.le_refl _
  | i + 1 => by
    have := nk_le E p i
    rw [nk]
    split <;> omega
/-- The names of the first q places are there. -/
def nl (E : List Nat) (p : Nat → Nat × Nat) : Nat → List Nat
  | 0 => List.replicate E.length 0
  | q + 1 => (nl E p q).set (gt E q) (nk E p q)
theorem length_nl (E : List Nat) (p : Nat → Nat × Nat) : ∀ q, (nl E p q).length = E.length
  | 0 => List.length_replicate
  | q + 1 => by rw [nl, List.length_set, length_nl E p q]
end Su
theorem pq_a (n : Nat) (a b : Nat → Nat) (q : Nat) (h : q < n) : (pq n a b n)[q * 2]? = some (.int .i64 (a q : Nat)) := by
  unfold pq
  rw [bl2_fst _ _ _ _ h, if_pos h]
theorem pq_b (n : Nat) (a b : Nat → Nat) (q : Nat) (h : q < n) : (pq n a b n)[q * 2 + 1]? = some (.int .i64 (b q : Nat)) := by
  unfold pq
  rw [bl2_snd _ _ _ _ h, if_pos h]
set_option maxHeartbeats 4000000 in
theorem snamed_c (ge gp : Nat) (E : List Nat) (a b : Nat → Nat) (cap dap : Nat) (w : World) (hx : Cel w ge (iv E) 3) (hy : Cel w gp (pq E.length a b E.length) 59) (hl : E.length ≤ 8193) (hE : ∀ i, i < E.length → gt E i < E.length) :
    Calls Try.prog 31 #[.slice (some ⟨ge, 0, none⟩) E.length cap, .slice (some ⟨gp, 0, none⟩) E.length dap] w fun e w' => NewR w w' e (Su.nl E (fun i => (a i, b i)) E.length) := by
  obtain ⟨i0, hi, hz0, hz1, hz2⟩ := info_parts Try.info3
  obtain ⟨n, hn⟩ : ∃ n, Hid (n = E.length) := ⟨_, rfl⟩
  obtain ⟨p, hp⟩ : ∃ p : Nat → Nat × Nat, Hid (p = fun i => (a i, b i)) := ⟨_, rfl⟩
  have HX := hide hx
  have hge := hx.lt
  have hgp := hy.lt
  rw [← hn.out] at hl hE hy ⊢
  rw [← hp.out]
  have HY := hide hy
  have HE := hide hE
  clear hx hy hE
  go_enter Try.func31, Try.ntmps31
  go_wp2_with (at_make; refine wpList_make_full _ rfl _ _ 23 rfl w.heap.size 3 i0 (.int .i64 0) 1 Try.underlying23 hi hz0 hz1 .i64 .i64 _ _ n rfl rfl rfl rfl ?b2 ?b3 ?b4 ?_)
  case b2 => rw [hz2]; omega
  case b3 => unfold maxLen; omega
  case b4 => simp
  intro w1 hown hgr
  have B1 := cel_made hown
  have hb1 : Below w.heap.size w w1 := (Below.refl _ _).grown hgr (Nat.le_refl _) (fun k h => by cases h)
  rw [← iv_rep n] at B1
  have HL1 : Hid (Cel w1 w.heap.size (iv (Su.nl E p 0)) 3) := by rw [Su.nl, ← hn.out]; exact B1
  have HB1 := hide hb1
  clear hown hgr hb1 hi hz0 hz1 hz2 B1
  obtain ⟨g1, hg1⟩ : ∃ g1, Hid (g1 = w.heap.size) := ⟨_, rfl⟩
  rw [← hg1.out] at HL1 ⊢
  have hgle : w.heap.size ≤ g1 := by have := hg1.out; omega
  have hne : ge ≠ g1 := by omega
  have hnp : gp ≠ g1 := by omega
  go_wp2
  go_loopw [6, 13] (fun vm vi wr => ∃ q : Nat, q ≤ n ∧ vi = .int .i64 q ∧ vm = .int .i64 (Su.nk E p (q - 1) : Nat) ∧ Hid (Cel wr g1 (iv (Su.nl E p q)) 3) ∧ Hid (Below w.heap.size w wr)) (fun _ vi _ => n - (intOf vi).toNat)
  case atStart => exact ⟨0, Nat.zero_le _, rfl, rfl, HL1, HB1⟩
  case round =>
    clear HL1 HB1
    obtain ⟨q, hq, rfl, rfl, HO, HB⟩ := hrel
    by_cases hlt : q < n
    · have hltz : (q : Int) < (n : Int) := by omega
      have HC := HX.out.keep HB.out hge
      have HD := HY.out.keep HB.out hgp
      have e1 := HC.cell q (iv_get E q (by rw [← hn.out]; omega))
      have hx1 := HE.out q hlt
      have hx1z : (gt E q : Int) < (n : Int) := by omega
      have n1 := HO.out.cell (gt E q) (iv_get _ (gt E q) (by rw [Su.length_nl, ← hn.out]; exact hx1))
      have f1 := HO.out.frozen (gt E q)
      have hnk := Su.nk_le E p (q - 1)
      have OK : Hid (∀ k, Cel ((wr.drewN k).setCell ⟨g1, gt E q, none⟩ (.int .i64 (Su.nk E p q : Nat))) g1 (iv (Su.nl E p (q + 1))) 3 ∧ Below w.heap.size w ((wr.drewN k).setCell ⟨g1, gt E q, none⟩ (.int .i64 (Su.nk E p q : Nat)))) := fun k => by
        have := (HO.out.kept (below_drewN (Below.refl _ _) k)).set (gt E q) (.int .i64 (Su.nk E p q : Nat))
        rw [iv_set] at this
        rw [Su.nl]
        exact ⟨this, (below_drewN HB.out k).setCell (p := ⟨g1, gt E q, none⟩) hgle _⟩
      by_cases h0 : q = 0
      · have hq1 : decide (0 < q) = false := decide_eq_false (by omega)
        have NK : Hid (Su.nk E p q = Su.nk E p (q - 1)) := by
          show Su.nk E p q = _
          rw [h0]
        rw [NK.out] at OK
        clear HC HD h0
        generalize Su.nk E p (q - 1) = nm at *
        generalize gt E q = x at *
        go_wp2
        go_quiet (fail)
        go_wp2
        exact ⟨⟨q + 1, by omega, by go_num, by rw [Nat.add_sub_cancel, NK.out], (OK.out _).1, (OK.out _).2⟩, by simp only [intOf]; omega⟩
      · obtain ⟨r, hr⟩ : ∃ r, Hid (q = r + 1) := ⟨q - 1, by show q = _; omega⟩
        have hrz : (q : Int) - 1 = (r : Int) := by have := hr.out; omega
        have hrn : r < n := by have := hr.out; omega
        have hrnz : (r : Int) < (n : Int) := by omega
        have hq1 : decide (0 < q) = true := decide_eq_true (by omega)
        have hwr : IntKind.i64.wrap (r : Int) = (r : Int) := by simp [IntKind.wrap, IntKind.bits, IntKind.signed]; omega
        have e2 := HC.cell r (iv_get E r (by rw [← hn.out]; omega))
        have hx2 := HE.out r hrn
        have hx2z : (gt E r : Int) < (n : Int) := by omega
        have m1 := HD.cell _ (pq_a n a b (gt E q) hx1)
        have m2 := HD.cell _ (pq_b n a b (gt E q) hx1)
        have m3 := HD.cell _ (pq_a n a b (gt E r) hx2)
        have m4 := HD.cell _ (pq_b n a b (gt E r) hx2)
        have GP := guard_pair
        by_cases hpp : p (gt E q) = p (gt E r)
        · have NK : Hid (Su.nk E p q = Su.nk E p (q - 1)) := by
            show Su.nk E p q = _
            have h1 := hr.out
            subst h1
            rw [Su.nk, if_pos hpp]
            rfl
          have NP : ∀ w, (binOp .neq 59 (.agg #[.int .i64 (a (gt E q) : Nat), .int .i64 (b (gt E q) : Nat)]) (.agg #[.int .i64 (a (gt E r) : Nat), .int .i64 (b (gt E r) : Nat)])).run Try.prog w = .ok (.bool false) w := fun w => by
            rw [hp.out] at hpp
            injection hpp with h1 h2
            rw [neq_pair, h1, h2]
            simp
          rw [NK.out] at OK
          clear HC HD hpp
          generalize Su.nk E p (q - 1) = nm at *
          generalize gt E q = x at *
          generalize gt E r = y at *
          generalize a x = ax at *
          generalize b x = bx at *
          generalize a y = ay at *
          generalize b y = bY at *
          go_wp2
          go_quiet (fail)
          go_wp2
          exact ⟨⟨q + 1, by omega, by go_num, by rw [Nat.add_sub_cancel, NK.out], (OK.out _).1, (OK.out _).2⟩, by simp only [intOf]; omega⟩
        · have NK : Hid (Su.nk E p q = Su.nk E p (q - 1) + 1) := by
            show Su.nk E p q = _
            have h1 := hr.out
            subst h1
            rw [Su.nk, if_neg hpp]
            rfl
          have NP : ∀ w, (binOp .neq 59 (.agg #[.int .i64 (a (gt E q) : Nat), .int .i64 (b (gt E q) : Nat)]) (.agg #[.int .i64 (a (gt E r) : Nat), .int .i64 (b (gt E r) : Nat)])).run Try.prog w = .ok (.bool true) w := fun w => by
            rw [hp.out] at hpp
            rw [neq_pair]
            congr 2
            rw [Bool.not_eq_true', Bool.and_eq_false_iff, beq_eq_false_iff_ne, beq_eq_false_iff_ne]
            by_cases h1 : a (gt E q) = a (gt E r)
            · right
              intro h2
              exact hpp (by simp only [h1, Prod.mk.injEq, true_and]; omega)
            · left
              omega
          rw [NK.out] at OK
          have NC : Hid (((Su.nk E p (q - 1) : Nat) : Int) + 1 = ((Su.nk E p (q - 1) + 1 : Nat) : Int)) := by show _ = _; omega
          clear HC HD hpp
          generalize Su.nk E p (q - 1) = nm at *
          generalize gt E q = x at *
          generalize gt E r = y at *
          generalize a x = ax at *
          generalize b x = bx at *
          generalize a y = ay at *
          generalize b y = bY at *
          go_wp2
          go_quiet (fail)
          go_wp2
          rw [NC.out]
          exact ⟨⟨q + 1, by omega, by go_num, by rw [Nat.add_sub_cancel, NK.out], (OK.out _).1, (OK.out _).2⟩, by simp only [intOf]; omega⟩
    · have hge2 : (n : Int) ≤ (q : Int) := by omega
      have hqn : Hid (q = n) := by have : q = n := by omega
                                   exact this
      go_wp2
      go_ret
      refine NewR.mk (by rw [Su.length_nl, ← hn.out]) ?_ hgle HB.out
      rw [← hqn.out]
      exact HO.out
set_option maxHeartbeats 2000000 in
theorem salike_c (ge gn : Nat) (E N : List Nat) (cap dap m : Nat) (w : World) (hx : Cel w ge (iv E) 3) (hy : Cel w gn (iv N) 3) (hE : E.length = m + 1) (hN : N.length = m + 1) (hm : m ≤ 8192) (hl : gt E m ≤ m) :
    Calls Try.prog 32 #[.slice (some ⟨ge, 0, none⟩) E.length cap, .slice (some ⟨gn, 0, none⟩) N.length dap] w fun e w' => e = .returned (.bool (decide (gt N (gt E m) < m))) ∧ w' = w := by
  have e1 := hx.cell m (iv_get E m (by omega))
  have e2 := hy.cell (gt E m) (iv_get N (gt E m) (by omega))
  obtain ⟨n, hn⟩ : ∃ n, Hid (n = m + 1) := ⟨_, rfl⟩
  rw [hE, hN, ← hn.out]
  have hnz : (n : Int) - 1 = (m : Int) := by rw [hn.out]; omega
  have hwm : IntKind.i64.wrap (m : Int) = (m : Int) := by simp [IntKind.wrap, IntKind.bits, IntKind.signed]; omega
  have hmn : (m : Int) < (n : Int) := by rw [hn.out]; omega
  have hxn : ((gt E m : Nat) : Int) < (n : Int) := by rw [hn.out]; omega
  have hn2 : n ≤ 8193 := by rw [hn.out]; omega
  clear hx hy hE hN hl
  generalize gt E m = x at *
  generalize gt N x = y at *
  go_enter Try.func32, Try.ntmps32
  go_wp2
  go_ret
  exact ⟨rfl, rfl⟩
end Go.Proofs.Ytojjinjgmijgcaa
