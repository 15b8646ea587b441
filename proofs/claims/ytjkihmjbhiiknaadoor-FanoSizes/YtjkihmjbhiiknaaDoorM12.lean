/-
  A row by places that is built, right; an argument of the type api.Fano, opened. The contracts of heads and small.
-/
import Derived.Test.YtjkihmjbhiiknaaDoorM11
import Derived.Test.YtjkihmjbhiiknaaDoorM02
import Derived.Test.YtjkihmjbhiiknaaDoorRows
import Derived.ChangeSame
namespace Go.Proofs.YtjkihmjbhiiknaaDoor
open Go.ChangeShapes Go.WideShapes Go.ChangeAt Go.RowKit Go.Joins Go.Deep Num Bit
set_option linter.unusedVariables false
set_option maxRecDepth 100000

theorem cells_i4 : Tryd.prog.cellsOf 28 = 4 := by kernel_rfl
theorem cells_f8 : Tryd.prog.cellsOf 30 = 8 := by kernel_rfl
theorem array8 {cs : Array Value} (h : cs.size = 8) : ∃ a b c d e f g i, cs = #[a, b, c, d, e, f, g, i] := by
  obtain ⟨l⟩ := cs
  match l, h with
  | [a, b, c, d, e, f, g, i], _ => exact ⟨a, b, c, d, e, f, g, i, rfl⟩
theorem trod_struct4 {H : Type} {enc : TypeId × Value → H} {P : Program} {w : World} {base : Nat} {spare : Nat → Bool} {held : Bool} {t : TypeId} {f0 f1 f2 f3 : Field} {fuel : Nat} {cs : List Value} {x : DataW H × List MemPlace} (ht : P.underlying t = some (.struct #[f0, f1, f2, f3])) (h : DataW.trod enc P w base spare held fuel t cs = some x) :
    ∃ y0 y1 y2 y3 n, DataW.trod enc P w base spare held n f0.type ((cs.drop f0.offset).take (P.cellsOf f0.type)) = some y0 ∧
      DataW.trod enc P w base spare held n f1.type ((cs.drop f1.offset).take (P.cellsOf f1.type)) = some y1 ∧ DataW.trod enc P w base spare held n f2.type ((cs.drop f2.offset).take (P.cellsOf f2.type)) = some y2 ∧
      DataW.trod enc P w base spare held n f3.type ((cs.drop f3.offset).take (P.cellsOf f3.type)) = some y3 := by
  obtain ⟨xs, n, _, rfl, hl, hlen, hf⟩ := DataW.trod_struct ht h
  match xs, hlen with
  | [y0, y1, y2, y3], _ => exact ⟨y0, y1, y2, y3, n, by simpa using hf 0 f0 rfl, by simpa using hf 1 f1 rfl, by simpa using hf 2 f2 rfl, by simpa using hf 3 f3 rfl⟩
theorem open_i {H : Type} {enc : TypeId × Value → H} {W : World} {n : Nat} {c : Value} {y : DataW H × List MemPlace} (h : DataW.trod enc Tryd.prog W 0 (fun _ => true) true n 3 [c] = some y) : ∃ N, c = .int .i64 N ∧ I64 N := by
  obtain ⟨a, e0, _, wa⟩ := DataW.trod_int Tryd.underlying3 h
  simp at e0
  exact ⟨a, e0, i64_wf a wa⟩
theorem open_us {H : Type} {enc : TypeId × Value → H} {W : World} {n : Nat} {c : Value} {y : DataW H × List MemPlace} (h : DataW.trod enc Tryd.prog W 0 (fun _ => true) true n 22 [c] = some y) : ∃ ao xs cap, c = .slice ao (List.length xs) cap ∧ Wd W ao xs ∧ Fit xs ∧ xs.length ≤ cap := by
  rcases open_ints Tryd.underlying22 Tryd.underlying54 Tryd.cells54 h with ⟨hcs, _⟩ | ⟨x, l, cp, zs, hcs, _, hl, hm, hz, _, hcell, hwz⟩
  · simp at hcs
    subst hcs
    exact ⟨none, [], 0, rfl, wd0' _ _, fun i => by unfold gt; simp, by simp⟩
  · simp at hcs
    subst hcs
    have hz2 : zs.length = cp := by simpa using hz
    obtain ⟨xs, hx1, hx2, hx3⟩ := wd_of W x l zs (by omega) hcell hwz
    subst hx1
    exact ⟨some x, xs, cp, rfl, hx2, hx3, hl⟩
theorem open_b2 {H : Type} {enc : TypeId × Value → H} {W : World} {n : Nat} {c d : Value} {y : DataW H × List MemPlace} (h : DataW.trod enc Tryd.prog W 0 (fun _ => true) true n 24 [c, d] = some y) : ∃ N ao xs cap, c = .int .i64 N ∧ d = .slice ao (List.length xs) cap ∧ I64 N ∧ Wd W ao xs ∧ Fit xs ∧ xs.length ≤ cap := by
  obtain ⟨z0, z1, m, _, _, k0, k1⟩ := trod_struct2 Tryd.underlying24 h
  have j0 : DataW.trod enc Tryd.prog W 0 (fun _ => true) true m 3 [c] = some z0 := by simpa [Tryd.cells3] using k0
  have j1 : DataW.trod enc Tryd.prog W 0 (fun _ => true) true m 22 [d] = some z1 := by simpa [Tryd.cells3, Tryd.cells22] using k1
  obtain ⟨N, rfl, hN⟩ := open_i j0
  obtain ⟨ao, xs, cap, rfl, a1, a2, a3⟩ := open_us j1
  exact ⟨N, ao, xs, cap, rfl, rfl, hN, a1, a2, a3⟩
theorem open_i4 {H : Type} {enc : TypeId × Value → H} {W : World} {n : Nat} {a b c d : Value} {y : DataW H × List MemPlace} (h : DataW.trod enc Tryd.prog W 0 (fun _ => true) true n 28 [a, b, c, d] = some y) : ∃ k V M ao xs cap, a = .int .i64 k ∧ b = .int .i64 V ∧ c = .int .i64 M ∧ d = .slice ao (List.length xs) cap ∧ I64 k ∧ I64 V ∧ I64 M ∧ Wd W ao xs ∧ Fit xs ∧ xs.length ≤ cap := by
  obtain ⟨y0, y1, y2, n, hx, _, h0, h1, h2⟩ := trod_struct3 Tryd.underlying28 h
  have g0 : DataW.trod enc Tryd.prog W 0 (fun _ => true) true n 3 [a] = some y0 := by simpa [Tryd.cells3] using h0
  have g1 : DataW.trod enc Tryd.prog W 0 (fun _ => true) true n 3 [b] = some y1 := by simpa [Tryd.cells3] using h1
  have g2 : DataW.trod enc Tryd.prog W 0 (fun _ => true) true n 24 [c, d] = some y2 := by simpa [Tryd.cells24] using h2
  obtain ⟨k, rfl, hk⟩ := open_i g0
  obtain ⟨V, rfl, hV⟩ := open_i g1
  obtain ⟨M, ao, xs, cap, rfl, rfl, hM, a1, a2, a3⟩ := open_b2 g2
  exact ⟨k, V, M, ao, xs, cap, rfl, rfl, rfl, rfl, hk, hV, hM, a1, a2, a3⟩
theorem open_obj {H : Type} {enc : TypeId × Value → H} {W : World} {base : Nat} {v : Value} {d : DataW H} {p : List MemPlace} (hv : Value.okWide Tryd.prog W .any base 30 v) (h : DataW.Trod enc Tryd.prog W 0 (fun _ => true) true 30 v d p) :
    ∃ (cs : List Value) (a : RA), v = .agg cs.toArray ∧ KArg W cs a := by
  obtain ⟨cs, rfl, hsz⟩ := okWide_struct Tryd.underlying30 hv
  obtain ⟨c0, c1, c2, c3, c4, c5, c6, c7, rfl⟩ := array8 (hsz.trans cells_f8)
  obtain ⟨fuel, hf⟩ := h
  obtain ⟨y0, y1, y2, y3, n, h0, h1, h2, h3⟩ := trod_struct4 Tryd.underlying30 hf
  have g0 : DataW.trod enc Tryd.prog W 0 (fun _ => true) true n 3 [c0] = some y0 := by simpa [Value.cells, Tryd.cells3] using h0
  have g1 : DataW.trod enc Tryd.prog W 0 (fun _ => true) true n 3 [c1] = some y1 := by simpa [Value.cells, Tryd.cells3] using h1
  have g2 : DataW.trod enc Tryd.prog W 0 (fun _ => true) true n 28 [c2, c3, c4, c5] = some y2 := by simpa [Value.cells, cells_i4] using h2
  have g3 : DataW.trod enc Tryd.prog W 0 (fun _ => true) true n 24 [c6, c7] = some y3 := by simpa [Value.cells, Tryd.cells24] using h3
  obtain ⟨N, rfl, hN⟩ := open_i g0
  obtain ⟨M, rfl, hM⟩ := open_i g1
  obtain ⟨k, V, LM, ao, xs, cap, rfl, rfl, rfl, rfl, hk, hV, hLM, a1, a2, a3⟩ := open_i4 g2
  obtain ⟨H', qo, ys, dap, rfl, rfl, hH, b1, b2, b3⟩ := open_b2 g3
  exact ⟨_, ⟨N, M, k, V, LM, xs, H', ys⟩, rfl, ao, cap, qo, dap, rfl, ⟨hN, hM, hk, hV, hLM, hH⟩, a1, a2, a3, b1, b2, b3⟩
/-- What is built of a row that may be, may be, and its bits are the row. -/
theorem kB_ok (N : Int) (xs : List Nat) (hf : Fit xs) (hk : chk N xs = true) (hN : N ≤ 3000) : kOk (kB N xs) = true ∧ kBN (kB N xs) = N ∧ kBX (kB N xs) = xs := by
  obtain ⟨h0, h1, _, _⟩ := chk_out N xs hk
  obtain ⟨n, rfl⟩ := Int.eq_ofNat_of_zero_le h0
  have hn : n ≤ 3000 := by omega
  obtain ⟨L, hL⟩ : ∃ L, L = plc (bitAt xs) n := ⟨_, rfl⟩
  have RS : Rise L n := by rw [hL]; exact plc_rise _ _
  have mn := RS.len
  have v20 := wdF_le n L.length (by omega)
  have e : kB (n : Int) xs = fOf n L := by
    unfold kB
    rw [if_pos hk, Int.toNat_natCast, ← hL]
  have hE : n / 2 ^ wdF n L.length ≤ n := Nat.div_le_self _ _
  have hrow : fRow (fOf n L) = some L := by
    refine fRow_of RS (by omega) (by unfold hiN; omega) ?_
    have l1 := length_lo_le L (wdF n L.length)
    have l3 : (loP L (wdF n L.length)).length * max (wdF n L.length) 1 ≤ 3000 * 20 := Nat.mul_le_mul (by omega) (by omega)
    omega
  have ok : kOk (fOf n L) = true := by
    unfold kOk
    rw [hrow]
    exact (fSame_iff _ _).2 rfl
  rw [e]
  refine ⟨ok, ?_, ?_⟩
  · unfold kBN
    rw [if_pos ok]
    rfl
  · unfold kBX kRow
    rw [if_pos ok, hrow]
    show rowOf n (isIn L) = xs
    have hy := chk_row (n : Int) xs hf hk
    rw [Int.toNat_natCast] at hy
    rw [rowOf_congr n _ (bitAt xs) fun j hj => by rw [hL, isIn_plc, decide_eq_true hj, Bool.true_and]]
    exact hy.symm
theorem kE_ok (N : Int) (xs : List Nat) (hk : chk N xs = true) : kE N xs = 0 := by unfold kE; rw [hk]; rfl
/-- How many bits it needs. -/
theorem kZ_val (n : Nat) (xs : List Nat) (hf : Fit xs) (hk : chk (n : Int) xs = true) (hn : n ≤ 3000) : 64 < kZ (kB n xs) ∧ kZ (kB n xs) ≤ 2 * (n : Int) + 65 := by
  have ok := (kB_ok n xs hf hk (by omega)).1
  obtain ⟨L, hL⟩ : ∃ L, L = plc (bitAt xs) n := ⟨_, rfl⟩
  have RS : Rise L n := by rw [hL]; exact plc_rise _ _
  have mn := RS.len
  have e : kB (n : Int) xs = fOf n L := by
    unfold kB
    rw [if_pos hk, Int.toNat_natCast, ← hL]
  rw [e] at ok ⊢
  unfold kZ
  rw [if_pos ok]
  show 64 < ((loP L (wdF n L.length)).length : Int) * (max (wdF n L.length) 1 : Nat) + (hiN L n (wdF n L.length) : Int) + 64 ∧ ((loP L (wdF n L.length)).length : Int) * (max (wdF n L.length) 1 : Nat) + (hiN L n (wdF n L.length) : Int) + 64 ≤ 2 * (n : Int) + 65
  rw [← Int.natCast_mul]
  have hE : n / 2 ^ wdF n L.length ≤ n := Nat.div_le_self _ _
  have key : (loP L (wdF n L.length)).length * max (wdF n L.length) 1 + L.length ≤ n := by
    by_cases c : wdF n L.length = 0
    · rw [c, show loP L 0 = [] from rfl]
      simpa using mn
    · rw [length_loP L _ (by omega), show max (wdF n L.length) 1 = wdF n L.length by omega]
      have m0 : L.length ≠ 0 := fun e => c (by unfold wdF; rw [if_pos e])
      have d1 : 1 ≤ n / L.length := Nat.div_pos mn (by omega)
      obtain ⟨p, hp, p1, p2, p3, _⟩ := long ((n / L.length : Nat) : Int) (by omega) (by have := Nat.div_le_self n L.length; omega) (by omega)
      have hw : wdF n L.length = p - 1 := by
        unfold wdF
        rw [if_neg m0]
        unfold lenI at hp
        rw [Int.toNat_natCast] at hp
        omega
      have h2 : 2 ^ (p - 1) ≤ n / L.length := by
        clear hp hw
        generalize n / L.length = dd at *
        have e1 : (dd : Int) / 2 ^ (p - 1) = ((dd / 2 ^ (p - 1) : Nat) : Int) := by rw [Int.natCast_ediv, Int.natCast_pow]; rfl
        rw [e1] at p3
        refine Nat.le_of_not_lt fun h => ?_
        rw [Nat.div_eq_of_lt h] at p3
        cases p3
      have h3 : p - 1 + 1 ≤ 2 ^ (p - 1) := Nat.lt_two_pow_self
      have h4 : L.length * (p - 1 + 1) ≤ L.length * (n / L.length) := Nat.mul_le_mul_left _ (by omega)
      have h5 : L.length * (n / L.length) ≤ n := Nat.mul_div_le n L.length
      rw [hw]
      rw [Nat.mul_add, Nat.mul_one] at h4
      omega
  unfold hiN
  generalize (loP L (wdF n L.length)).length * max (wdF n L.length) 1 = q at *
  generalize n / 2 ^ wdF n L.length = r at *
  omega
theorem kZ_pos (N : Int) (xs : List Nat) (hf : Fit xs) (hk : chk N xs = true) (hN : N ≤ 3000) : 0 < kZ (kB N xs) := by
  obtain ⟨h0, h1, _, _⟩ := chk_out N xs hk
  obtain ⟨m, rfl⟩ := Int.eq_ofNat_of_zero_le h0
  have := (kZ_val m xs hf hk (by omega)).1
  omega
/-- What it holds. -/
theorem kB_parts (n : Nat) (xs : List Nat) (hk : chk (n : Int) xs = true) : (kB n xs).N = (n : Int) ∧ (kB n xs).M = (cntB xs n : Int) ∧ (kB n xs).M + 1 ≤ (kB n xs).H ∧ (kB n xs).H ≤ 2 * (n : Int) + 1 := by
  have e : kB (n : Int) xs = fOf n (plc (bitAt xs) n) := by
    unfold kB
    rw [if_pos hk, Int.toNat_natCast]
  have hl := plc_le (bitAt xs) n
  rw [e, ← plc_cnt]
  generalize plc (bitAt xs) n = L at *
  have hE : n / 2 ^ wdF n L.length ≤ n := Nat.div_le_self _ _
  refine ⟨rfl, rfl, ?_, ?_⟩
  · show (L.length : Int) + 1 ≤ (hiN L n (wdF n L.length) : Int)
    unfold hiN
    generalize n / 2 ^ wdF n L.length = r at *
    omega
  · show (hiN L n (wdF n L.length) : Int) ≤ _
    unfold hiN
    generalize n / 2 ^ wdF n L.length = r at *
    omega
end Go.Proofs.YtjkihmjbhiiknaaDoor

namespace Go.Proofs.YtjkihmjbhiiknaaDoor
open Go.RowKit Num Bit
set_option linter.unusedVariables false
set_option linter.unusedSimpArgs false
set_option maxRecDepth 100000

def smB (a : RA) : Bool := (decide (a.N ≤ 3000) && (decide (a.M ≤ 3000) && (decide (a.k ≤ 3000) && (decide ((a.xs.length : Int) ≤ 3000) && decide ((a.ys.length : Int) ≤ 3000)))))
set_option maxHeartbeats 4000000 in
theorem small_k (cs : List Value) (a : RA) (w : World) (h : KArg w cs a) :
    Calls Tryd.prog 18 #[.agg cs.toArray] w fun e w' => e = .returned (.bool (smB a)) ∧ Below w.heap.size w w' := by
  obtain ⟨ao, cap, qo, dap, rfl, hr⟩ := h
  clear hr
  obtain ⟨N, M, k, V, LM, xs, H, ys⟩ := a
  unfold smB
  dsimp only
  by_cases h0 : N ≤ 3000
  · skip
    by_cases h1 : M ≤ 3000
    · skip
      by_cases h2 : k ≤ 3000
      · skip
        by_cases h3 : (xs.length : Int) ≤ 3000
        · skip
          rw [decide_eq_true h0, decide_eq_true h1, decide_eq_true h2, decide_eq_true h3]
          go_enter Tryd.func18, Tryd.ntmps18
          go_wp2
          go_ret
          exact ⟨rfl, below_alloc _ _⟩
        · skip
          rw [decide_eq_true h0, decide_eq_true h1, decide_eq_true h2, decide_eq_false h3]
          have d3 : decide ((xs.length : Int) ≤ 3000) = false := decide_eq_false h3
          go_enter Tryd.func18, Tryd.ntmps18
          go_wp2
          go_ret
          exact ⟨rfl, below_alloc _ _⟩
      · skip
        rw [decide_eq_true h0, decide_eq_true h1, decide_eq_false h2]
        have d2 : decide (k ≤ 3000) = false := decide_eq_false h2
        go_enter Tryd.func18, Tryd.ntmps18
        go_wp2
        go_ret
        exact ⟨rfl, below_alloc _ _⟩
    · skip
      rw [decide_eq_true h0, decide_eq_false h1]
      have d1 : decide (M ≤ 3000) = false := decide_eq_false h1
      go_enter Tryd.func18, Tryd.ntmps18
      go_wp2
      go_ret
      exact ⟨rfl, below_alloc _ _⟩
  · skip
    rw [decide_eq_false h0]
    have d0 : decide (N ≤ 3000) = false := decide_eq_false h0
    go_enter Tryd.func18, Tryd.ntmps18
    go_wp2
    go_ret
    exact ⟨rfl, below_alloc _ _⟩

theorem sm_out (a : RA) (h : smB a = true) : a.N ≤ 3000 ∧ a.M ≤ 3000 ∧ a.k ≤ 3000 ∧ (a.xs.length : Int) ≤ 3000 ∧ (a.ys.length : Int) ≤ 3000 := by
  unfold smB at h
  simp only [Bool.and_eq_true, decide_eq_true_eq] at h
  exact h
theorem KArg.ki {w : World} {cs : List Value} {a : RA} (h : KArg w cs a) (hs : smB a = true) : KI w cs a := by
  have := sm_out a hs
  exact ⟨h, by omega, by omega, by omega⟩
theorem fit22 : Fit [22] := by
  intro i
  cases i with
  | zero => decide
  | succ i => unfold gt; simp
theorem wd22 (w : World) : Wd (w.alloc (.cells #[.int .u64 22] 54)) (some ⟨w.heap.size, 0, none⟩) [22] := by
  intro _
  refine ⟨w.heap.size, 0, rfl, by simp, fun i hi => ?_⟩
  have hi : i < 1 := hi
  obtain rfl : i = 0 := by omega
  simp [gt]
theorem kE5 : kE 5 [22] = 0 := by decide +kernel
theorem kE1 : kE 1 [] = 2 := by decide +kernel
theorem told5 : gaB true 5 [22] 4 = true ∧ gaE true 5 [22] 4 = 0 ∧ grN true 5 [22] true 4 = 2 ∧ grE true 5 4 = 0 ∧ gsX true 5 [22] true 2 = 4 ∧ gsE true 5 [22] true 2 = 0 ∧ gsX true 5 [22] false 1 = 3 ∧ gsE true 5 [22] false 1 = 0 ∧ gsX true 5 [22] true 3 = 0 ∧ gsE true 5 [22] true 3 = 3 := by decide +kernel

set_option maxHeartbeats 8000000 in
theorem heads_c (w : World) : Calls Tryd.prog 9 #[] w fun e w' => e = .returned (.bool true) ∧ Below w.heap.size w w' := by
  obtain ⟨ok5, n5, x5⟩ := kB_ok 5 [22] fit22 (by decide) (by decide)
  have z5 := kZ_pos 5 [22] fit22 (by decide) (by decide)
  obtain ⟨W, hW⟩ : ∃ W, W = w.alloc (.cells #[.int .u64 22] 54) := ⟨_, rfl⟩
  have bW : Below w.heap.size w W := by rw [hW]; exact below_alloc w _
  have hx : Wd W (some ⟨w.heap.size, 0, none⟩) [22] := by
    rw [hW]
    exact wd22 w
  have H1 : Hid (∀ w0, w0 = W → Calls Tryd.prog 10 #[.agg #[.int .i64 5, .slice (some ⟨w.heap.size, 0, none⟩) 1 1]] w0 fun e w' => ∃ cs : List Value, e = .returned (.tuple #[.agg cs.toArray, .int .i64 0]) ∧ KI w' cs (kB 5 [22]) ∧ Below w0.heap.size w0 w') := fun w0 h => by
    subst h
    have := build_k 5 (some ⟨w.heap.size, 0, none⟩) [22] 1 w0 (by unfold I64; decide) hx fit22 (by decide) (by decide)
    rw [kE5] at this
    exact this
  have H7 : Hid (∀ w0 : World, Calls Tryd.prog 10 #[.agg #[.int .i64 1, .slice none 0 0]] w0 fun e w' => ∃ cs : List Value, e = .returned (.tuple #[.agg cs.toArray, .int .i64 2]) ∧ KI w' cs (kB 1 []) ∧ Below w0.heap.size w0 w') := fun w0 => by
    have := build_k 1 none [] 0 w0 (by unfold I64; decide) (wd0' _ _) (fun i => by unfold gt; simp) (by decide) (by decide)
    rw [kE1] at this
    exact this
  have H2 : Hid (∀ w0 cs, KI w0 cs (kB 5 [22]) → Calls Tryd.prog 12 #[.agg cs.toArray, .int .i64 4] w0 fun e w' => e = .returned (.tuple #[.bool true, .int .i64 0]) ∧ Below w0.heap.size w0 w') := fun w0 cs h => by
    have := access_k cs (kB 5 [22]) 4 w0 h (by unfold I64; decide)
    rw [ok5, n5, x5, told5.1, told5.2.1] at this
    exact this
  have H3 : Hid (∀ w0 cs, KI w0 cs (kB 5 [22]) → Calls Tryd.prog 11 #[.agg cs.toArray, .bool true, .int .i64 4] w0 fun e w' => e = .returned (.tuple #[.int .i64 2, .int .i64 0]) ∧ Below w0.heap.size w0 w') := fun w0 cs h => by
    have := rank_k cs (kB 5 [22]) true 4 w0 h (by unfold I64; decide)
    rw [ok5, n5, x5, told5.2.2.1, told5.2.2.2.1] at this
    exact this
  have H4 : Hid (∀ w0 cs, KI w0 cs (kB 5 [22]) → Calls Tryd.prog 21 #[.agg cs.toArray, .bool true, .int .i64 2] w0 fun e w' => e = .returned (.tuple #[.int .i64 4, .int .i64 0]) ∧ Below w0.heap.size w0 w') := fun w0 cs h => by
    have := select_k cs (kB 5 [22]) true 2 w0 h (by unfold I64; decide)
    rw [ok5, n5, x5, told5.2.2.2.2.1, told5.2.2.2.2.2.1] at this
    exact this
  have H5 : Hid (∀ w0 cs, KI w0 cs (kB 5 [22]) → Calls Tryd.prog 21 #[.agg cs.toArray, .bool false, .int .i64 1] w0 fun e w' => e = .returned (.tuple #[.int .i64 3, .int .i64 0]) ∧ Below w0.heap.size w0 w') := fun w0 cs h => by
    have := select_k cs (kB 5 [22]) false 1 w0 h (by unfold I64; decide)
    rw [ok5, n5, x5, told5.2.2.2.2.2.2.1, told5.2.2.2.2.2.2.2.1] at this
    exact this
  have H6 : Hid (∀ w0 cs, KI w0 cs (kB 5 [22]) → Calls Tryd.prog 21 #[.agg cs.toArray, .bool true, .int .i64 3] w0 fun e w' => e = .returned (.tuple #[.int .i64 0, .int .i64 3]) ∧ Below w0.heap.size w0 w') := fun w0 cs h => by
    have := select_k cs (kB 5 [22]) true 3 w0 h (by unfold I64; decide)
    rw [ok5, n5, x5, told5.2.2.2.2.2.2.2.2.1, told5.2.2.2.2.2.2.2.2.2] at this
    exact this
  have H8 : Hid (∀ w0 cs, KI w0 cs (kB 5 [22]) → Calls Tryd.prog 23 #[.agg cs.toArray] w0 fun e w' => e = .returned (.bool true) ∧ Below w0.heap.size w0 w') := fun w0 cs h => by
    have := check_k cs (kB 5 [22]) w0 h
    rw [ok5] at this
    exact this
  obtain ⟨Z5, hZ5⟩ : ∃ Z, Hid (Z = kZ (kB 5 [22])) := ⟨_, rfl⟩
  rw [← hZ5.out] at z5
  have H9 : Hid (∀ w0 cs, KI w0 cs (kB 5 [22]) → Calls Tryd.prog 14 #[.agg cs.toArray] w0 fun e w' => e = .returned (.int .i64 Z5) ∧ Below w0.heap.size w0 w') := fun w0 cs h => by
    have := size_k cs (kB 5 [22]) w0 h
    rw [← hZ5.out] at this
    exact this
  have HB : Hid (∀ w0 cs, KI w0 cs (kB 5 [22]) → Calls Tryd.prog 26 #[.agg cs.toArray] w0 fun e w' => ∃ bo bc, e = .returned (.agg #[.int .i64 5, .slice bo 1 bc]) ∧ Wd w' bo [22] ∧ Below w0.heap.size w0 w') := fun w0 cs h => by
    have := bits_k cs (kB 5 [22]) w0 h
    rw [n5, x5] at this
    refine this.mono ?_
    rintro e w' ⟨bo, bc, rfl, h1, _, hb⟩
    exact ⟨bo, bc, rfl, h1, hb⟩
  generalize kB 5 [22] = A5 at *
  clear ok5 n5 x5
  go_enter Tryd.func9, Tryd.ntmps9
  go_wp2_with fail
  rw [← hW]
  refine (H1.out _ rfl).mono ?_
  rintro e w1 ⟨cs, rfl, hP, hb⟩
  have hw := bW.trans (hb.mono bW.size)
  clear H1 hx bW hW W hb
  go_wp2_with (refine store_cel w1.heap.size [.int .i64 0, .int .i64 0, .int .i64 0, .int .i64 0, .int .i64 0, .slice none 0 0, .int .i64 0, .slice none 0 0] cs rfl rfl (Cel.new w1 [.int .i64 0, .int .i64 0, .int .i64 0, .int .i64 0, .int .i64 0, .slice none 0 0, .int .i64 0, .slice none 0 0] 30) hP.arg.nine hP.arg.len hP.arg.one ?_)
  intro w2 Bw2 Ow2
  have bw2 : Below w1.heap.size w1 w2 := (below_alloc w1 _).trans (Ow2.below (Nat.le_refl _))
  replace hP := hP.keep bw2
  replace hw := hw.trans (bw2.mono hw.size)
  clear Ow2 bw2
  have hB := Bw2
  clear Bw2
  generalize w1.heap.size = g at *
  go_wp2_with (refine load_obj g cs (by rfl) rfl hB Tryd.underlying30 hP.arg.len ?_)
  refine (H2.out _ _ hP).mono ?_
  rintro e w3 ⟨rfl, hb⟩
  replace hP := hP.keep hb
  replace hB := hB.kept hb
  replace hw := hw.trans (hb.mono hw.size)
  clear hb
  go_wp2_with (refine load_obj g cs (by rfl) rfl hB Tryd.underlying30 hP.arg.len ?_)
  refine (H3.out _ _ hP).mono ?_
  rintro e w4 ⟨rfl, hb⟩
  replace hP := hP.keep hb
  replace hB := hB.kept hb
  replace hw := hw.trans (hb.mono hw.size)
  clear hb
  go_wp2_with (refine load_obj g cs (by rfl) rfl hB Tryd.underlying30 hP.arg.len ?_)
  refine (H4.out _ _ hP).mono ?_
  rintro e w5 ⟨rfl, hb⟩
  replace hP := hP.keep hb
  replace hB := hB.kept hb
  replace hw := hw.trans (hb.mono hw.size)
  clear hb
  go_wp2_with (refine load_obj g cs (by rfl) rfl hB Tryd.underlying30 hP.arg.len ?_)
  refine (H5.out _ _ hP).mono ?_
  rintro e w6 ⟨rfl, hb⟩
  replace hP := hP.keep hb
  replace hB := hB.kept hb
  replace hw := hw.trans (hb.mono hw.size)
  clear hb
  go_wp2_with (refine load_obj g cs (by rfl) rfl hB Tryd.underlying30 hP.arg.len ?_)
  refine (H6.out _ _ hP).mono ?_
  rintro e w7 ⟨rfl, hb⟩
  replace hP := hP.keep hb
  replace hB := hB.kept hb
  replace hw := hw.trans (hb.mono hw.size)
  clear hb
  go_wp2_with fail
  refine (H7.out _).mono ?_
  rintro e w8 ⟨ds, rfl, hQ, hb⟩
  replace hP := hP.keep hb
  replace hB := hB.kept hb
  replace hw := hw.trans (hb.mono hw.size)
  clear hb H7
  go_wp2_with (refine store_cel w8.heap.size [.int .i64 0, .int .i64 0, .int .i64 0, .int .i64 0, .int .i64 0, .slice none 0 0, .int .i64 0, .slice none 0 0] ds rfl rfl (Cel.new w8 [.int .i64 0, .int .i64 0, .int .i64 0, .int .i64 0, .int .i64 0, .slice none 0 0, .int .i64 0, .slice none 0 0] 30) hQ.arg.nine hQ.arg.len hQ.arg.one ?_)
  intro w9 Bw9 Ow9
  have bw9 : Below w8.heap.size w8 w9 := (below_alloc w8 _).trans (Ow9.below (Nat.le_refl _))
  replace hQ := hQ.keep bw9
  replace hw := hw.trans (bw9.mono hw.size)
  replace hP := hP.keep bw9
  replace hB := hB.kept bw9
  clear Ow9 bw9
  clear Bw9 hQ
  go_wp2_with (refine load_obj g cs (by rfl) rfl hB Tryd.underlying30 hP.arg.len ?_)
  refine (H8.out _ _ hP).mono ?_
  rintro e wa ⟨rfl, hb⟩
  replace hP := hP.keep hb
  replace hB := hB.kept hb
  replace hw := hw.trans (hb.mono hw.size)
  clear hb
  go_wp2_with (refine load_obj g cs (by rfl) rfl hB Tryd.underlying30 hP.arg.len ?_)
  refine (H9.out _ _ hP).mono ?_
  rintro e wb ⟨rfl, hb⟩
  replace hP := hP.keep hb
  replace hB := hB.kept hb
  replace hw := hw.trans (hb.mono hw.size)
  clear hb
  go_wp2_with (refine load_obj g cs (by rfl) rfl hB Tryd.underlying30 hP.arg.len ?_)
  refine (HB.out _ _ hP).mono ?_
  rintro e wc ⟨ro, rc, rfl, hx2, hb⟩
  replace hw := hw.trans (hb.mono hw.size)
  clear hb HB hP hB
  have bZ := below_alloc wc (.cells #[.int .u64 22] 54)
  have S1 : Hid (∀ w0, w0 = wc.alloc (.cells #[.int .u64 22] 54) → Calls Tryd.prog 25 #[.agg #[.int .i64 5, .slice ro 1 rc], .agg #[.int .i64 5, .slice (some ⟨wc.heap.size, 0, none⟩) 1 1]] w0 fun e w' => e = .returned (.bool true) ∧ Below w0.heap.size w0 w') := fun w0 h => by
    subst h
    have := same_c 5 ro [22] rc 5 (some ⟨wc.heap.size, 0, none⟩) [22] 1 _ (hx2.keep bZ) (wd22 wc) (by decide)
    rw [show (decide ((5 : Int) = 5) && decide (([22] : List Nat) = [22])) = true by decide] at this
    exact this
  go_wp2_with fail
  refine (S1.out _ rfl).mono ?_
  rintro e wd ⟨rfl, hb⟩
  replace hw := (hw.trans (bZ.mono hw.size)).trans (hb.mono (Nat.le_trans hw.size bZ.size))
  go_wp2
  go_ret
  exact ⟨rfl, hw⟩
end Go.Proofs.YtjkihmjbhiiknaaDoor
