/-
  A row by places that is built, right; an argument of the type api.Fano, opened. The contracts of heads and small. The contract of the document's row of layer 9: the places that one tells. The document's row of layer 9: the places that one tells, where its rows may be. The contracts of the document's Same of rows of numbers, and of rows by places.
-/
import Derived.Test.YtjkihmjbhiiknaaDoorM11
import Derived.Test.YtjkihmjbhiiknaaDoorM02
import Derived.Test.YtjkihmjbhiiknaaDoorRows
import Derived.ChangeSame
import Derived.Test.YtjkihmjbhiiknaaDoorM08
import Derived.Test.YtjkihmjbhiiknaaDoorM04
namespace Go.Proofs.YtjkihmjbhiiknaaDoor
open Go.ChangeShapes Go.WideShapes Go.ChangeAt Go.RowKit Go.Joins Go.Deep Num Bit
set_option linter.unusedVariables false
set_option maxRecDepth 100000

theorem cells_i4 : Tryd.prog.cellsOf 28 = 4 := by kernel_rfl
theorem cells_f8 : Tryd.prog.cellsOf 30 = 8 := by kernel_rfl
theorem array8 {cs : Array Value} (h : cs.size = 8) : ∃ a b c d e f g i, cs = #[a, b, c, d, e, f, g, i] := by
  obtain ⟨l⟩ := cs
  match l, h with
  | [a, b, c, d, e, f, g, i], _ => exact ⟨a, b, c, d, e, f, g, i, rfl⟩
theorem trod_struct4 {H : Type} {enc : TypeId × Value → H} {P : Program} {w : World} {base : Nat} {spare : Nat → Bool} {held : Bool} {t : TypeId} {f0 f1 f2 f3 : Field} {fuel : Nat} {cs : List Value} {x : DataW H × List MemPlace} (ht : P.underlying t = some (.struct #[f0, f1, f2, f3])) (h : DataW.trod enc P w base spare held fuel t cs = some x) :
    ∃ y0 y1 y2 y3 n, DataW.trod enc P w base spare held n f0.type ((cs.drop f0.offset).take (P.cellsOf f0.type)) = some y0 ∧
      DataW.trod enc P w base spare held n f1.type ((cs.drop f1.offset).take (P.cellsOf f1.type)) = some y1 ∧ DataW.trod enc P w base spare held n f2.type ((cs.drop f2.offset).take (P.cellsOf f2.type)) = some y2 ∧
      DataW.trod enc P w base spare held n f3.type ((cs.drop f3.offset).take (P.cellsOf f3.type)) = some y3 := by
  obtain ⟨xs, n, _, rfl, hl, hlen, hf⟩ := DataW.trod_struct ht h
  match xs, hlen with
  | [y0, y1, y2, y3], _ => exact ⟨y0, y1, y2, y3, n, by simpa using hf 0 f0 rfl, by simpa using hf 1 f1 rfl, by simpa using hf 2 f2 rfl, by simpa using hf 3 f3 rfl⟩
theorem open_i {H : Type} {enc : TypeId × Value → H} {W : World} {n : Nat} {c : Value} {y : DataW H × List MemPlace} (h : DataW.trod enc Tryd.prog W 0 (fun _ => true) true n 3 [c] = some y) : ∃ N, c = .int .i64 N ∧ I64 N := by
  obtain ⟨a, e0, _, wa⟩ := DataW.trod_int Tryd.underlying3 h
  simp at e0
  exact ⟨a, e0, i64_wf a wa⟩
theorem open_us {H : Type} {enc : TypeId × Value → H} {W : World} {n : Nat} {c : Value} {y : DataW H × List MemPlace} (h : DataW.trod enc Tryd.prog W 0 (fun _ => true) true n 22 [c] = some y) : ∃ ao xs cap, c = .slice ao (List.length xs) cap ∧ Wd W ao xs ∧ Fit xs ∧ xs.length ≤ cap := by
  rcases open_ints Tryd.underlying22 Tryd.underlying54 Tryd.cells54 h with ⟨hcs, _⟩ | ⟨x, l, cp, zs, hcs, _, hl, hm, hz, _, hcell, hwz⟩
  · simp at hcs
    subst hcs
    exact ⟨none, [], 0, rfl, wd0' _ _, fun i => by unfold gt; simp, by simp⟩
  · simp at hcs
    subst hcs
    have hz2 : zs.length = cp := by simpa using hz
    obtain ⟨xs, hx1, hx2, hx3⟩ := wd_of W x l zs (by omega) hcell hwz
    subst hx1
    exact ⟨some x, xs, cp, rfl, hx2, hx3, hl⟩
theorem open_b2 {H : Type} {enc : TypeId × Value → H} {W : World} {n : Nat} {c d : Value} {y : DataW H × List MemPlace} (h : DataW.trod enc Tryd.prog W 0 (fun _ => true) true n 24 [c, d] = some y) : ∃ N ao xs cap, c = .int .i64 N ∧ d = .slice ao (List.length xs) cap ∧ I64 N ∧ Wd W ao xs ∧ Fit xs ∧ xs.length ≤ cap := by
  obtain ⟨z0, z1, m, _, _, k0, k1⟩ := trod_struct2 Tryd.underlying24 h
  have j0 : DataW.trod enc Tryd.prog W 0 (fun _ => true) true m 3 [c] = some z0 := by simpa [Tryd.cells3] using k0
  have j1 : DataW.trod enc Tryd.prog W 0 (fun _ => true) true m 22 [d] = some z1 := by simpa [Tryd.cells3, Tryd.cells22] using k1
  obtain ⟨N, rfl, hN⟩ := open_i j0
  obtain ⟨ao, xs, cap, rfl, a1, a2, a3⟩ := open_us j1
  exact ⟨N, ao, xs, cap, rfl, rfl, hN, a1, a2, a3⟩
theorem open_i4 {H : Type} {enc : TypeId × Value → H} {W : World} {n : Nat} {a b c d : Value} {y : DataW H × List MemPlace} (h : DataW.trod enc Tryd.prog W 0 (fun _ => true) true n 28 [a, b, c, d] = some y) : ∃ k V M ao xs cap, a = .int .i64 k ∧ b = .int .i64 V ∧ c = .int .i64 M ∧ d = .slice ao (List.length xs) cap ∧ I64 k ∧ I64 V ∧ I64 M ∧ Wd W ao xs ∧ Fit xs ∧ xs.length ≤ cap := by
  obtain ⟨y0, y1, y2, n, hx, _, h0, h1, h2⟩ := trod_struct3 Tryd.underlying28 h
  have g0 : DataW.trod enc Tryd.prog W 0 (fun _ => true) true n 3 [a] = some y0 := by simpa [Tryd.cells3] using h0
  have g1 : DataW.trod enc Tryd.prog W 0 (fun _ => true) true n 3 [b] = some y1 := by simpa [Tryd.cells3] using h1
  have g2 : DataW.trod enc Tryd.prog W 0 (fun _ => true) true n 24 [c, d] = some y2 := by simpa [Tryd.cells24] using h2
  obtain ⟨k, rfl, hk⟩ := open_i g0
  obtain ⟨V, rfl, hV⟩ := open_i g1
  obtain ⟨M, ao, xs, cap, rfl, rfl, hM, a1, a2, a3⟩ := open_b2 g2
  exact ⟨k, V, M, ao, xs, cap, rfl, rfl, rfl, rfl, hk, hV, hM, a1, a2, a3⟩
theorem open_obj {H : Type} {enc : TypeId × Value → H} {W : World} {base : Nat} {v : Value} {d : DataW H} {p : List MemPlace} (hv : Value.okWide Tryd.prog W .any base 30 v) (h : DataW.Trod enc Tryd.prog W 0 (fun _ => true) true 30 v d p) :
    ∃ (cs : List Value) (a : RA), v = .agg cs.toArray ∧ KArg W cs a := by
  obtain ⟨cs, rfl, hsz⟩ := okWide_struct Tryd.underlying30 hv
  obtain ⟨c0, c1, c2, c3, c4, c5, c6, c7, rfl⟩ := array8 (hsz.trans cells_f8)
  obtain ⟨fuel, hf⟩ := h
  obtain ⟨y0, y1, y2, y3, n, h0, h1, h2, h3⟩ := trod_struct4 Tryd.underlying30 hf
  have g0 : DataW.trod enc Tryd.prog W 0 (fun _ => true) true n 3 [c0] = some y0 := by simpa [Value.cells, Tryd.cells3] using h0
  have g1 : DataW.trod enc Tryd.prog W 0 (fun _ => true) true n 3 [c1] = some y1 := by simpa [Value.cells, Tryd.cells3] using h1
  have g2 : DataW.trod enc Tryd.prog W 0 (fun _ => true) true n 28 [c2, c3, c4, c5] = some y2 := by simpa [Value.cells, cells_i4] using h2
  have g3 : DataW.trod enc Tryd.prog W 0 (fun _ => true) true n 24 [c6, c7] = some y3 := by simpa [Value.cells, Tryd.cells24] using h3
  obtain ⟨N, rfl, hN⟩ := open_i g0
  obtain ⟨M, rfl, hM⟩ := open_i g1
  obtain ⟨k, V, LM, ao, xs, cap, rfl, rfl, rfl, rfl, hk, hV, hLM, a1, a2, a3⟩ := open_i4 g2
  obtain ⟨H', qo, ys, dap, rfl, rfl, hH, b1, b2, b3⟩ := open_b2 g3
  exact ⟨_, ⟨N, M, k, V, LM, xs, H', ys⟩, rfl, ao, cap, qo, dap, rfl, ⟨hN, hM, hk, hV, hLM, hH⟩, a1, a2, a3, b1, b2, b3⟩
/-- What is built of a row that may be, may be, and its bits are the row. -/
theorem kB_ok (N : Int) (xs : List Nat) (hf : Fit xs) (hk : chk N xs = true) (hN : N ≤ 3000) : kOk (kB N xs) = true ∧ kBN (kB N xs) = N ∧ kBX (kB N xs) = xs := by
  obtain ⟨h0, h1, _, _⟩ := chk_out N xs hk
  obtain ⟨n, rfl⟩ := Int.eq_ofNat_of_zero_le h0
  have hn : n ≤ 3000 := by omega
  obtain ⟨L, hL⟩ : ∃ L, L = plc (bitAt xs) n := ⟨_, rfl⟩
  have RS : Rise L n := by rw [hL]; exact plc_rise _ _
  have mn := RS.len
  have v20 := wdF_le n L.length (by omega)
  have e : kB (n : Int) xs = fOf n L := by
    unfold kB
    rw [if_pos hk, Int.toNat_natCast, ← hL]
  have hE : n / 2 ^ wdF n L.length ≤ n := Nat.div_le_self _ _
  have hrow : fRow (fOf n L) = some L := by
    refine fRow_of RS (by omega) (by unfold hiN; omega) ?_
    have l1 := length_lo_le L (wdF n L.length)
    have l3 : (loP L (wdF n L.length)).length * max (wdF n L.length) 1 ≤ 3000 * 20 := Nat.mul_le_mul (by omega) (by omega)
    omega
  have ok : kOk (fOf n L) = true := by
    unfold kOk
    rw [hrow]
    exact (fSame_iff _ _).2 rfl
  rw [e]
  refine ⟨ok, ?_, ?_⟩
  · unfold kBN
    rw [if_pos ok]
    rfl
  · unfold kBX kRow
    rw [if_pos ok, hrow]
    show rowOf n (isIn L) = xs
    have hy := chk_row (n : Int) xs hf hk
    rw [Int.toNat_natCast] at hy
    rw [rowOf_congr n _ (bitAt xs) fun j hj => by rw [hL, isIn_plc, decide_eq_true hj, Bool.true_and]]
    exact hy.symm
theorem kE_ok (N : Int) (xs : List Nat) (hk : chk N xs = true) : kE N xs = 0 := by unfold kE; rw [hk]; rfl
/-- How many bits it needs. -/
theorem kZ_val (n : Nat) (xs : List Nat) (hf : Fit xs) (hk : chk (n : Int) xs = true) (hn : n ≤ 3000) : 64 < kZ (kB n xs) ∧ kZ (kB n xs) ≤ 2 * (n : Int) + 65 := by
  have ok := (kB_ok n xs hf hk (by omega)).1
  obtain ⟨L, hL⟩ : ∃ L, L = plc (bitAt xs) n := ⟨_, rfl⟩
  have RS : Rise L n := by rw [hL]; exact plc_rise _ _
  have mn := RS.len
  have e : kB (n : Int) xs = fOf n L := by
    unfold kB
    rw [if_pos hk, Int.toNat_natCast, ← hL]
  rw [e] at ok ⊢
  unfold kZ
  rw [if_pos ok]
  show 64 < ((loP L (wdF n L.length)).length : Int) * (max (wdF n L.length) 1 : Nat) + (hiN L n (wdF n L.length) : Int) + 64 ∧ ((loP L (wdF n L.length)).length : Int) * (max (wdF n L.length) 1 : Nat) + (hiN L n (wdF n L.length) : Int) + 64 ≤ 2 * (n : Int) + 65
  rw [← Int.natCast_mul]
  have hE : n / 2 ^ wdF n L.length ≤ n := Nat.div_le_self _ _
  have key : (loP L (wdF n L.length)).length * max (wdF n L.length) 1 + L.length ≤ n := by
    by_cases c : wdF n L.length = 0
    · rw [c, show loP L 0 = [] from rfl]
      simpa using mn
    · rw [length_loP L _ (by omega), show max (wdF n L.length) 1 = wdF n L.length by omega]
      have m0 : L.length ≠ 0 := fun e => c (by unfold wdF; rw [if_pos e])
      have d1 : 1 ≤ n / L.length := Nat.div_pos mn (by omega)
      obtain ⟨p, hp, p1, p2, p3, _⟩ := long ((n / L.length : Nat) : Int) (by omega) (by have := Nat.div_le_self n L.length; omega) (by omega)
      have hw : wdF n L.length = p - 1 := by
        unfold wdF
        rw [if_neg m0]
        unfold lenI at hp
        rw [Int.toNat_natCast] at hp
        omega
      have h2 : 2 ^ (p - 1) ≤ n / L.length := by
        clear hp hw
        generalize n / L.length = dd at *
        have e1 : (dd : Int) / 2 ^ (p - 1) = ((dd / 2 ^ (p - 1) : Nat) : Int) := by rw [Int.natCast_ediv, Int.natCast_pow]; rfl
        rw [e1] at p3
        refine Nat.le_of_not_lt fun h => ?_
        rw [Nat.div_eq_of_lt h] at p3
        cases p3
      have h3 : p - 1 + 1 ≤ 2 ^ (p - 1) := Nat.lt_two_pow_self
      have h4 : L.length * (p - 1 + 1) ≤ L.length * (n / L.length) := Nat.mul_le_mul_left _ (by omega)
      have h5 : L.length * (n / L.length) ≤ n := Nat.mul_div_le n L.length
      rw [hw]
      rw [Nat.mul_add, Nat.mul_one] at h4
      omega
  unfold hiN
  generalize (loP L (wdF n L.length)).length * max (wdF n L.length) 1 = q at *
  generalize n / 2 ^ wdF n L.length = r at *
  omega
theorem kZ_pos (N : Int) (xs : List Nat) (hf : Fit xs) (hk : chk N xs = true) (hN : N ≤ 3000) : 0 < kZ (kB N xs) := by
  obtain ⟨h0, h1, _, _⟩ := chk_out N xs hk
  obtain ⟨m, rfl⟩ := Int.eq_ofNat_of_zero_le h0
  have := (kZ_val m xs hf hk (by omega)).1
  omega
/-- What it holds. -/
theorem kB_parts (n : Nat) (xs : List Nat) (hk : chk (n : Int) xs = true) : (kB n xs).N = (n : Int) ∧ (kB n xs).M = (cntB xs n : Int) ∧ (kB n xs).M + 1 ≤ (kB n xs).H ∧ (kB n xs).H ≤ 2 * (n : Int) + 1 := by
  have e : kB (n : Int) xs = fOf n (plc (bitAt xs) n) := by
    unfold kB
    rw [if_pos hk, Int.toNat_natCast]
  have hl := plc_le (bitAt xs) n
  rw [e, ← plc_cnt]
  generalize plc (bitAt xs) n = L at *
  have hE : n / 2 ^ wdF n L.length ≤ n := Nat.div_le_self _ _
  refine ⟨rfl, rfl, ?_, ?_⟩
  · show (L.length : Int) + 1 ≤ (hiN L n (wdF n L.length) : Int)
    unfold hiN
    generalize n / 2 ^ wdF n L.length = r at *
    omega
  · show (hiN L n (wdF n L.length) : Int) ≤ _
    unfold hiN
    generalize n / 2 ^ wdF n L.length = r at *
    omega
end Go.Proofs.YtjkihmjbhiiknaaDoor

namespace Go.Proofs.YtjkihmjbhiiknaaDoor
open Go.RowKit Num Bit
set_option linter.unusedVariables false
set_option linter.unusedSimpArgs false
set_option maxRecDepth 100000

def smB (a : RA) : Bool := (decide (a.N ≤ 3000) && (decide (a.M ≤ 3000) && (decide (a.k ≤ 3000) && (decide ((a.xs.length : Int) ≤ 3000) && decide ((a.ys.length : Int) ≤ 3000)))))
set_option maxHeartbeats 4000000 in
theorem small_k (cs : List Value) (a : RA) (w : World) (h : KArg w cs a) :
    Calls Tryd.prog 18 #[.agg cs.toArray] w fun e w' => e = .returned (.bool (smB a)) ∧ Below w.heap.size w w' := by
  obtain ⟨ao, cap, qo, dap, rfl, hr⟩ := h
  clear hr
  obtain ⟨N, M, k, V, LM, xs, H, ys⟩ := a
  unfold smB
  dsimp only
  by_cases h0 : N ≤ 3000
  · skip
    by_cases h1 : M ≤ 3000
    · skip
      by_cases h2 : k ≤ 3000
      · skip
        by_cases h3 : (xs.length : Int) ≤ 3000
        · skip
          rw [decide_eq_true h0, decide_eq_true h1, decide_eq_true h2, decide_eq_true h3]
          go_enter Tryd.func18, Tryd.ntmps18
          go_wp2
          go_ret
          exact ⟨rfl, below_alloc _ _⟩
        · skip
          rw [decide_eq_true h0, decide_eq_true h1, decide_eq_true h2, decide_eq_false h3]
          have d3 : decide ((xs.length : Int) ≤ 3000) = false := decide_eq_false h3
          go_enter Tryd.func18, Tryd.ntmps18
          go_wp2
          go_ret
          exact ⟨rfl, below_alloc _ _⟩
      · skip
        rw [decide_eq_true h0, decide_eq_true h1, decide_eq_false h2]
        have d2 : decide (k ≤ 3000) = false := decide_eq_false h2
        go_enter Tryd.func18, Tryd.ntmps18
        go_wp2
        go_ret
        exact ⟨rfl, below_alloc _ _⟩
    · skip
      rw [decide_eq_true h0, decide_eq_false h1]
      have d1 : decide (M ≤ 3000) = false := decide_eq_false h1
      go_enter Tryd.func18, Tryd.ntmps18
      go_wp2
      go_ret
      exact ⟨rfl, below_alloc _ _⟩
  · skip
    rw [decide_eq_false h0]
    have d0 : decide (N ≤ 3000) = false := decide_eq_false h0
    go_enter Tryd.func18, Tryd.ntmps18
    go_wp2
    go_ret
    exact ⟨rfl, below_alloc _ _⟩

theorem sm_out (a : RA) (h : smB a = true) : a.N ≤ 3000 ∧ a.M ≤ 3000 ∧ a.k ≤ 3000 ∧ (a.xs.length : Int) ≤ 3000 ∧ (a.ys.length : Int) ≤ 3000 := by
  unfold smB at h
  simp only [Bool.and_eq_true, decide_eq_true_eq] at h
  exact h
theorem KArg.ki {w : World} {cs : List Value} {a : RA} (h : KArg w cs a) (hs : smB a = true) : KI w cs a := by
  have := sm_out a hs
  exact ⟨h, by omega, by omega, by omega⟩
theorem fit22 : Fit [22] := by
  intro i
  cases i with
  | zero => decide
  | succ i => unfold gt; simp
theorem wd22 (w : World) : Wd (w.alloc (.cells #[.int .u64 22] 54)) (some ⟨w.heap.size, 0, none⟩) [22] := by
  intro _
  refine ⟨w.heap.size, 0, rfl, by simp, fun i hi => ?_⟩
  have hi : i < 1 := hi
  obtain rfl : i = 0 := by omega
  simp [gt]
theorem kE5 : kE 5 [22] = 0 := by decide +kernel
theorem kE1 : kE 1 [] = 2 := by decide +kernel
theorem told5 : gaB true 5 [22] 4 = true ∧ gaE true 5 [22] 4 = 0 ∧ grN true 5 [22] true 4 = 2 ∧ grE true 5 4 = 0 ∧ gsX true 5 [22] true 2 = 4 ∧ gsE true 5 [22] true 2 = 0 ∧ gsX true 5 [22] false 1 = 3 ∧ gsE true 5 [22] false 1 = 0 ∧ gsX true 5 [22] true 3 = 0 ∧ gsE true 5 [22] true 3 = 3 := by decide +kernel

set_option maxHeartbeats 8000000 in
theorem heads_c (w : World) : Calls Tryd.prog 9 #[] w fun e w' => e = .returned (.bool true) ∧ Below w.heap.size w w' := by
  obtain ⟨ok5, n5, x5⟩ := kB_ok 5 [22] fit22 (by decide) (by decide)
  have z5 := kZ_pos 5 [22] fit22 (by decide) (by decide)
  obtain ⟨W, hW⟩ : ∃ W, W = w.alloc (.cells #[.int .u64 22] 54) := ⟨_, rfl⟩
  have bW : Below w.heap.size w W := by rw [hW]; exact below_alloc w _
  have hx : Wd W (some ⟨w.heap.size, 0, none⟩) [22] := by
    rw [hW]
    exact wd22 w
  have H1 : Hid (∀ w0, w0 = W → Calls Tryd.prog 10 #[.agg #[.int .i64 5, .slice (some ⟨w.heap.size, 0, none⟩) 1 1]] w0 fun e w' => ∃ cs : List Value, e = .returned (.tuple #[.agg cs.toArray, .int .i64 0]) ∧ KI w' cs (kB 5 [22]) ∧ Below w0.heap.size w0 w') := fun w0 h => by
    subst h
    have := build_k 5 (some ⟨w.heap.size, 0, none⟩) [22] 1 w0 (by unfold I64; decide) hx fit22 (by decide) (by decide)
    rw [kE5] at this
    exact this
  have H7 : Hid (∀ w0 : World, Calls Tryd.prog 10 #[.agg #[.int .i64 1, .slice none 0 0]] w0 fun e w' => ∃ cs : List Value, e = .returned (.tuple #[.agg cs.toArray, .int .i64 2]) ∧ KI w' cs (kB 1 []) ∧ Below w0.heap.size w0 w') := fun w0 => by
    have := build_k 1 none [] 0 w0 (by unfold I64; decide) (wd0' _ _) (fun i => by unfold gt; simp) (by decide) (by decide)
    rw [kE1] at this
    exact this
  have H2 : Hid (∀ w0 cs, KI w0 cs (kB 5 [22]) → Calls Tryd.prog 12 #[.agg cs.toArray, .int .i64 4] w0 fun e w' => e = .returned (.tuple #[.bool true, .int .i64 0]) ∧ Below w0.heap.size w0 w') := fun w0 cs h => by
    have := access_k cs (kB 5 [22]) 4 w0 h (by unfold I64; decide)
    rw [ok5, n5, x5, told5.1, told5.2.1] at this
    exact this
  have H3 : Hid (∀ w0 cs, KI w0 cs (kB 5 [22]) → Calls Tryd.prog 11 #[.agg cs.toArray, .bool true, .int .i64 4] w0 fun e w' => e = .returned (.tuple #[.int .i64 2, .int .i64 0]) ∧ Below w0.heap.size w0 w') := fun w0 cs h => by
    have := rank_k cs (kB 5 [22]) true 4 w0 h (by unfold I64; decide)
    rw [ok5, n5, x5, told5.2.2.1, told5.2.2.2.1] at this
    exact this
  have H4 : Hid (∀ w0 cs, KI w0 cs (kB 5 [22]) → Calls Tryd.prog 21 #[.agg cs.toArray, .bool true, .int .i64 2] w0 fun e w' => e = .returned (.tuple #[.int .i64 4, .int .i64 0]) ∧ Below w0.heap.size w0 w') := fun w0 cs h => by
    have := select_k cs (kB 5 [22]) true 2 w0 h (by unfold I64; decide)
    rw [ok5, n5, x5, told5.2.2.2.2.1, told5.2.2.2.2.2.1] at this
    exact this
  have H5 : Hid (∀ w0 cs, KI w0 cs (kB 5 [22]) → Calls Tryd.prog 21 #[.agg cs.toArray, .bool false, .int .i64 1] w0 fun e w' => e = .returned (.tuple #[.int .i64 3, .int .i64 0]) ∧ Below w0.heap.size w0 w') := fun w0 cs h => by
    have := select_k cs (kB 5 [22]) false 1 w0 h (by unfold I64; decide)
    rw [ok5, n5, x5, told5.2.2.2.2.2.2.1, told5.2.2.2.2.2.2.2.1] at this
    exact this
  have H6 : Hid (∀ w0 cs, KI w0 cs (kB 5 [22]) → Calls Tryd.prog 21 #[.agg cs.toArray, .bool true, .int .i64 3] w0 fun e w' => e = .returned (.tuple #[.int .i64 0, .int .i64 3]) ∧ Below w0.heap.size w0 w') := fun w0 cs h => by
    have := select_k cs (kB 5 [22]) true 3 w0 h (by unfold I64; decide)
    rw [ok5, n5, x5, told5.2.2.2.2.2.2.2.2.1, told5.2.2.2.2.2.2.2.2.2] at this
    exact this
  have H8 : Hid (∀ w0 cs, KI w0 cs (kB 5 [22]) → Calls Tryd.prog 23 #[.agg cs.toArray] w0 fun e w' => e = .returned (.bool true) ∧ Below w0.heap.size w0 w') := fun w0 cs h => by
    have := check_k cs (kB 5 [22]) w0 h
    rw [ok5] at this
    exact this
  obtain ⟨Z5, hZ5⟩ : ∃ Z, Hid (Z = kZ (kB 5 [22])) := ⟨_, rfl⟩
  rw [← hZ5.out] at z5
  have H9 : Hid (∀ w0 cs, KI w0 cs (kB 5 [22]) → Calls Tryd.prog 14 #[.agg cs.toArray] w0 fun e w' => e = .returned (.int .i64 Z5) ∧ Below w0.heap.size w0 w') := fun w0 cs h => by
    have := size_k cs (kB 5 [22]) w0 h
    rw [← hZ5.out] at this
    exact this
  have HB : Hid (∀ w0 cs, KI w0 cs (kB 5 [22]) → Calls Tryd.prog 26 #[.agg cs.toArray] w0 fun e w' => ∃ bo bc, e = .returned (.agg #[.int .i64 5, .slice bo 1 bc]) ∧ Wd w' bo [22] ∧ Below w0.heap.size w0 w') := fun w0 cs h => by
    have := bits_k cs (kB 5 [22]) w0 h
    rw [n5, x5] at this
    refine this.mono ?_
    rintro e w' ⟨bo, bc, rfl, h1, _, hb⟩
    exact ⟨bo, bc, rfl, h1, hb⟩
  generalize kB 5 [22] = A5 at *
  clear ok5 n5 x5
  go_enter Tryd.func9, Tryd.ntmps9
  go_wp2_with fail
  rw [← hW]
  refine (H1.out _ rfl).mono ?_
  rintro e w1 ⟨cs, rfl, hP, hb⟩
  have hw := bW.trans (hb.mono bW.size)
  clear H1 hx bW hW W hb
  go_wp2_with (refine store_cel w1.heap.size [.int .i64 0, .int .i64 0, .int .i64 0, .int .i64 0, .int .i64 0, .slice none 0 0, .int .i64 0, .slice none 0 0] cs rfl rfl (Cel.new w1 [.int .i64 0, .int .i64 0, .int .i64 0, .int .i64 0, .int .i64 0, .slice none 0 0, .int .i64 0, .slice none 0 0] 30) hP.arg.nine hP.arg.len hP.arg.one ?_)
  intro w2 Bw2 Ow2
  have bw2 : Below w1.heap.size w1 w2 := (below_alloc w1 _).trans (Ow2.below (Nat.le_refl _))
  replace hP := hP.keep bw2
  replace hw := hw.trans (bw2.mono hw.size)
  clear Ow2 bw2
  have hB := Bw2
  clear Bw2
  generalize w1.heap.size = g at *
  go_wp2_with (refine load_obj g cs (by rfl) rfl hB Tryd.underlying30 hP.arg.len ?_)
  refine (H2.out _ _ hP).mono ?_
  rintro e w3 ⟨rfl, hb⟩
  replace hP := hP.keep hb
  replace hB := hB.kept hb
  replace hw := hw.trans (hb.mono hw.size)
  clear hb
  go_wp2_with (refine load_obj g cs (by rfl) rfl hB Tryd.underlying30 hP.arg.len ?_)
  refine (H3.out _ _ hP).mono ?_
  rintro e w4 ⟨rfl, hb⟩
  replace hP := hP.keep hb
  replace hB := hB.kept hb
  replace hw := hw.trans (hb.mono hw.size)
  clear hb
  go_wp2_with (refine load_obj g cs (by rfl) rfl hB Tryd.underlying30 hP.arg.len ?_)
  refine (H4.out _ _ hP).mono ?_
  rintro e w5 ⟨rfl, hb⟩
  replace hP := hP.keep hb
  replace hB := hB.kept hb
  replace hw := hw.trans (hb.mono hw.size)
  clear hb
  go_wp2_with (refine load_obj g cs (by rfl) rfl hB Tryd.underlying30 hP.arg.len ?_)
  refine (H5.out _ _ hP).mono ?_
  rintro e w6 ⟨rfl, hb⟩
  replace hP := hP.keep hb
  replace hB := hB.kept hb
  replace hw := hw.trans (hb.mono hw.size)
  clear hb
  go_wp2_with (refine load_obj g cs (by rfl) rfl hB Tryd.underlying30 hP.arg.len ?_)
  refine (H6.out _ _ hP).mono ?_
  rintro e w7 ⟨rfl, hb⟩
  replace hP := hP.keep hb
  replace hB := hB.kept hb
  replace hw := hw.trans (hb.mono hw.size)
  clear hb
  go_wp2_with fail
  refine (H7.out _).mono ?_
  rintro e w8 ⟨ds, rfl, hQ, hb⟩
  replace hP := hP.keep hb
  replace hB := hB.kept hb
  replace hw := hw.trans (hb.mono hw.size)
  clear hb H7
  go_wp2_with (refine store_cel w8.heap.size [.int .i64 0, .int .i64 0, .int .i64 0, .int .i64 0, .int .i64 0, .slice none 0 0, .int .i64 0, .slice none 0 0] ds rfl rfl (Cel.new w8 [.int .i64 0, .int .i64 0, .int .i64 0, .int .i64 0, .int .i64 0, .slice none 0 0, .int .i64 0, .slice none 0 0] 30) hQ.arg.nine hQ.arg.len hQ.arg.one ?_)
  intro w9 Bw9 Ow9
  have bw9 : Below w8.heap.size w8 w9 := (below_alloc w8 _).trans (Ow9.below (Nat.le_refl _))
  replace hQ := hQ.keep bw9
  replace hw := hw.trans (bw9.mono hw.size)
  replace hP := hP.keep bw9
  replace hB := hB.kept bw9
  clear Ow9 bw9
  clear Bw9 hQ
  go_wp2_with (refine load_obj g cs (by rfl) rfl hB Tryd.underlying30 hP.arg.len ?_)
  refine (H8.out _ _ hP).mono ?_
  rintro e wa ⟨rfl, hb⟩
  replace hP := hP.keep hb
  replace hB := hB.kept hb
  replace hw := hw.trans (hb.mono hw.size)
  clear hb
  go_wp2_with (refine load_obj g cs (by rfl) rfl hB Tryd.underlying30 hP.arg.len ?_)
  refine (H9.out _ _ hP).mono ?_
  rintro e wb ⟨rfl, hb⟩
  replace hP := hP.keep hb
  replace hB := hB.kept hb
  replace hw := hw.trans (hb.mono hw.size)
  clear hb
  go_wp2_with (refine load_obj g cs (by rfl) rfl hB Tryd.underlying30 hP.arg.len ?_)
  refine (HB.out _ _ hP).mono ?_
  rintro e wc ⟨ro, rc, rfl, hx2, hb⟩
  replace hw := hw.trans (hb.mono hw.size)
  clear hb HB hP hB
  have bZ := below_alloc wc (.cells #[.int .u64 22] 54)
  have S1 : Hid (∀ w0, w0 = wc.alloc (.cells #[.int .u64 22] 54) → Calls Tryd.prog 25 #[.agg #[.int .i64 5, .slice ro 1 rc], .agg #[.int .i64 5, .slice (some ⟨wc.heap.size, 0, none⟩) 1 1]] w0 fun e w' => e = .returned (.bool true) ∧ Below w0.heap.size w0 w') := fun w0 h => by
    subst h
    have := same_c 5 ro [22] rc 5 (some ⟨wc.heap.size, 0, none⟩) [22] 1 _ (hx2.keep bZ) (wd22 wc) (by decide)
    rw [show (decide ((5 : Int) = 5) && decide (([22] : List Nat) = [22])) = true by decide] at this
    exact this
  go_wp2_with fail
  refine (S1.out _ rfl).mono ?_
  rintro e wd ⟨rfl, hb⟩
  replace hw := (hw.trans (bZ.mono hw.size)).trans (hb.mono (Nat.le_trans hw.size bZ.size))
  go_wp2
  go_ret
  exact ⟨rfl, hw⟩
end Go.Proofs.YtjkihmjbhiiknaaDoor

namespace Go.Proofs.YtjkihmjbhiiknaaDoor
open Go.RowKit Num Bit
set_option linter.unusedVariables false
set_option linter.unusedSimpArgs false
set_option maxRecDepth 100000

/-- What row answers. -/
def ROut (o : Option (List Nat)) (w : World) (e : Ending) (w' : World) : Prop :=
  match o with
  | none => e = .returned (.tuple #[.slice none 0 0, .bool false]) ∧ Below w.heap.size w w'
  | some l => ∃ so sc, e = .returned (.tuple #[.slice so l.length sc, .bool true]) ∧ Nd w' so (lz l) ∧ l.length ≤ sc ∧ Below w.heap.size w w'
theorem fRow_bad (a : FA) (h : ¬ ((0 ≤ a.N ∧ a.N ≤ 1048576 ∧ 0 ≤ a.M ∧ a.M ≤ a.N) ∧ ichk a.k a.V a.LM a.xs = true ∧ chk a.H a.ys = true ∧ ((plc (bitAt a.ys) a.H.toNat).length : Int) = a.M ∧ (wdF a.N.toNat a.M.toNat = 0 ∨ (((List.range a.k.toNat).map (numAt a.V.toNat a.xs)).length : Int) = a.M))) : fRow a = none := by
  unfold fRow
  exact if_neg h

set_option maxHeartbeats 8000000 in
theorem row9_bad (N M k V LM H : Int) (ao : Option Addr) (xs : List Nat) (cap : Nat) (qo : Option Addr) (ys : List Nat) (dap : Nat) (w : World) (hx : Wd w ao xs) (fx : Fit xs) (hy : Wd w qo ys) (fy : Fit ys) (h : ¬ ((0 ≤ N ∧ N ≤ 1048576 ∧ 0 ≤ M ∧ M ≤ N) ∧ ichk k V LM xs = true ∧ chk H ys = true)) :
    Calls Tryd.prog 60 #[.agg #[.int .i64 N, .int .i64 M, .int .i64 k, .int .i64 V, .int .i64 LM, .slice ao xs.length cap, .int .i64 H, .slice qo ys.length dap]] w (ROut none w) := by
  unfold ROut
  have C1 : Hid (∀ w0, Below w.heap.size w w0 → Calls Tryd.prog 74 #[.agg #[.int .i64 k, .int .i64 V, .int .i64 LM, .slice ao xs.length cap]] w0 fun e w' => e = .returned (.bool (ichk k V LM xs)) ∧ Below w0.heap.size w0 w') := fun w0 hb => irefcheck_c k V LM ao xs cap w0 (hx.keep hb) fx
  have C2 : Hid (∀ w0, Below w.heap.size w w0 → Calls Tryd.prog 8 #[.agg #[.int .i64 H, .slice qo ys.length dap]] w0 fun e w' => e = .returned (.bool (chk H ys)) ∧ Below w0.heap.size w0 w') := fun w0 hb => refcheck_c H qo ys dap w0 (hy.keep hb) fy
  obtain ⟨W, hW⟩ : ∃ W, W = w.alloc (.cells #[.int .i64 N, .int .i64 M, .int .i64 k, .int .i64 V, .int .i64 LM, .slice ao xs.length cap, .int .i64 H, .slice qo ys.length dap] 30) := ⟨_, rfl⟩
  have bW : Below w.heap.size w W := by rw [hW]; exact below_alloc w _
  have B1 : Cel W w.heap.size [.int .i64 N, .int .i64 M, .int .i64 k, .int .i64 V, .int .i64 LM, .slice ao xs.length cap, .int .i64 H, .slice qo ys.length dap] 30 := by rw [hW]; exact Cel.new w _ _
  clear hx hy fx fy
  by_cases n0 : N < 0
  · clear C1 C2 h
    go_enter Tryd.func60, Tryd.ntmps60
    go_wp2
    go_ret2
    rw [← hW]
    exact ⟨rfl, bW⟩
  by_cases n1 : 1048576 < N
  · clear C1 C2 h
    go_enter Tryd.func60, Tryd.ntmps60
    go_wp2
    go_ret2
    rw [← hW]
    exact ⟨rfl, bW⟩
  by_cases m0 : M < 0
  · clear C1 C2 h
    go_enter Tryd.func60, Tryd.ntmps60
    go_wp2
    go_ret2
    rw [← hW]
    exact ⟨rfl, bW⟩
  by_cases m1 : N < M
  · clear C1 C2 h
    go_enter Tryd.func60, Tryd.ntmps60
    go_wp2
    go_ret2
    rw [← hW]
    exact ⟨rfl, bW⟩
  cases hk : ichk k V LM xs with
  | false =>
    rw [hk] at C1
    clear C2 h hk
    go_enter Tryd.func60, Tryd.ntmps60
    go_wp2_with fail
    rw [← hW]
    refine (C1.out _ bW).mono ?_
    rintro e w1 ⟨rfl, hb⟩
    have bw1 := bW.trans (hb.mono bW.size)
    clear hW hb
    go_wp2
    go_ret2
    exact ⟨rfl, bw1⟩
  | true =>
    have hc : chk H ys = false := by
      cases hc : chk H ys with
      | false => rfl
      | true => exact absurd ⟨by omega, hk, hc⟩ h
    rw [hk] at C1
    rw [hc] at C2
    clear h hk hc
    go_enter Tryd.func60, Tryd.ntmps60
    go_wp2_with fail
    rw [← hW]
    refine (C1.out _ bW).mono ?_
    rintro e w1 ⟨rfl, hb⟩
    have bw1 := bW.trans (hb.mono bW.size)
    replace B1 := B1.kept hb
    have q6 := B1.cell 6 rfl
    have q7 := B1.cell 7 rfl
    clear hW hb
    go_wp2_with fail
    refine (C2.out _ bw1).mono ?_
    rintro e w2 ⟨rfl, hb⟩
    have bw2 := bw1.trans (hb.mono bw1.size)
    clear hb
    go_wp2
    go_ret2
    exact ⟨rfl, bw2⟩
end Go.Proofs.YtjkihmjbhiiknaaDoor

namespace Go.Proofs.YtjkihmjbhiiknaaDoor
open Go.RowKit Num Bit
set_option linter.unusedVariables false
set_option linter.unusedSimpArgs false
set_option maxRecDepth 100000

theorem hide9 {p : Prop} (h : p) : Hid p := h
theorem sum9 (DD y p : Nat) (h : p = DD + y) : (DD : Int) + (y : Int) = (p : Int) := by omega
theorem le9 (DD y p : Nat) (h : p = DD + y) (h1 : DD ≤ 1099511627776) (h2 : y < 1048576) : p ≤ 1099512676352 := by omega
set_option maxHeartbeats 8000000 in
theorem row9_main (n mm kn vn hh : Nat) (LM : Int) (ao : Option Addr) (xs : List Nat) (cap : Nat) (qo : Option Addr) (ys : List Nat) (dap : Nat) (w : World) (hx : Wd w ao xs) (fx : Fit xs) (hy : Wd w qo ys) (fy : Fit ys) (hn : n ≤ 1048576) (hmn : mm ≤ n) (ik : ichk (kn : Int) (vn : Int) LM xs = true) (ck : chk (hh : Int) ys = true) :
    Calls Tryd.prog 60 #[.agg #[.int .i64 (n : Nat), .int .i64 (mm : Nat), .int .i64 (kn : Nat), .int .i64 (vn : Nat), .int .i64 LM, .slice ao xs.length cap, .int .i64 (hh : Nat), .slice qo ys.length dap]] w (ROut (fRow ⟨n, mm, kn, vn, LM, xs, hh, ys⟩) w) := by
  obtain ⟨i3, hi3, za3, zb3, zc3⟩ := info_parts info3_9
  obtain ⟨_, _, _, _, _, _, lm1, knl⟩ := ichk_out _ _ _ _ ik
  obtain ⟨_, hhl, _, _⟩ := chk_out _ _ ck
  have C1 : Hid (∀ w0, Below w.heap.size w w0 → Calls Tryd.prog 74 #[.agg #[.int .i64 (kn : Nat), .int .i64 (vn : Nat), .int .i64 LM, .slice ao xs.length cap]] w0 fun e w' => e = .returned (.bool true) ∧ Below w0.heap.size w0 w') := fun w0 hb => by
    have := irefcheck_c kn vn LM ao xs cap w0 (hx.keep hb) fx
    rw [ik] at this
    exact this
  have C2 : Hid (∀ w0, Below w.heap.size w w0 → Calls Tryd.prog 8 #[.agg #[.int .i64 (hh : Nat), .slice qo ys.length dap]] w0 fun e w' => e = .returned (.bool true) ∧ Below w0.heap.size w0 w') := fun w0 hb => by
    have := refcheck_c hh qo ys dap w0 (hy.keep hb) fy
    rw [ck] at this
    exact this
  have C3 : Hid (∀ w0, Calls Tryd.prog 57 #[.int .i64 (n : Nat), .int .i64 (mm : Nat)] w0 fun e w' => e = .returned (.int .i64 (wdF n mm : Nat)) ∧ Below w0.heap.size w0 w') := fun w0 => f9width_c n mm hn hmn w0
  have C4 : Hid (∀ w0, Below w.heap.size w w0 → Calls Tryd.prog 75 #[.agg #[.int .i64 (kn : Nat), .int .i64 (vn : Nat), .int .i64 LM, .slice ao xs.length cap]] w0 fun e w' => ∃ lo' lc, e = .returned (.slice lo' kn lc) ∧ Wd w' lo' ((List.range kn).map (numAt vn xs)) ∧ Below w0.heap.size w0 w') := fun w0 hb => by
    refine (reflist_ok LM kn vn ao xs cap w0 (hx.keep hb) fx ik).mono ?_
    rintro e w' ⟨v, rfl, ho, hb2⟩
    obtain ⟨lo', lc, rfl, _, _⟩ := Ap.owns_shape ho
    exact ⟨lo', lc, rfl, wd_own9 ho, hb2⟩
  have C5 : Hid (∀ w0, Below w.heap.size w w0 → Calls Tryd.prog 39 #[.agg #[.int .i64 (hh : Nat), .slice qo ys.length dap]] w0 fun e w' => ∃ ho' hc, e = .returned (.slice ho' (plc (bitAt ys) hh).length hc) ∧ Nd w' ho' (lz (plc (bitAt ys) hh)) ∧ Below w0.heap.size w0 w') := fun w0 hb => by
    refine (places_c hh qo ys dap w0 (hy.keep hb) ck).mono ?_
    rintro e w' ⟨v, rfl, ho, hb2⟩
    obtain ⟨ho', hc, rfl, _, _⟩ := Ap.owns_shape ho
    exact ⟨ho', hc, rfl, nd_own9 ho, hb2⟩
  have HR : Hid (fRow ⟨n, mm, kn, vn, LM, xs, hh, ys⟩ = if ((plc (bitAt ys) hh).length = mm) ∧ (wdF n mm = 0 ∨ kn = mm) then fdec n (wdF n mm) ((List.range kn).map (numAt vn xs)) (plc (bitAt ys) hh) (plc (bitAt ys) hh).length else none) := by
    show fRow _ = _
    unfold fRow
    simp only [Int.toNat_natCast, List.length_map, List.length_range]
    by_cases c : (plc (bitAt ys) hh).length = mm ∧ (wdF n mm = 0 ∨ kn = mm)
    · rw [if_pos c, if_pos ⟨⟨by omega, by omega, by omega, by omega⟩, ik, ck, by omega, by omega⟩]
    · rw [if_neg c, if_neg (fun h => c ⟨by omega, by omega⟩)]
  have RS := plc_rise (bitAt ys) hh
  have w20 : wdF n mm ≤ 20 := wdF_le n mm (by omega)
  have fL : Fit ((List.range kn).map (numAt vn xs)) := by
    obtain ⟨_, v64, _⟩ := ichk_out _ _ _ _ ik
    exact fit_map _ _ fun i => numAt_lt vn (by omega) xs i
  have lL : ((List.range kn).map (numAt vn xs)).length = kn := by simp
  rw [HR.out]
  obtain ⟨OO, hOO⟩ : ∃ OO, Hid (OO = if ((plc (bitAt ys) hh).length = mm) ∧ (wdF n mm = 0 ∨ kn = mm) then fdec n (wdF n mm) ((List.range kn).map (numAt vn xs)) (plc (bitAt ys) hh) (plc (bitAt ys) hh).length else none) := ⟨_, rfl⟩
  rw [← hOO.out]
  obtain ⟨W, hW⟩ : ∃ W, W = w.alloc (.cells #[.int .i64 (n : Nat), .int .i64 (mm : Nat), .int .i64 (kn : Nat), .int .i64 (vn : Nat), .int .i64 LM, .slice ao xs.length cap, .int .i64 (hh : Nat), .slice qo ys.length dap] 30) := ⟨_, rfl⟩
  have bW : Below w.heap.size w W := by rw [hW]; exact below_alloc w _
  have B1 : Cel W w.heap.size [.int .i64 (n : Nat), .int .i64 (mm : Nat), .int .i64 (kn : Nat), .int .i64 (vn : Nat), .int .i64 LM, .slice ao xs.length cap, .int .i64 (hh : Nat), .slice qo ys.length dap] 30 := by rw [hW]; exact Cel.new w _ _
  have i1 : ¬ (n : Int) < 0 := by omega
  have i2 : ¬ (1048576 : Int) < (n : Int) := by omega
  have i4 : ¬ (mm : Int) < 0 := by omega
  have i5 : ¬ (n : Int) < (mm : Int) := by omega
  clear hx hy fx fy ik ck HR
  generalize (List.range kn).map (numAt vn xs) = lo at *
  generalize plc (bitAt ys) hh = hi at *
  generalize wdF n mm = v at *
  go_enter Tryd.func60, Tryd.ntmps60
  go_wp2_with fail
  rw [← hW]
  refine (C1.out _ bW).mono ?_
  rintro e w1 ⟨rfl, hb⟩
  have bw1 := bW.trans (hb.mono bW.size)
  replace B1 := B1.kept hb
  have q0 := B1.cell 0 rfl
  have q1 := B1.cell 1 rfl
  have q2 := B1.cell 2 rfl
  have q3 := B1.cell 3 rfl
  have q4 := B1.cell 4 rfl
  have q5 := B1.cell 5 rfl
  have q6 := B1.cell 6 rfl
  have q7 := B1.cell 7 rfl
  clear hb hW bW C1
  go_wp2_with fail
  refine (C2.out _ bw1).mono ?_
  rintro e w2 ⟨rfl, hb⟩
  have bw2 := bw1.trans (hb.mono bw1.size)
  replace B1 := B1.kept hb
  clear hb bw1 C2 q0 q1 q2 q3 q4 q5 q6 q7
  have q0 := B1.cell 0 rfl
  have q1 := B1.cell 1 rfl
  have q2 := B1.cell 2 rfl
  have q3 := B1.cell 3 rfl
  have q4 := B1.cell 4 rfl
  have q5 := B1.cell 5 rfl
  have q6 := B1.cell 6 rfl
  have q7 := B1.cell 7 rfl
  go_wp2_with fail
  refine (C3.out _).mono ?_
  rintro e w3 ⟨rfl, hb⟩
  have bw3 := bw2.trans (hb.mono bw2.size)
  replace B1 := B1.kept hb
  clear hb bw2 C3 q0 q1 q2 q3 q4 q5 q6 q7
  have q0 := B1.cell 0 rfl
  have q1 := B1.cell 1 rfl
  have q2 := B1.cell 2 rfl
  have q3 := B1.cell 3 rfl
  have q4 := B1.cell 4 rfl
  have q5 := B1.cell 5 rfl
  have q6 := B1.cell 6 rfl
  have q7 := B1.cell 7 rfl
  go_wp2_with fail
  refine (C4.out _ bw3).mono ?_
  rintro e w4 ⟨lo', lc, rfl, hLo, hb⟩
  have bw4 := bw3.trans (hb.mono bw3.size)
  replace B1 := B1.kept hb
  clear hb bw3 C4 q0 q1 q2 q3 q4 q5 q6 q7
  have q0 := B1.cell 0 rfl
  have q1 := B1.cell 1 rfl
  have q2 := B1.cell 2 rfl
  have q3 := B1.cell 3 rfl
  have q4 := B1.cell 4 rfl
  have q5 := B1.cell 5 rfl
  have q6 := B1.cell 6 rfl
  have q7 := B1.cell 7 rfl
  go_wp2_with fail
  refine (C5.out _ bw4).mono ?_
  rintro e w5 ⟨ho', hc, rfl, hHi, hb⟩
  have bw5 := bw4.trans (hb.mono bw4.size)
  replace B1 := B1.kept hb
  replace hLo := hLo.keep hb
  clear hb bw4 C5 q0 q1 q2 q3 q4 q5 q6 q7
  have q1 := B1.cell 1 rfl
  by_cases e1 : hi.length = mm
  · have e12 : ((hi.length : Int) != (mm : Int)) = false := by simp [e1]
    by_cases e2 : v = 0 ∨ kn = mm
    · have HO : Hid (OO = fdec n v lo hi hi.length) := by
        show OO = _
        rw [hOO.out, if_pos ⟨e1, e2⟩]
      clear hOO
      have z5 := bw5.size
      subst e1
      have vv : (v : Int) < 64 := by omega
      by_cases hv0 : v = 0
      · have nv1 : ¬ (0 : Int) < (v : Int) := by omega
        have PV : Hid (∀ q, fpl v lo hi q = gt hi q - q) := fun q => by unfold fpl; rw [hv0]; simp
        go_wp2
        go_loopw [7, 8] (fun t i wr => ∃ (q : Nat) (out : List Nat) (so : Option Addr) (sc : Nat), q ≤ hi.length ∧ i = .int .i64 q ∧ t = .slice so q sc ∧ q ≤ sc ∧ Hid (fdec n v lo hi q = some out) ∧ wr.ownsRow w5.heap.size 3 1 (.slice so q sc) q (lv out) ∧ Below w5.heap.size w5 wr) (fun _ i _ => hi.length - (intOf i).toNat)
        case atStart => exact ⟨0, [], none, 0, Nat.zero_le _, rfl, rfl, Nat.le_refl _, rfl, World.ownsRow_nil _ _ _ _, Below.refl _ _⟩
        case round =>
          obtain ⟨q, out, so, sc, hq, rfl, rfl, hsc, HD, hown, hwr⟩ := hrel
          obtain ⟨lo_, hrise⟩ := fdec_len n v lo hi q out HD.out
          by_cases hlt : q < hi.length
          · have hlt2 : (q : Int) < (hi.length : Int) := by omega
            obtain ⟨b, off, rfl, hbl, hcel⟩ := hHi (by rw [length_lz]; omega)
            have cq := (hwr.cell (p := ⟨b, off + q, none⟩) hbl).trans (hcel q (by rw [length_lz]; exact hlt))
            rw [gi_lz] at cq
            have hge := RS.step q 0 (by omega)
            rw [Nat.zero_add] at hge
            have hll := RS.1 q hlt
            obtain ⟨d, hd⟩ : ∃ d, Hid (d = gt hi q - q) := ⟨_, rfl⟩
            have hd2 : (gt hi q : Int) - (q : Int) = (d : Int) := by rw [hd.out]; omega
            have dl : d ≤ 1048576 := by rw [hd.out]; omega
            have n0 := (B1.kept hwr).cell 0 rfl
            have PQ := PV.out q
            obtain ⟨p, hp⟩ : ∃ p, Hid (p = fpl v lo hi q) := ⟨_, rfl⟩
            have hpd : p = d := by rw [hp.out, PQ, hd.out]
            have FS : Hid (fdec n v lo hi (q + 1) = if n ≤ p ∨ (0 < q ∧ p ≤ gt out (q - 1)) then none else some (out ++ [p])) := by
              show fdec n v lo hi (q + 1) = _
              rw [fdec, HD.out, hp.out]
            have FN : Hid (fdec n v lo hi (q + 1) = none → OO = none) := fun h => by
              rw [HO.out]
              have := fdec_none n v lo hi (q + 1) h (hi.length - (q + 1))
              rwa [show q + 1 + (hi.length - (q + 1)) = hi.length by omega] at this
            have bwr := bw5.trans (hwr.mono z5)
            subst hpd
            clear hd PQ
            by_cases a1 : n ≤ p
            · obtain rfl : OO = none := FN.out (by rw [FS.out, if_pos (.inl a1)])
              have a12 : (n : Int) ≤ (p : Int) := by omega
              go_wp2
              go_ret2
              exact (show ROut none w _ _ from ⟨rfl, bwr⟩)
            · have a12 : ¬ (n : Int) ≤ (p : Int) := by omega
              by_cases a2 : 0 < q
              · have a22 : (0 : Int) < (q : Int) := by omega
                have nd := nd_own9 hown
                obtain ⟨b2, off2, rfl, hbl2, hcel2⟩ := nd (by rw [length_lz]; omega)
                have co := hcel2 (q - 1) (by rw [length_lz]; omega)
                rw [gi_lz] at co
                have q11 : (q : Int) - 1 = ((q - 1 : Nat) : Int) := by omega
                have q12 : (((q - 1 : Nat) : Nat) : Int) < (q : Int) := by omega
                by_cases a3 : p ≤ gt out (q - 1)
                · obtain rfl : OO = none := FN.out (by rw [FS.out, if_pos (.inr ⟨a2, a3⟩)])
                  have a32 : (p : Int) ≤ (gt out (q - 1) : Int) := by omega
                  go_wp2
                  go_ret2
                  exact (show ROut none w _ _ from ⟨rfl, bwr⟩)
                · have a32 : ¬ (p : Int) ≤ (gt out (q - 1) : Int) := by omega
                  have HD2 : Hid (fdec n v lo hi (q + 1) = some (out ++ [p])) := by
                    show fdec n v lo hi (q + 1) = _
                    rw [FS.out, if_neg (by omega)]
                  have hq5 := hwr.size
                  go_wp2_with (at_builtin; refine Ap.wpList_append_x (by rfl) _ _ _ (by rfl) w5.heap.size 3 i3 (.int .i64 0) 8 Tryd.underlying64 hi3 za3 zb3 zc3 rfl (.slice (some ⟨b2, off2, none⟩) q sc) q (lv out) (by rfl) (hown.alloc _) (some ⟨wr.heap.size, 0, none⟩) 1 1 [.int .i64 (p : Nat)] (by rfl) rfl ?c1_11 ?c2_11 ?c3_11 ?c4_11 ?c5_11 ?_)
                  case c2_11 => first | rfl | (intro u hu; simp at hu; subst hu; rfl)
                  case c3_11 => unfold maxLen; omega
                  case c4_11 => omega
                  case c5_11 => first | omega | (simp; omega)
                  intro so2 sc2 w9 own9 hle9 hB9 hblk9 hkeep9 hsz9
                  rw [lv_snoc] at own9
                  have hw9 : Below w5.heap.size w5 w9 := (hwr.trans ((below_alloc wr _).mono hwr.size)).trans hB9
                  have HX := hide9 own9
                  clear own9 hB9 hblk9 hkeep9 hown FS FN HO hcel B1 bwr
                  go_wp2
                  exact ⟨⟨q + 1, out ++ [p], so2, sc2, by omega, by go_num, rfl, hle9, HD2, HX.out, hw9⟩, by simp only [intOf]; omega⟩
              · have a22 : ¬ (0 : Int) < (q : Int) := by omega
                have HD2 : Hid (fdec n v lo hi (q + 1) = some (out ++ [p])) := by
                  show fdec n v lo hi (q + 1) = _
                  rw [FS.out, if_neg (by omega)]
                have hq5 := hwr.size
                go_wp2_with (at_builtin; refine Ap.wpList_append_x (by rfl) _ _ _ (by rfl) w5.heap.size 3 i3 (.int .i64 0) 8 Tryd.underlying64 hi3 za3 zb3 zc3 rfl (.slice so q sc) q (lv out) (by rfl) (hown.alloc _) (some ⟨wr.heap.size, 0, none⟩) 1 1 [.int .i64 (p : Nat)] (by rfl) rfl ?c1_21 ?c2_21 ?c3_21 ?c4_21 ?c5_21 ?_)
                case c2_21 => first | rfl | (intro u hu; simp at hu; subst hu; rfl)
                case c3_21 => unfold maxLen; omega
                case c4_21 => omega
                case c5_21 => first | omega | (simp; omega)
                intro so2 sc2 w9 own9 hle9 hB9 hblk9 hkeep9 hsz9
                rw [lv_snoc] at own9
                have hw9 : Below w5.heap.size w5 w9 := (hwr.trans ((below_alloc wr _).mono hwr.size)).trans hB9
                have HX := hide9 own9
                clear own9 hB9 hblk9 hkeep9 hown FS FN HO hcel B1 bwr
                go_wp2
                exact ⟨⟨q + 1, out ++ [p], so2, sc2, by omega, by go_num, rfl, hle9, HD2, HX.out, hw9⟩, by simp only [intOf]; omega⟩
          · obtain rfl : q = hi.length := by omega
            have HO2 : OO = some out := HO.out.trans HD.out
            subst HO2
            have nd := nd_own9 hown
            have bwr := bw5.trans (hwr.mono z5)
            go_wp2
            go_ret2
            exact (show ROut (some out) w _ _ from ⟨so, sc, by rw [lo_]; rfl, nd, by omega, bwr⟩)
      · have nv1 : (0 : Int) < (v : Int) := by omega
        have e4 : ((kn : Int) != (hi.length : Int)) = false := by simp; omega
        have hkn : kn = hi.length := by omega
        have PV : Hid (∀ q, fpl v lo hi q = (gt hi q - q) * 2 ^ v + gt lo q % 2 ^ v) := fun q => by unfold fpl; rw [if_neg hv0]
        go_wp2
        go_loopw [7, 8] (fun t i wr => ∃ (q : Nat) (out : List Nat) (so : Option Addr) (sc : Nat), q ≤ hi.length ∧ i = .int .i64 q ∧ t = .slice so q sc ∧ q ≤ sc ∧ Hid (fdec n v lo hi q = some out) ∧ wr.ownsRow w5.heap.size 3 1 (.slice so q sc) q (lv out) ∧ Below w5.heap.size w5 wr) (fun _ i _ => hi.length - (intOf i).toNat)
        case atStart => exact ⟨0, [], none, 0, Nat.zero_le _, rfl, rfl, Nat.le_refl _, rfl, World.ownsRow_nil _ _ _ _, Below.refl _ _⟩
        case round =>
          obtain ⟨q, out, so, sc, hq, rfl, rfl, hsc, HD, hown, hwr⟩ := hrel
          obtain ⟨lo_, hrise⟩ := fdec_len n v lo hi q out HD.out
          by_cases hlt : q < hi.length
          · have hlt2 : (q : Int) < (hi.length : Int) := by omega
            obtain ⟨b, off, rfl, hbl, hcel⟩ := hHi (by rw [length_lz]; omega)
            have cq := (hwr.cell (p := ⟨b, off + q, none⟩) hbl).trans (hcel q (by rw [length_lz]; exact hlt))
            rw [gi_lz] at cq
            have hge := RS.step q 0 (by omega)
            rw [Nat.zero_add] at hge
            have hll := RS.1 q hlt
            obtain ⟨d, hd⟩ : ∃ d, Hid (d = gt hi q - q) := ⟨_, rfl⟩
            have hd2 : (gt hi q : Int) - (q : Int) = (d : Int) := by rw [hd.out]; omega
            have dl : d ≤ 1048576 := by rw [hd.out]; omega
            have n0 := (B1.kept hwr).cell 0 rfl
            have PQ := hide9 (PV.out q)
            obtain ⟨p, hp⟩ : ∃ p, Hid (p = fpl v lo hi q) := ⟨_, rfl⟩
            obtain ⟨b3, off3, rfl, hbl3, hcel3⟩ := hLo (by omega)
            have cl := (hwr.cell (p := ⟨b3, off3 + q, none⟩) hbl3).trans (hcel3 q (by omega))
            have xl := fL q
            obtain ⟨x, hx⟩ : ∃ x, Hid (x = gt lo q) := ⟨_, rfl⟩
            rw [← hx.out] at cl xl
            obtain ⟨P2, hP2⟩ : ∃ P2 : Nat, Hid ((2 : Nat) ^ v = P2) := ⟨2 ^ v, (rfl : (2 : Nat) ^ v = 2 ^ v)⟩
            have p20 : P2 ≤ 1048576 := by rw [← hP2.out]; exact Nat.pow_le_pow_right (show 0 < 2 by decide) w20
            have p00 : 0 < P2 := by rw [← hP2.out]; exact Nat.two_pow_pos v
            have pw : IntKind.u64.wrap ((2 : Int) ^ v) = (P2 : Int) := by rw [Bit.shl_one v (by omega), hP2.out]
            have p0 : ((P2 : Int) == 0) = false := by simp; omega
            obtain ⟨y, hy_⟩ : ∃ y, Hid (y = x % P2) := ⟨_, rfl⟩
            have yl : y < 1048576 := by rw [hy_.out]; exact Nat.lt_of_lt_of_le (Nat.mod_lt _ p00) p20
            have ym : (x : Int) % (P2 : Int) = (y : Int) := by rw [hy_.out]; omega
            have yt : (x : Int).tmod (P2 : Int) = (y : Int) := by rw [Int.tmod_eq_emod_of_nonneg (by omega)]; exact ym
            obtain ⟨DD, hDD⟩ : ∃ DD, Hid (DD = d * P2) := ⟨_, rfl⟩
            have dl2 : DD ≤ 1099511627776 := by rw [hDD.out]; exact Nat.le_trans (Nat.mul_le_mul dl p20) (by decide)
            have dw : (d : Int) * 2 ^ v = (DD : Int) := by rw [hDD.out, ← hP2.out, Int.natCast_mul, Int.natCast_pow]; rfl
            have hpn : Hid (p = DD + y) := by
              show p = DD + y
              rw [hDD.out, hy_.out, hp.out, PQ.out, hP2.out, hd.out, hx.out]
            have hps := sum9 DD y p hpn.out
            have pl2 := le9 DD y p hpn.out dl2 yl
            clear hcel3
            have FS : Hid (fdec n v lo hi (q + 1) = if n ≤ p ∨ (0 < q ∧ p ≤ gt out (q - 1)) then none else some (out ++ [p])) := by
              show fdec n v lo hi (q + 1) = _
              rw [fdec, HD.out, hp.out]
            have FN : Hid (fdec n v lo hi (q + 1) = none → OO = none) := fun h => by
              rw [HO.out]
              have := fdec_none n v lo hi (q + 1) h (hi.length - (q + 1))
              rwa [show q + 1 + (hi.length - (q + 1)) = hi.length by omega] at this
            have bwr := bw5.trans (hwr.mono z5)
            clear hd PQ
            by_cases a1 : n ≤ p
            · obtain rfl : OO = none := FN.out (by rw [FS.out, if_pos (.inl a1)])
              have a12 : (n : Int) ≤ (p : Int) := by omega
              go_wp2
              go_ret2
              exact (show ROut none w _ _ from ⟨rfl, bwr⟩)
            · have a12 : ¬ (n : Int) ≤ (p : Int) := by omega
              by_cases a2 : 0 < q
              · have a22 : (0 : Int) < (q : Int) := by omega
                have nd := nd_own9 hown
                obtain ⟨b2, off2, rfl, hbl2, hcel2⟩ := nd (by rw [length_lz]; omega)
                have co := hcel2 (q - 1) (by rw [length_lz]; omega)
                rw [gi_lz] at co
                have q11 : (q : Int) - 1 = ((q - 1 : Nat) : Int) := by omega
                have q12 : (((q - 1 : Nat) : Nat) : Int) < (q : Int) := by omega
                by_cases a3 : p ≤ gt out (q - 1)
                · obtain rfl : OO = none := FN.out (by rw [FS.out, if_pos (.inr ⟨a2, a3⟩)])
                  have a32 : (p : Int) ≤ (gt out (q - 1) : Int) := by omega
                  go_wp2
                  go_ret2
                  exact (show ROut none w _ _ from ⟨rfl, bwr⟩)
                · have a32 : ¬ (p : Int) ≤ (gt out (q - 1) : Int) := by omega
                  have HD2 : Hid (fdec n v lo hi (q + 1) = some (out ++ [p])) := by
                    show fdec n v lo hi (q + 1) = _
                    rw [FS.out, if_neg (by omega)]
                  have hq5 := hwr.size
                  go_wp2_with (at_builtin; refine Ap.wpList_append_x (by rfl) _ _ _ (by rfl) w5.heap.size 3 i3 (.int .i64 0) 8 Tryd.underlying64 hi3 za3 zb3 zc3 rfl (.slice (some ⟨b2, off2, none⟩) q sc) q (lv out) (by rfl) (hown.alloc _) (some ⟨wr.heap.size, 0, none⟩) 1 1 [.int .i64 (p : Nat)] (by rfl) rfl ?c1_11v ?c2_11v ?c3_11v ?c4_11v ?c5_11v ?_)
                  case c2_11v => first | rfl | (intro u hu; simp at hu; subst hu; rfl)
                  case c3_11v => unfold maxLen; omega
                  case c4_11v => omega
                  case c5_11v => first | omega | (simp; omega)
                  intro so2 sc2 w9 own9 hle9 hB9 hblk9 hkeep9 hsz9
                  rw [lv_snoc] at own9
                  have hw9 : Below w5.heap.size w5 w9 := (hwr.trans ((below_alloc wr _).mono hwr.size)).trans hB9
                  have HX := hide9 own9
                  clear own9 hB9 hblk9 hkeep9 hown FS FN HO hcel B1 bwr
                  go_wp2
                  exact ⟨⟨q + 1, out ++ [p], so2, sc2, by omega, by go_num, rfl, hle9, HD2, HX.out, hw9⟩, by simp only [intOf]; omega⟩
              · have a22 : ¬ (0 : Int) < (q : Int) := by omega
                have HD2 : Hid (fdec n v lo hi (q + 1) = some (out ++ [p])) := by
                  show fdec n v lo hi (q + 1) = _
                  rw [FS.out, if_neg (by omega)]
                have hq5 := hwr.size
                go_wp2_with (at_builtin; refine Ap.wpList_append_x (by rfl) _ _ _ (by rfl) w5.heap.size 3 i3 (.int .i64 0) 8 Tryd.underlying64 hi3 za3 zb3 zc3 rfl (.slice so q sc) q (lv out) (by rfl) (hown.alloc _) (some ⟨wr.heap.size, 0, none⟩) 1 1 [.int .i64 (p : Nat)] (by rfl) rfl ?c1_21v ?c2_21v ?c3_21v ?c4_21v ?c5_21v ?_)
                case c2_21v => first | rfl | (intro u hu; simp at hu; subst hu; rfl)
                case c3_21v => unfold maxLen; omega
                case c4_21v => omega
                case c5_21v => first | omega | (simp; omega)
                intro so2 sc2 w9 own9 hle9 hB9 hblk9 hkeep9 hsz9
                rw [lv_snoc] at own9
                have hw9 : Below w5.heap.size w5 w9 := (hwr.trans ((below_alloc wr _).mono hwr.size)).trans hB9
                have HX := hide9 own9
                clear own9 hB9 hblk9 hkeep9 hown FS FN HO hcel B1 bwr
                go_wp2
                exact ⟨⟨q + 1, out ++ [p], so2, sc2, by omega, by go_num, rfl, hle9, HD2, HX.out, hw9⟩, by simp only [intOf]; omega⟩
          · obtain rfl : q = hi.length := by omega
            have HO2 : OO = some out := HO.out.trans HD.out
            subst HO2
            have nd := nd_own9 hown
            have bwr := bw5.trans (hwr.mono z5)
            go_wp2
            go_ret2
            exact (show ROut (some out) w _ _ from ⟨so, sc, by rw [lo_]; rfl, nd, by omega, bwr⟩)
    · obtain rfl : OO = none := by rw [hOO.out, if_neg (fun c => e2 c.2)]
      have e3 : (0 : Int) < (v : Int) := by omega
      have e4 : ((kn : Int) != (mm : Int)) = true := by simp; omega
      clear hOO
      go_wp2
      go_ret2
      exact (show ROut none w _ _ from ⟨rfl, bw5⟩)
  · obtain rfl : OO = none := by rw [hOO.out, if_neg (fun c => e1 c.1)]
    have e12 : ((hi.length : Int) != (mm : Int)) = true := by simp; omega
    clear hOO
    go_wp2
    go_ret2
    exact (show ROut none w _ _ from ⟨rfl, bw5⟩)
end Go.Proofs.YtjkihmjbhiiknaaDoor

namespace Go.Proofs.YtjkihmjbhiiknaaDoor
open Go.RowKit Num Bit
set_option linter.unusedVariables false
set_option linter.unusedSimpArgs false
set_option maxRecDepth 100000

set_option maxHeartbeats 4000000 in
theorem isame_c (aN aW aM : Int) (ao : Option Addr) (ax : List Nat) (ac : Nat) (bN bW bM : Int) (bo : Option Addr) (bx : List Nat) (bc : Nat) (w : World) (hx : Wd w ao ax) (hy : Wd w bo bx) (hl : ax.length ≤ 1048576) :
    Calls Tryd.prog 40 #[.agg #[.int .i64 aN, .int .i64 aW, .int .i64 aM, .slice ao ax.length ac], .agg #[.int .i64 bN, .int .i64 bW, .int .i64 bM, .slice bo bx.length bc]] w fun e w' => e = .returned (.bool (decide (aN = bN) && (decide (aW = bW) && (decide (aM = bM) && decide (ax = bx))))) ∧ Below w.heap.size w w' := by
  obtain ⟨W, hW⟩ : ∃ W, W = (w.alloc (.cells #[.int .i64 aN, .int .i64 aW, .int .i64 aM, .slice ao ax.length ac] 28)).alloc (.cells #[.int .i64 bN, .int .i64 bW, .int .i64 bM, .slice bo bx.length bc] 28) := ⟨_, rfl⟩
  have bZ : Below w.heap.size w W := by rw [hW]; exact (below_alloc w _).alloc (by simp) _
  have B1 : Cel W w.heap.size [.int .i64 aN, .int .i64 aW, .int .i64 aM, .slice ao ax.length ac] 28 := by rw [hW]; exact (Cel.new w _ _).alloc _
  have B2 : Cel W (w.heap.size + 1) [.int .i64 bN, .int .i64 bW, .int .i64 bM, .slice bo bx.length bc] 28 := by rw [hW]; exact Cel.new2 w _ _ _
  have C1 : Hid (∀ w0, w0 = W → Calls Tryd.prog 25 #[.agg #[.int .i64 aM, .slice ao ax.length ac], .agg #[.int .i64 bM, .slice bo bx.length bc]] w0 fun e w' => e = .returned (.bool (decide (aM = bM) && decide (ax = bx))) ∧ Below w0.heap.size w0 w') := fun w0 h => by subst h; exact same_c aM ao ax ac bM bo bx bc w0 (hx.keep bZ) (hy.keep bZ) hl
  generalize (decide (aM = bM) && decide (ax = bx)) = z at *
  by_cases h1 : aN = bN
  · by_cases h2 : aW = bW
    · rw [decide_eq_true h1, decide_eq_true h2]
      subst h1 h2
      go_enter Tryd.func40, Tryd.ntmps40
      go_wp2_with fail
      rw [← hW]
      refine (C1.out _ rfl).mono ?_
      rintro e w1 ⟨rfl, hb⟩
      have bw := bZ.trans (hb.mono bZ.size)
      go_wp2
      go_ret
      exact ⟨by cases z <;> rfl, bw⟩
    · rw [decide_eq_true h1, decide_eq_false h2]
      have e2 : (aW == bW) = false := by simpa using h2
      subst h1
      have bw : Below w.heap.size w ((w.alloc (.cells #[.int .i64 aN, .int .i64 aW, .int .i64 aM, .slice ao ax.length ac] 28)).alloc (.cells #[.int .i64 aN, .int .i64 bW, .int .i64 bM, .slice bo bx.length bc] 28)) := (below_alloc w _).alloc (by simp) _
      clear C1 B1 B2 bZ hW W
      go_enter Tryd.func40, Tryd.ntmps40
      go_wp2
      go_ret
      exact ⟨rfl, bw⟩
  · rw [decide_eq_false h1]
    have e1 : (aN == bN) = false := by simpa using h1
    have bw : Below w.heap.size w ((w.alloc (.cells #[.int .i64 aN, .int .i64 aW, .int .i64 aM, .slice ao ax.length ac] 28)).alloc (.cells #[.int .i64 bN, .int .i64 bW, .int .i64 bM, .slice bo bx.length bc] 28)) := (below_alloc w _).alloc (by simp) _
    clear C1 B1 B2 bZ hW W
    go_enter Tryd.func40, Tryd.ntmps40
    go_wp2
    go_ret
    exact ⟨rfl, bw⟩


set_option maxHeartbeats 8000000 in
theorem f9same_c (aN aM ak aV aL : Int) (ao : Option Addr) (ax : List Nat) (ac : Nat) (aH : Int) (aq : Option Addr) (ay : List Nat) (ad : Nat) (bN bM bk bV bL : Int) (bo : Option Addr) (bx : List Nat) (bc : Nat) (bH : Int) (bq : Option Addr) (by_ : List Nat) (bd : Nat) (w : World) (hx : Wd w ao ax) (hbx : Wd w bo bx) (hy : Wd w aq ay) (hby : Wd w bq by_) (hl : ax.length ≤ 1048576) (hly : ay.length ≤ 1048576) :
    Calls Tryd.prog 16 #[.agg #[.int .i64 aN, .int .i64 aM, .int .i64 ak, .int .i64 aV, .int .i64 aL, .slice ao ax.length ac, .int .i64 aH, .slice aq ay.length ad], .agg #[.int .i64 bN, .int .i64 bM, .int .i64 bk, .int .i64 bV, .int .i64 bL, .slice bo bx.length bc, .int .i64 bH, .slice bq by_.length bd]] w fun e w' => e = .returned (.bool (decide (aN = bN) && (decide (aM = bM) && ((decide (ak = bk) && (decide (aV = bV) && (decide (aL = bL) && decide (ax = bx)))) && (decide (aH = bH) && decide (ay = by_)))))) ∧ Below w.heap.size w w' := by
  obtain ⟨W, hW⟩ : ∃ W, W = (w.alloc (.cells #[.int .i64 aN, .int .i64 aM, .int .i64 ak, .int .i64 aV, .int .i64 aL, .slice ao ax.length ac, .int .i64 aH, .slice aq ay.length ad] 30)).alloc (.cells #[.int .i64 bN, .int .i64 bM, .int .i64 bk, .int .i64 bV, .int .i64 bL, .slice bo bx.length bc, .int .i64 bH, .slice bq by_.length bd] 30) := ⟨_, rfl⟩
  have bZ : Below w.heap.size w W := by rw [hW]; exact (below_alloc w _).alloc (by simp) _
  have B1 : Cel W w.heap.size [.int .i64 aN, .int .i64 aM, .int .i64 ak, .int .i64 aV, .int .i64 aL, .slice ao ax.length ac, .int .i64 aH, .slice aq ay.length ad] 30 := by rw [hW]; exact (Cel.new w _ _).alloc _
  have B2 : Cel W (w.heap.size + 1) [.int .i64 bN, .int .i64 bM, .int .i64 bk, .int .i64 bV, .int .i64 bL, .slice bo bx.length bc, .int .i64 bH, .slice bq by_.length bd] 30 := by rw [hW]; exact Cel.new2 w _ _ _
  have C1 : Hid (∀ w0, w0 = W → Calls Tryd.prog 40 #[.agg #[.int .i64 ak, .int .i64 aV, .int .i64 aL, .slice ao ax.length ac], .agg #[.int .i64 bk, .int .i64 bV, .int .i64 bL, .slice bo bx.length bc]] w0 fun e w' => e = .returned (.bool (decide (ak = bk) && (decide (aV = bV) && (decide (aL = bL) && decide (ax = bx))))) ∧ Below w0.heap.size w0 w') := fun w0 h => by subst h; exact isame_c ak aV aL ao ax ac bk bV bL bo bx bc w0 (hx.keep bZ) (hbx.keep bZ) hl
  have C2 : Hid (∀ w0, Below w.heap.size w w0 → Calls Tryd.prog 25 #[.agg #[.int .i64 aH, .slice aq ay.length ad], .agg #[.int .i64 bH, .slice bq by_.length bd]] w0 fun e w' => e = .returned (.bool (decide (aH = bH) && decide (ay = by_))) ∧ Below w0.heap.size w0 w') := fun w0 h => same_c aH aq ay ad bH bq by_ bd w0 (hy.keep h) (hby.keep h) hly
  generalize (decide (ak = bk) && (decide (aV = bV) && (decide (aL = bL) && decide (ax = bx)))) = z1 at *
  generalize (decide (aH = bH) && decide (ay = by_)) = z2 at *
  clear hx hbx hy hby
  by_cases h1 : aN = bN
  · have e1 : (aN == bN) = true := by simpa using h1
    by_cases h2 : aM = bM
    · have e2 : (aM == bM) = true := by simpa using h2
      rw [decide_eq_true h1, decide_eq_true h2]
      clear h1 h2
      go_enter Tryd.func16, Tryd.ntmps16
      go_wp2_with fail
      rw [← hW]
      refine (C1.out _ rfl).mono ?_
      rintro e w1 ⟨rfl, hb⟩
      have bw := bZ.trans (hb.mono bZ.size)
      replace B1 := B1.kept hb
      replace B2 := B2.kept hb
      have p6 := B1.cell 6 rfl
      have p7 := B1.cell 7 rfl
      have q6 := B2.cell 6 rfl
      have q7 := B2.cell 7 rfl
      clear hb bZ hW C1
      cases z1 with
      | false =>
        go_wp2
        go_ret
        exact ⟨rfl, bw⟩
      | true =>
        go_wp2_with fail
        refine (C2.out _ bw).mono ?_
        rintro e w2 ⟨rfl, hb⟩
        have bw2 := bw.trans (hb.mono bw.size)
        clear hb
        go_wp2
        go_ret
        exact ⟨by cases z2 <;> rfl, bw2⟩
    · have e2 : (aM == bM) = false := by simpa using h2
      rw [decide_eq_false h2]
      clear C1 C2 B1 B2 h1 h2
      go_enter Tryd.func16, Tryd.ntmps16
      go_wp2
      go_ret
      rw [← hW]
      exact ⟨by simp, bZ⟩
  · have e1 : (aN == bN) = false := by simpa using h1
    rw [decide_eq_false h1]
    clear C1 C2 B1 B2 h1
    go_enter Tryd.func16, Tryd.ntmps16
    go_wp2
    go_ret
    rw [← hW]
    exact ⟨by simp, bZ⟩
end Go.Proofs.YtjkihmjbhiiknaaDoor
