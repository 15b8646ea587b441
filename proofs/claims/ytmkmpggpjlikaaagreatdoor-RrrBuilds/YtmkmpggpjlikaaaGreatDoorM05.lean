/-
  Plain arithmetic of rows of bits with counts beside them. Nothing of the program is in here. Numbers in memory (a slice of ints that reads as a list), boxes of four cells, and an argument of the type api.Plain, opened. The contract of Same, the law that two rows are one. The contracts of the document's Numbers and Same. The contracts of the document's Same of rows of numbers, and of rows in blocks. A row of words of the call's own. The contract of the document's Choose. The contracts of the document's Width, Offset and Block.
-/
import Derived.Test.YtmkmpggpjlikaaaGreatDoorM01
import Derived.Test.YtmkmpggpjlikaaaGreatDoorM04
import Derived.OwnWalk
import Derived.Deep.AppendLies
import Derived.Deep.Strs
import Derived.Deep.QuietTactic
import Derived.BigQuiet
import Derived.Test.YtmkmpggpjlikaaaGreatDoorM00
import Derived.WalkSmall
import Derived.RegionTactic
import Derived.BigRegion
import Derived.Deep.RegionHeld3
namespace Go.Proofs.YtmkmpggpjlikaaaGreatDoor
open Num
namespace Bit
set_option linter.unusedVariables false

def gi (l : List Int) (i : Nat) : Int := l.getD i 0
theorem gi_get (l : List Int) (i : Nat) (h : i < l.length) : l[i]? = some (gi l i) := by
  unfold gi
  rw [List.getD_eq_getElem?_getD, List.getElem?_eq_getElem h]; rfl
theorem gi_map (f : Nat → Int) (n i : Nat) (h : i < n) : gi ((List.range n).map f) i = f i := by
  unfold gi
  rw [List.getD_eq_getElem?_getD, List.getElem?_map, List.getElem?_range h]; rfl
theorem gi_ext {l m : List Int} (hl : l.length = m.length) (h : ∀ i, i < l.length → gi l i = gi m i) : l = m := by
  refine List.ext_getElem? fun i => ?_
  by_cases c : i < l.length
  · rw [gi_get l i c, gi_get m i (by omega), h i c]
  · rw [List.getElem?_eq_none (by omega), List.getElem?_eq_none (by omega)]

def supI (N : Int) (xs : List Nat) (i : Nat) : Int := onesI N xs (512 * (i : Int))
def subI (N : Int) (xs : List Nat) (j : Nat) : Int := onesI N xs (64 * (j : Int)) - supI N xs (j / 8)
def supP (N : Int) (xs : List Nat) (q : Nat) : List Int := (List.range q).map (supI N xs)
def subP (N : Int) (xs : List Nat) (q : Nat) : List Int := (List.range q).map (subI N xs)
def supL (N : Int) (xs : List Nat) : List Int := supP N xs (N.toNat / 512 + 1)
def subL (N : Int) (xs : List Nat) : List Int := subP N xs xs.length
theorem length_supP (N : Int) (xs : List Nat) (q : Nat) : (supP N xs q).length = q := by simp [supP]
theorem length_subP (N : Int) (xs : List Nat) (q : Nat) : (subP N xs q).length = q := by simp [subP]
theorem length_supL (N : Int) (xs : List Nat) : (supL N xs).length = N.toNat / 512 + 1 := length_supP _ _ _
theorem length_subL (N : Int) (xs : List Nat) : (subL N xs).length = xs.length := length_subP _ _ _
theorem gi_supP (N : Int) (xs : List Nat) (q i : Nat) (h : i < q) : gi (supP N xs q) i = supI N xs i := gi_map _ _ _ h
theorem gi_subP (N : Int) (xs : List Nat) (q i : Nat) (h : i < q) : gi (subP N xs q) i = subI N xs i := gi_map _ _ _ h
theorem onesI_bound (N : Int) (xs : List Nat) (n : Int) : 0 ≤ onesI N xs n ∧ onesI N xs n ≤ 1048576 := by
  unfold onesI
  cases h : chk N xs with
  | false => simp
  | true =>
    obtain ⟨h0, h1, _, _⟩ := chk_out N xs h
    have := cntB_le xs (min n N).toNat
    simp only [if_true]
    omega
theorem supI_bound (N : Int) (xs : List Nat) (i : Nat) : 0 ≤ supI N xs i ∧ supI N xs i ≤ 1048576 := onesI_bound _ _ _
theorem subI_bound (N : Int) (xs : List Nat) (i : Nat) : -1048576 ≤ subI N xs i ∧ subI N xs i ≤ 1048576 := by
  have a := onesI_bound N xs (64 * (i : Int))
  have b := supI_bound N xs (i / 8)
  unfold subI
  omega

/-- Whether one may be. -/
def pchk (N : Int) (xs : List Nat) (su sb : List Int) : Bool := chk N xs && (decide (su = supL N xs) && decide (sb = subL N xs))
def pbN (N : Int) (xs : List Nat) : Int := if chk N xs then N else 0
def pbX (N : Int) (xs : List Nat) : List Nat := if chk N xs then xs else []
def pbS (N : Int) (xs : List Nat) : List Int := if chk N xs then supL N xs else []
def pbT (N : Int) (xs : List Nat) : List Int := if chk N xs then subL N xs else []
def pbE (N : Int) (xs : List Nat) : Int := if chk N xs then 0 else 2
def piN (N : Int) (xs : List Nat) (su sb : List Int) : Int := if pchk N xs su sb then N else 0
def piX (N : Int) (xs : List Nat) (su sb : List Int) : List Nat := if pchk N xs su sb then xs else []
def paE (N : Int) (xs : List Nat) (su sb : List Int) (i : Int) : Int := if pchk N xs su sb then getE N xs i else 2
def paB (N : Int) (xs : List Nat) (su sb : List Int) (i : Int) : Bool := pchk N xs su sb && getB N xs i
/-- How many of the first i bits are bit. -/
def cB (xs : List Nat) (bit : Bool) (i : Nat) : Nat := if bit then cntB xs i else i - cntB xs i
def prE (N : Int) (xs : List Nat) (su sb : List Int) (i : Int) : Int := if pchk N xs su sb then (if i < 0 ∨ N < i then 3 else 0) else 2
def prN (N : Int) (xs : List Nat) (su sb : List Int) (bit : Bool) (i : Int) : Int := if prE N xs su sb i = 0 then (cB xs bit i.toNat : Int) else 0
/-- Is there, at place i, the bit that has k such ahead? -/
def here (xs : List Nat) (bit : Bool) (k : Int) (i : Nat) : Bool := (bitAt xs i == bit) && decide ((cB xs bit i : Int) = k)
def pselO (N : Int) (xs : List Nat) (bit : Bool) (k : Int) : Option Nat := (List.range N.toNat).find? (here xs bit k)
def psE (N : Int) (xs : List Nat) (su sb : List Int) (bit : Bool) (k : Int) : Int := if pchk N xs su sb then (if (pselO N xs bit k).isSome then 0 else 3) else 2
def psX (N : Int) (xs : List Nat) (su sb : List Int) (bit : Bool) (k : Int) : Int := if pchk N xs su sb then ((pselO N xs bit k).getD 0 : Int) else 0
def pzN (N : Int) (xs : List Nat) (su sb : List Int) : Int := if pchk N xs su sb then N + 32 * (su.length : Int) + 16 * (sb.length : Int) else 0

theorem pchk_out (N : Int) (xs : List Nat) (su sb : List Int) (h : pchk N xs su sb = true) : chk N xs = true ∧ su = supL N xs ∧ sb = subL N xs := by
  unfold pchk at h
  simp only [Bool.and_eq_true, decide_eq_true_eq] at h
  exact ⟨h.1, h.2.1, h.2.2⟩
theorem pchk_of (N : Int) (xs : List Nat) (h : chk N xs = true) : pchk N xs (supL N xs) (subL N xs) = true := by
  unfold pchk
  simp [h]
theorem cB_le (xs : List Nat) (bit : Bool) (i : Nat) : cB xs bit i ≤ i := by
  unfold cB
  have := cntB_le xs i
  split <;> omega
theorem cB_succ (xs : List Nat) (bit : Bool) (i : Nat) : cB xs bit (i + 1) = cB xs bit i + if bitAt xs i = bit then 1 else 0 := by
  have := cntB_le xs i
  unfold cB
  cases bit with
  | true => simp only [if_true, cntB]
  | false =>
    simp only [cntB]
    cases h : bitAt xs i <;> simp <;> omega
theorem cB_mono (xs : List Nat) (bit : Bool) (i d : Nat) : cB xs bit i ≤ cB xs bit (i + d) := by
  induction d with
  | zero => exact Nat.le_refl _
  | succ d ih => have := cB_succ xs bit (i + d); rw [show i + (d + 1) = i + d + 1 by omega]; omega
theorem here_one (xs : List Nat) (bit : Bool) (k : Int) (i j : Nat) (hi : here xs bit k i = true) (hj : here xs bit k j = true) : i = j := by
  unfold here at hi hj
  simp only [Bool.and_eq_true, beq_iff_eq, decide_eq_true_eq] at hi hj
  rcases Nat.lt_trichotomy i j with c | c | c
  · have a := cB_succ xs bit i
    rw [if_pos hi.1] at a
    have b := cB_mono xs bit (i + 1) (j - (i + 1))
    rw [show i + 1 + (j - (i + 1)) = j by omega] at b
    omega
  · exact c
  · have a := cB_succ xs bit j
    rw [if_pos hj.1] at a
    have b := cB_mono xs bit (j + 1) (i - (j + 1))
    rw [show j + 1 + (i - (j + 1)) = i by omega] at b
    omega
theorem psel_some (N : Int) (xs : List Nat) (bit : Bool) (k : Int) (i : Nat) (hi : i < N.toNat) (h : here xs bit k i = true) : pselO N xs bit k = some i := by
  unfold pselO
  cases hf : (List.range N.toNat).find? (here xs bit k) with
  | none =>
    rw [List.find?_eq_none] at hf
    exact absurd h (by simpa using hf i (List.mem_range.2 hi))
  | some j =>
    have := List.find?_some hf
    rw [here_one xs bit k i j h this]
theorem psel_none (N : Int) (xs : List Nat) (bit : Bool) (k : Int) (h : ∀ i, i < N.toNat → here xs bit k i = false) : pselO N xs bit k = none := by
  unfold pselO
  rw [List.find?_eq_none]
  intro i hi
  have := h i (List.mem_range.1 hi)
  simp [this]
theorem psel_spec (N : Int) (xs : List Nat) (bit : Bool) (k : Int) (i : Nat) (h : pselO N xs bit k = some i) : i < N.toNat ∧ bitAt xs i = bit ∧ (cB xs bit i : Int) = k := by
  unfold pselO at h
  have a := List.find?_some h
  have b := List.mem_range.1 (List.mem_of_find?_eq_some h)
  unfold here at a
  simp only [Bool.and_eq_true, beq_iff_eq, decide_eq_true_eq] at a
  exact ⟨b, a.1, a.2⟩
/-- There is a place just where k counts. -/
theorem psel_iff (N : Int) (xs : List Nat) (bit : Bool) (k : Int) : (pselO N xs bit k).isSome = true ↔ 0 ≤ k ∧ k < (cB xs bit N.toNat : Int) := by
  constructor
  · intro h
    obtain ⟨i, hi⟩ := Option.isSome_iff_exists.1 h
    obtain ⟨h1, h2, h3⟩ := psel_spec N xs bit k i hi
    have a := cB_succ xs bit i
    rw [if_pos h2] at a
    have b := cB_mono xs bit (i + 1) (N.toNat - (i + 1))
    rw [show i + 1 + (N.toNat - (i + 1)) = N.toNat by omega] at b
    omega
  · rintro ⟨h0, h1⟩
    obtain ⟨m, rfl⟩ := Int.eq_ofNat_of_zero_le h0
    have key : ∀ n, m < cB xs bit n → ∃ i, i < n ∧ here xs bit m i = true := by
      intro n
      induction n with
      | zero => intro h; have := cB_le xs bit 0; omega
      | succ n ih =>
        intro h
        rw [cB_succ] at h
        by_cases c : m < cB xs bit n
        · obtain ⟨i, hi, hh⟩ := ih c
          exact ⟨i, by omega, hh⟩
        · by_cases hb : bitAt xs n = bit
          · rw [if_pos hb] at h
            refine ⟨n, by omega, ?_⟩
            unfold here
            simp only [Bool.and_eq_true, beq_iff_eq, decide_eq_true_eq]
            exact ⟨hb, by omega⟩
          · rw [if_neg hb] at h; omega
    obtain ⟨i, hi, hh⟩ := key N.toNat (by omega)
    rw [psel_some N xs bit m i hi hh]
    rfl
end Bit
end Go.Proofs.YtmkmpggpjlikaaaGreatDoor

namespace Go.Proofs.YtmkmpggpjlikaaaGreatDoor
open Go.ChangeShapes Go.WideShapes Go.ChangeAt Go.RowKit Go.Joins Go.Deep Num Bit
set_option linter.unusedVariables false
set_option maxRecDepth 100000

/-- A slice of ints that reads as a list. -/
def Nd (w : World) (ao : Option Addr) (l : List Int) : Prop :=
  0 < l.length → ∃ b off, ao = some ⟨b, off, none⟩ ∧ b < w.heap.size ∧ ∀ i, i < l.length → w.cell? ⟨b, off + i, none⟩ = some (.int .i64 (gi l i))
theorem Nd.keep {w w' : World} {ao : Option Addr} {l : List Int} (h : Nd w ao l) (hb : Below w.heap.size w w') : Nd w' ao l := by
  intro hi
  obtain ⟨b, off, e, hlt, hc⟩ := h hi
  exact ⟨b, off, e, Nat.lt_of_lt_of_le hlt hb.size, fun i hi => (hb.cell (p := ⟨b, off + i, none⟩) hlt).trans (hc i hi)⟩
theorem nd0 (w : World) (ao : Option Addr) : Nd w ao [] := fun h => absurd h (by simp)
theorem wd0' (w : World) (ao : Option Addr) : Wd w ao [] := fun h => absurd h (by simp)
def FitI (l : List Int) : Prop := ∀ i, -9223372036854775808 ≤ gi l i ∧ gi l i ≤ 9223372036854775807

theorem Tryz.cells3 : Tryz.prog.cellsOf 3 = 1 := by kernel_rfl
theorem Tryz.cells28 : Tryz.prog.cellsOf 28 = 1 := by kernel_rfl
theorem Tryz.cells22 : Tryz.prog.cellsOf 22 = 1 := by kernel_rfl
theorem Tryz.info3 : (Tryz.prog.info? 3).map (fun i => (i.zero, i.size, i.bytes)) = some (some (.int .i64 0), 1, 8) := by kernel_rfl

theorem nd_of (w : World) (a : Addr) (len : Nat) (zs : List Int) (hl : len ≤ zs.length) (hc : ∀ i, i < zs.length → w.cell? (a.add i) = some (.int .i64 (zs.getD i 0))) (hw : ∀ n ∈ zs, (Lit.int .i64 n).wf = true) :
    ∃ l : List Int, l.length = len ∧ Nd w (some a) l ∧ FitI l := by
  have hlen : (zs.take len).length = len := by simp; omega
  have hg : ∀ i, i < len → gi (zs.take len) i = zs.getD i 0 := by
    intro i hi
    unfold gi
    rw [List.getD_eq_getElem?_getD, List.getD_eq_getElem?_getD, List.getElem?_take_of_lt hi]
  refine ⟨zs.take len, hlen, ?_, ?_⟩
  · intro h0
    obtain ⟨b, off, s⟩ := a
    have c0 := hc 0 (by omega)
    obtain ⟨k1, rfl⟩ := cell_lt (show w.cell? ⟨b, off, s⟩ = _ from c0)
    refine ⟨b, off, rfl, k1, fun i hi => ?_⟩
    have ci := hc i (by omega)
    rw [hg i (by omega), ← ci]
    unfold Addr.add
    split
    · subst_vars; rfl
    · rfl
  · intro i
    by_cases c : i < len
    · rw [hg i c]
      have : zs.getD i 0 = zs[i] := by rw [List.getD_eq_getElem?_getD, List.getElem?_eq_getElem (by omega)]; rfl
      rw [this]
      exact i64_wf _ (hw _ (List.getElem_mem (by omega)))
    · unfold gi
      rw [List.getD_eq_getElem?_getD, List.getElem?_eq_none (by omega)]
      decide
theorem open_is {H : Type} {enc : TypeId × Value → H} {W : World} {n : Nat} {c : Value} {y : DataW H × List MemPlace} (h : DataW.trod enc Tryz.prog W 0 (fun _ => true) true n 28 [c] = some y) :
    ∃ ao l cap, c = .slice ao (List.length l) cap ∧ Nd W ao l ∧ FitI l ∧ l.length ≤ cap := by
  rcases open_ints Tryz.underlying28 Tryz.underlying3 Tryz.cells3 h with ⟨hcs, _⟩ | ⟨x, l, cp, zs, hcs, _, hl, hm, hz, _, hcell, hwz⟩
  · simp at hcs
    subst hcs
    exact ⟨none, [], 0, rfl, nd0 _ _, fun i => by unfold gi; simp, by simp⟩
  · simp at hcs
    subst hcs
    have hz2 : zs.length = cp := by simpa using hz
    obtain ⟨xs, hx1, hx2, hx3⟩ := nd_of W x l zs (by omega) hcell hwz
    subst hx1
    exact ⟨some x, xs, cp, rfl, hx2, hx3, hl⟩
theorem array4 {cs : Array Value} (h : cs.size = 4) : ∃ a b c d, cs = #[a, b, c, d] := by
  obtain ⟨l⟩ := cs
  match l, h with
  | [a, b, c, d], _ => exact ⟨a, b, c, d, rfl⟩

end Go.Proofs.YtmkmpggpjlikaaaGreatDoor

namespace Go.Proofs.YtmkmpggpjlikaaaGreatDoor
open Go.RowKit Num Bit

theorem same_end {xs ys : List Nat} (hl : xs.length = ys.length) (k : Nat) (hk : ¬ k < xs.length) (h : ∀ j, j < k → gt xs j = gt ys j) : xs = ys :=
  list_ext xs ys hl fun i hi => h i (by omega)

theorem same_c (N : Int) (ao : Option Addr) (xs : List Nat) (cap : Nat) (M : Int) (bo : Option Addr) (ys : List Nat) (dap : Nat) (w : World) (hx : Wd w ao xs) (hy : Wd w bo ys) (hl : xs.length ≤ 1048576) :
    Calls Tryz.prog 20 #[.agg #[.int .i64 N, .slice ao xs.length cap], .agg #[.int .i64 M, .slice bo ys.length dap]] w fun e w' => e = .returned (.bool (decide (N = M) && decide (xs = ys))) ∧ Below w.heap.size w w' := by
  by_cases h1 : N = M
  · subst h1
    by_cases h2 : xs.length = ys.length
    · have h1' : (N != N) = false := by simp
      have h2' : ((xs.length : Int) != (ys.length : Int)) = false := by simp [h2]
      have H2 : Hid (xs.length = ys.length) := h2
      have h3 : xs.length ≤ ys.length := by omega
      clear h2
      go_enter Tryz.func20, Tryz.ntmps20
      go_wp2
      go_loopw [5] (fun i wr => ∃ k : Nat, k ≤ xs.length ∧ i = .int .i64 k ∧ Hid (∀ j, j < k → gt xs j = gt ys j) ∧ wr.cell? ⟨w.heap.size, 1, none⟩ = some (.slice ao xs.length cap) ∧ wr.cell? ⟨w.heap.size + 1, 1, none⟩ = some (.slice bo ys.length dap) ∧ Below w.heap.size w wr) (fun i _ => xs.length - (intOf i).toNat)
      case atStart => exact ⟨0, by omega, rfl, fun j hj => absurd hj (by omega), by simp, by simp, ((Below.refl _ _).alloc (Nat.le_refl _) _).alloc (by simp) _⟩
      case round =>
        obtain ⟨k, hk, rfl, H, c1, d1, hw⟩ := hrel
        by_cases hlt : k < xs.length
        · obtain ⟨b, off, rfl, hb, hc⟩ := hx (by omega)
          obtain ⟨d, off2, rfl, hd, hc2⟩ := hy (by omega)
          have e1 := (hw.cell (p := ⟨b, off + k, none⟩) hb).trans (hc k hlt)
          have e2 := (hw.cell (p := ⟨d, off2 + k, none⟩) hd).trans (hc2 k (by omega))
          have hlt2 : k < ys.length := by omega
          have hlt3 : (k : Int) < (xs.length : Int) := by omega
          have hlt4 : (k : Int) < (ys.length : Int) := by omega
          clear hc hc2
          go_wp2
          go_quiet (fail)
          go_wp2
          · have hne : ((gt xs k : Int) != (gt ys k : Int)) = true := by assumption
            go_ret
            refine ⟨ret_bool ?_, below_drewN hw _⟩
            have : ¬ xs = ys := fun e => by subst e; simp at hne
            simp [this]
          · have heq : ((gt xs k : Int) != (gt ys k : Int)) = false := by assumption
            refine ⟨⟨k + 1, by omega, by go_num, ?_, c1, d1, below_drewN hw _⟩, by simp only [intOf]; omega⟩
            intro j hj
            by_cases e : j = k
            · subst e; have h2 : (gt xs j : Int) = (gt ys j : Int) := by simpa using heq
              omega
            · exact H.out j (by omega)
        · go_wp2
          go_ret
          exact ⟨ret_bool (by simp [same_end H2.out k hlt H.out]), by assumption⟩
    · have h1' : (N != N) = false := by simp
      have h2' : ((xs.length : Int) != (ys.length : Int)) = true := by simp; omega
      have R : Hid (false = (decide (N = N) && decide (xs = ys))) := by
        have : ¬ xs = ys := fun e => h2 (by rw [e])
        simp [this, Hid]
      clear h2
      go_enter Tryz.func20, Tryz.ntmps20
      go_wp2
      go_ret
      exact ⟨ret_bool R.out, ((Below.refl _ _).alloc (Nat.le_refl _) _).alloc (by simp) _⟩
  · have h1' : (N != M) = true := by simpa using h1
    have R : Hid (false = (decide (N = M) && decide (xs = ys))) := by simp [h1, Hid]
    clear h1
    go_enter Tryz.func20, Tryz.ntmps20
    go_wp2
    go_ret
    exact ⟨ret_bool R.out, ((Below.refl _ _).alloc (Nat.le_refl _) _).alloc (by simp) _⟩

end Go.Proofs.YtmkmpggpjlikaaaGreatDoor

namespace Go.Proofs.YtmkmpggpjlikaaaGreatDoor
open Go.RowKit Num Bit
set_option linter.unusedVariables false
set_option linter.unusedSimpArgs false
set_option maxRecDepth 100000

set_option maxHeartbeats 2000000 in
theorem rnum_c (ao : Option Addr) (l : List Int) (cap : Nat) (bo : Option Addr) (m : List Int) (dap : Nat) (w : World) (hx : Nd w ao l) (hy : Nd w bo m) (hl : l.length ≤ 1048576) :
    Calls Tryz.prog 38 #[.slice ao l.length cap, .slice bo m.length dap] w fun e w' => e = .returned (.bool (decide (l = m))) ∧ Below w.heap.size w w' := by
  by_cases h2 : l.length = m.length
  · have h2' : ((l.length : Int) != (m.length : Int)) = false := by simp [h2]
    have H2 : Hid (l.length = m.length) := h2
    have h3 : l.length ≤ m.length := by omega
    clear h2
    go_enter Tryz.func38, Tryz.ntmps38
    go_wp2
    go_loopw [5] (fun i wr => ∃ k : Nat, k ≤ l.length ∧ i = .int .i64 k ∧ Hid (∀ j, j < k → gi l j = gi m j) ∧ Below w.heap.size w wr) (fun i _ => l.length - (intOf i).toNat)
    case atStart => exact ⟨0, by omega, rfl, fun j hj => absurd hj (by omega), Below.refl _ _⟩
    case round =>
      obtain ⟨k, hk, rfl, H, hw⟩ := hrel
      by_cases hlt : k < l.length
      · obtain ⟨b, off, rfl, hb, hc⟩ := hx (by omega)
        obtain ⟨d, off2, rfl, hd, hc2⟩ := hy (by omega)
        have e1 := (hw.cell (p := ⟨b, off + k, none⟩) hb).trans (hc k hlt)
        have e2 := (hw.cell (p := ⟨d, off2 + k, none⟩) hd).trans (hc2 k (by omega))
        have hlt2 : k < m.length := by omega
        have hlt3 : (k : Int) < (l.length : Int) := by omega
        have hlt4 : (k : Int) < (m.length : Int) := by omega
        clear hc hc2
        by_cases hv : gi l k = gi m k
        · have hne : (gi l k != gi m k) = false := by simp [hv]
          go_wp2
          go_quiet (fail)
          go_wp2
          refine ⟨⟨k + 1, by omega, by go_num, ?_, below_drewN hw _⟩, by simp only [intOf]; omega⟩
          intro j hj
          by_cases e : j = k
          · subst e; exact hv
          · exact H.out j (by omega)
        · have hne : (gi l k != gi m k) = true := by simp [hv]
          have R : Hid (decide (l = m) = false) := by
            show decide (l = m) = false
            simp only [decide_eq_false_iff_not]
            intro e; subst e; exact hv rfl
          go_wp2
          go_quiet (fail)
          go_wp2
          go_ret
          rw [R.out]
          exact ⟨rfl, below_drewN hw _⟩
      · have R : Hid (decide (l = m) = true) := by
          show decide (l = m) = true
          simp only [decide_eq_true_eq]
          exact gi_ext H2.out (fun i hi => H.out i (by omega))
        go_wp2
        go_ret
        rw [R.out]
        exact ⟨rfl, hw⟩
  · have h2' : ((l.length : Int) != (m.length : Int)) = true := by simp; omega
    have R : Hid (decide (l = m) = false) := by
      show decide (l = m) = false
      simp only [decide_eq_false_iff_not]
      intro e; subst e; exact h2 rfl
    go_enter Tryz.func38, Tryz.ntmps38
    go_wp2
    go_ret
    rw [R.out]
    exact ⟨rfl, Below.refl _ _⟩

end Go.Proofs.YtmkmpggpjlikaaaGreatDoor

namespace Go.Proofs.YtmkmpggpjlikaaaGreatDoor
open Go.RowKit Num Bit
set_option linter.unusedVariables false
set_option linter.unusedSimpArgs false
set_option maxRecDepth 100000

set_option maxHeartbeats 4000000 in
theorem isame_c (aN aW aM : Int) (ao : Option Addr) (ax : List Nat) (ac : Nat) (bN bW bM : Int) (bo : Option Addr) (bx : List Nat) (bc : Nat) (w : World) (hx : Wd w ao ax) (hy : Wd w bo bx) (hl : ax.length ≤ 1048576) :
    Calls Tryz.prog 37 #[.agg #[.int .i64 aN, .int .i64 aW, .int .i64 aM, .slice ao ax.length ac], .agg #[.int .i64 bN, .int .i64 bW, .int .i64 bM, .slice bo bx.length bc]] w fun e w' => e = .returned (.bool (decide (aN = bN) && (decide (aW = bW) && (decide (aM = bM) && decide (ax = bx))))) ∧ Below w.heap.size w w' := by
  obtain ⟨W, hW⟩ : ∃ W, W = (w.alloc (.cells #[.int .i64 aN, .int .i64 aW, .int .i64 aM, .slice ao ax.length ac] 27)).alloc (.cells #[.int .i64 bN, .int .i64 bW, .int .i64 bM, .slice bo bx.length bc] 27) := ⟨_, rfl⟩
  have bZ : Below w.heap.size w W := by rw [hW]; exact (below_alloc w _).alloc (by simp) _
  have B1 : Cel W w.heap.size [.int .i64 aN, .int .i64 aW, .int .i64 aM, .slice ao ax.length ac] 27 := by rw [hW]; exact (Cel.new w _ _).alloc _
  have B2 : Cel W (w.heap.size + 1) [.int .i64 bN, .int .i64 bW, .int .i64 bM, .slice bo bx.length bc] 27 := by rw [hW]; exact Cel.new2 w _ _ _
  have C1 : Hid (∀ w0, w0 = W → Calls Tryz.prog 20 #[.agg #[.int .i64 aM, .slice ao ax.length ac], .agg #[.int .i64 bM, .slice bo bx.length bc]] w0 fun e w' => e = .returned (.bool (decide (aM = bM) && decide (ax = bx))) ∧ Below w0.heap.size w0 w') := fun w0 h => by subst h; exact same_c aM ao ax ac bM bo bx bc w0 (hx.keep bZ) (hy.keep bZ) hl
  generalize (decide (aM = bM) && decide (ax = bx)) = z at *
  by_cases h1 : aN = bN
  · by_cases h2 : aW = bW
    · rw [decide_eq_true h1, decide_eq_true h2]
      subst h1 h2
      go_enter Tryz.func37, Tryz.ntmps37
      go_wp2_with fail
      rw [← hW]
      refine (C1.out _ rfl).mono ?_
      rintro e w1 ⟨rfl, hb⟩
      have bw := bZ.trans (hb.mono bZ.size)
      go_wp2
      go_ret
      exact ⟨by cases z <;> rfl, bw⟩
    · rw [decide_eq_true h1, decide_eq_false h2]
      have e2 : (aW == bW) = false := by simpa using h2
      subst h1
      have bw : Below w.heap.size w ((w.alloc (.cells #[.int .i64 aN, .int .i64 aW, .int .i64 aM, .slice ao ax.length ac] 27)).alloc (.cells #[.int .i64 aN, .int .i64 bW, .int .i64 bM, .slice bo bx.length bc] 27)) := (below_alloc w _).alloc (by simp) _
      clear C1 B1 B2 bZ hW W
      go_enter Tryz.func37, Tryz.ntmps37
      go_wp2
      go_ret
      exact ⟨rfl, bw⟩
  · rw [decide_eq_false h1]
    have e1 : (aN == bN) = false := by simpa using h1
    have bw : Below w.heap.size w ((w.alloc (.cells #[.int .i64 aN, .int .i64 aW, .int .i64 aM, .slice ao ax.length ac] 27)).alloc (.cells #[.int .i64 bN, .int .i64 bW, .int .i64 bM, .slice bo bx.length bc] 27)) := (below_alloc w _).alloc (by simp) _
    clear C1 B1 B2 bZ hW W
    go_enter Tryz.func37, Tryz.ntmps37
    go_wp2
    go_ret
    exact ⟨rfl, bw⟩

set_option maxHeartbeats 8000000 in
theorem r8same_c (aN ak aW aM : Int) (ao : Option Addr) (ax : List Nat) (ac : Nat) (aL : Int) (aq : Option Addr) (ay : List Nat) (ad : Nat) (as_ : Option Addr) (au : List Int) (ae : Nat) (at_ : Option Addr) (av : List Int) (af : Nat) (bN bk bW bM : Int) (bo : Option Addr) (bx : List Nat) (bc : Nat) (bL : Int) (bq : Option Addr) (b_y : List Nat) (bd : Nat) (bs : Option Addr) (bu : List Int) (be : Nat) (bt : Option Addr) (bv_ : List Int) (bf : Nat) (w : World) (hx : Wd w ao ax) (hy : Wd w bo bx) (hl : ax.length ≤ 1048576) (kx : Wd w aq ay) (ky : Wd w bq b_y) (kl : ay.length ≤ 1048576) (s1 : Nd w as_ au) (s2 : Nd w bs bu) (sl : au.length ≤ 1048576) (t1 : Nd w at_ av) (t2 : Nd w bt bv_) (tl : av.length ≤ 1048576) :
    Calls Tryz.prog 8 #[.agg #[.int .i64 aN, .int .i64 ak, .int .i64 aW, .int .i64 aM, .slice ao ax.length ac, .int .i64 aL, .slice aq ay.length ad, .slice as_ au.length ae, .slice at_ av.length af], .agg #[.int .i64 bN, .int .i64 bk, .int .i64 bW, .int .i64 bM, .slice bo bx.length bc, .int .i64 bL, .slice bq b_y.length bd, .slice bs bu.length be, .slice bt bv_.length bf]] w fun e w' => e = .returned (.bool (decide (aN = bN) && ((decide (ak = bk) && (decide (aW = bW) && (decide (aM = bM) && decide (ax = bx)))) && ((decide (aL = bL) && decide (ay = b_y)) && (decide (au = bu) && decide (av = bv_)))))) ∧ Below w.heap.size w w' := by
  obtain ⟨W, hW⟩ : ∃ W, W = (w.alloc (.cells #[.int .i64 aN, .int .i64 ak, .int .i64 aW, .int .i64 aM, .slice ao ax.length ac, .int .i64 aL, .slice aq ay.length ad, .slice as_ au.length ae, .slice at_ av.length af] 30)).alloc (.cells #[.int .i64 bN, .int .i64 bk, .int .i64 bW, .int .i64 bM, .slice bo bx.length bc, .int .i64 bL, .slice bq b_y.length bd, .slice bs bu.length be, .slice bt bv_.length bf] 30) := ⟨_, rfl⟩
  have bZ : Below w.heap.size w W := by rw [hW]; exact (below_alloc w _).alloc (by simp) _
  have B1 : Cel W w.heap.size [.int .i64 aN, .int .i64 ak, .int .i64 aW, .int .i64 aM, .slice ao ax.length ac, .int .i64 aL, .slice aq ay.length ad, .slice as_ au.length ae, .slice at_ av.length af] 30 := by rw [hW]; exact (Cel.new w _ _).alloc _
  have B2 : Cel W (w.heap.size + 1) [.int .i64 bN, .int .i64 bk, .int .i64 bW, .int .i64 bM, .slice bo bx.length bc, .int .i64 bL, .slice bq b_y.length bd, .slice bs bu.length be, .slice bt bv_.length bf] 30 := by rw [hW]; exact Cel.new2 w _ _ _
  have C1 : Hid (∀ w0, w0 = W → Calls Tryz.prog 37 #[.agg #[.int .i64 ak, .int .i64 aW, .int .i64 aM, .slice ao ax.length ac], .agg #[.int .i64 bk, .int .i64 bW, .int .i64 bM, .slice bo bx.length bc]] w0 fun e w' => e = .returned (.bool (decide (ak = bk) && (decide (aW = bW) && (decide (aM = bM) && decide (ax = bx))))) ∧ Below w0.heap.size w0 w') := fun w0 h => by subst h; exact isame_c ak aW aM ao ax ac bk bW bM bo bx bc w0 (hx.keep bZ) (hy.keep bZ) hl
  have C2 : Hid (∀ w0, Below w.heap.size w w0 → Calls Tryz.prog 20 #[.agg #[.int .i64 aL, .slice aq ay.length ad], .agg #[.int .i64 bL, .slice bq b_y.length bd]] w0 fun e w' => e = .returned (.bool (decide (aL = bL) && decide (ay = b_y))) ∧ Below w0.heap.size w0 w') := fun w0 h => same_c aL aq ay ad bL bq b_y bd w0 (kx.keep h) (ky.keep h) kl
  have C3 : Hid (∀ w0, Below w.heap.size w w0 → Calls Tryz.prog 38 #[.slice as_ au.length ae, .slice bs bu.length be] w0 fun e w' => e = .returned (.bool (decide (au = bu))) ∧ Below w0.heap.size w0 w') := fun w0 h => rnum_c as_ au ae bs bu be w0 (s1.keep h) (s2.keep h) sl
  have C4 : Hid (∀ w0, Below w.heap.size w w0 → Calls Tryz.prog 38 #[.slice at_ av.length af, .slice bt bv_.length bf] w0 fun e w' => e = .returned (.bool (decide (av = bv_))) ∧ Below w0.heap.size w0 w') := fun w0 h => rnum_c at_ av af bt bv_ bf w0 (t1.keep h) (t2.keep h) tl
  generalize (decide (ak = bk) && (decide (aW = bW) && (decide (aM = bM) && decide (ax = bx)))) = z1 at *
  generalize (decide (aL = bL) && decide (ay = b_y)) = z2 at *
  generalize decide (au = bu) = z3 at *
  generalize decide (av = bv_) = z4 at *
  by_cases h1 : aN = bN
  · rw [decide_eq_true h1]
    subst h1
    go_enter Tryz.func8, Tryz.ntmps8
    go_wp2_with fail
    rw [← hW]
    refine (C1.out _ rfl).mono ?_
    rintro e w1 ⟨rfl, hb⟩
    have bw1 := bZ.trans (hb.mono bZ.size)
    replace B1 := B1.kept hb
    replace B2 := B2.kept hb
    clear hb
    cases z1 with
    | false =>
      go_wp2
      go_ret
      exact ⟨rfl, bw1⟩
    | true =>
      have c0 := B1.cell 0 rfl
      have d0 := B2.cell 0 rfl
      have c1 := B1.cell 1 rfl
      have d1 := B2.cell 1 rfl
      have c2 := B1.cell 2 rfl
      have d2 := B2.cell 2 rfl
      have c3 := B1.cell 3 rfl
      have d3 := B2.cell 3 rfl
      have c4 := B1.cell 4 rfl
      have d4 := B2.cell 4 rfl
      have c5 := B1.cell 5 rfl
      have d5 := B2.cell 5 rfl
      have c6 := B1.cell 6 rfl
      have d6 := B2.cell 6 rfl
      have c7 := B1.cell 7 rfl
      have d7 := B2.cell 7 rfl
      have c8 := B1.cell 8 rfl
      have d8 := B2.cell 8 rfl
      go_wp2_with fail
      refine (C2.out _ bw1).mono ?_
      rintro e w2 ⟨rfl, hb⟩
      have bw2 := bw1.trans (hb.mono bw1.size)
      replace B1 := B1.kept hb
      replace B2 := B2.kept hb
      clear hb c0 d0 c1 d1 c2 d2 c3 d3 c4 d4 c5 d5 c6 d6 c7 d7 c8 d8
      cases z2 with
      | false =>
        go_wp2
        go_ret
        exact ⟨rfl, bw2⟩
      | true =>
        have c0 := B1.cell 0 rfl
        have d0 := B2.cell 0 rfl
        have c1 := B1.cell 1 rfl
        have d1 := B2.cell 1 rfl
        have c2 := B1.cell 2 rfl
        have d2 := B2.cell 2 rfl
        have c3 := B1.cell 3 rfl
        have d3 := B2.cell 3 rfl
        have c4 := B1.cell 4 rfl
        have d4 := B2.cell 4 rfl
        have c5 := B1.cell 5 rfl
        have d5 := B2.cell 5 rfl
        have c6 := B1.cell 6 rfl
        have d6 := B2.cell 6 rfl
        have c7 := B1.cell 7 rfl
        have d7 := B2.cell 7 rfl
        have c8 := B1.cell 8 rfl
        have d8 := B2.cell 8 rfl
        go_wp2_with fail
        refine (C3.out _ bw2).mono ?_
        rintro e w3 ⟨rfl, hb⟩
        have bw3 := bw2.trans (hb.mono bw2.size)
        replace B1 := B1.kept hb
        replace B2 := B2.kept hb
        clear hb c0 d0 c1 d1 c2 d2 c3 d3 c4 d4 c5 d5 c6 d6 c7 d7 c8 d8
        cases z3 with
        | false =>
          go_wp2
          go_ret
          exact ⟨rfl, bw3⟩
        | true =>
          have c0 := B1.cell 0 rfl
          have d0 := B2.cell 0 rfl
          have c1 := B1.cell 1 rfl
          have d1 := B2.cell 1 rfl
          have c2 := B1.cell 2 rfl
          have d2 := B2.cell 2 rfl
          have c3 := B1.cell 3 rfl
          have d3 := B2.cell 3 rfl
          have c4 := B1.cell 4 rfl
          have d4 := B2.cell 4 rfl
          have c5 := B1.cell 5 rfl
          have d5 := B2.cell 5 rfl
          have c6 := B1.cell 6 rfl
          have d6 := B2.cell 6 rfl
          have c7 := B1.cell 7 rfl
          have d7 := B2.cell 7 rfl
          have c8 := B1.cell 8 rfl
          have d8 := B2.cell 8 rfl
          go_wp2_with fail
          refine (C4.out _ bw3).mono ?_
          rintro e w4 ⟨rfl, hb⟩
          have bw4 := bw3.trans (hb.mono bw3.size)
          go_wp2
          go_ret
          exact ⟨by cases z4 <;> rfl, bw4⟩
  · rw [decide_eq_false h1]
    have e1 : (aN == bN) = false := by simpa using h1
    have bw : Below w.heap.size w ((w.alloc (.cells #[.int .i64 aN, .int .i64 ak, .int .i64 aW, .int .i64 aM, .slice ao ax.length ac, .int .i64 aL, .slice aq ay.length ad, .slice as_ au.length ae, .slice at_ av.length af] 30)).alloc (.cells #[.int .i64 bN, .int .i64 bk, .int .i64 bW, .int .i64 bM, .slice bo bx.length bc, .int .i64 bL, .slice bq b_y.length bd, .slice bs bu.length be, .slice bt bv_.length bf] 30)) := (below_alloc w _).alloc (by simp) _
    clear C1 C2 C3 C4 B1 B2 bZ hW W
    go_enter Tryz.func8, Tryz.ntmps8
    go_wp2
    go_ret
    exact ⟨rfl, bw⟩
end Go.Proofs.YtmkmpggpjlikaaaGreatDoor

namespace Go.Proofs.YtmkmpggpjlikaaaGreatDoor
open Go.RowKit Num Bn
namespace Ow
set_option linter.unusedVariables false
set_option linter.unusedSimpArgs false
set_option maxRecDepth 100000

theorem info64 : (Tryz.prog.info? 51).map (fun i => (i.zero, i.size, i.bytes)) = some (some (.int .u64 0), 1, 8) := by kernel_rfl
theorem below_alloc (w : World) (o : Obj) : Below w.heap.size w (w.alloc o) := (Below.refl _ _).alloc (Nat.le_refl _) _

def gt (xs : List Nat) (i : Nat) : Nat := xs.getD i 0
theorem gt_get (xs : List Nat) (i : Nat) (h : i < xs.length) : xs[i]? = some (gt xs i) := by
  unfold gt
  rw [List.getD_eq_getElem?_getD, List.getElem?_eq_getElem h]; rfl
theorem gt_map (f : Nat → Nat) (n i : Nat) (h : i < n) : gt ((List.range n).map f) i = f i := by
  unfold gt
  rw [List.getD_eq_getElem?_getD, List.getElem?_map, List.getElem?_range h]; rfl
theorem gt_set (ys : List Nat) (j i v : Nat) (hj : j < ys.length) : gt (ys.set j v) i = if j = i then v else gt ys i := by
  unfold gt
  rw [List.getD_eq_getElem?_getD, List.getD_eq_getElem?_getD, List.getElem?_set]
  by_cases c : j = i
  · subst c; simp [hj]
  · simp [c]
theorem list_ext {xs ys : List Nat} (hl : xs.length = ys.length) (h : ∀ i, i < xs.length → gt xs i = gt ys i) : xs = ys := by
  refine List.ext_getElem? fun i => ?_
  by_cases c : i < xs.length
  · rw [gt_get xs i c, gt_get ys i (by omega), h i c]
  · rw [List.getElem?_eq_none (by omega), List.getElem?_eq_none (by omega)]

def wv (ys : List Nat) : List Value := ys.map fun y : Nat => Value.int .u64 (y : Int)
theorem length_wv (ys : List Nat) : (wv ys).length = ys.length := by simp [wv]
def Own (w : World) (g : Nat) (ys : List Nat) : Prop := w.heap[g]? = some (.cells (wv ys).toArray 51 (0, 0))
theorem own_made {w : World} {base g n : Nat} (h : w.ownsRow base 51 1 (.slice (some ⟨g, 0, none⟩) n n) n (madeCells #[.int .u64 0] n).toList) : Own w g (List.replicate n 0) := by
  obtain ⟨_, h | ⟨g', cap, cur, e, _, hh, _, _, hs, ht⟩⟩ := h
  · simp at h
  · simp only [Value.slice.injEq, Option.some.injEq, Addr.mk.injEq] at e
    obtain ⟨⟨rfl, _, _⟩, _, rfl⟩ := e
    unfold Own
    rw [hh]
    have e2 : (madeCells #[.int .u64 0] n).toList = wv (List.replicate n 0) := by
      rw [toList_madeCells_one (.int .u64 0) n, wv, List.map_replicate]
      rfl
    rw [e2] at ht
    have e3 : cur.toList.take (n * 1) = cur.toList := List.take_of_length_le (by simp; omega)
    rw [e3] at ht
    rw [← ht]
theorem Own.cell {w : World} {g : Nat} {ys : List Nat} (h : Own w g ys) (j : Nat) (hj : j < ys.length) : w.cell? ⟨g, j, none⟩ = some (.int .u64 (gt ys j)) := by
  unfold World.cell?
  rw [show w.heap[({ block := g, off := j, spot := none } : Addr).block]? = _ from h]
  simp only [List.getElem?_toArray, wv, List.getElem?_map, gt_get ys j hj]
  rfl
theorem Own.frozen {w : World} {g : Nat} {ys : List Nat} (h : Own w g ys) (j : Nat) : w.frozen? ⟨g, j, none⟩ = false := by
  unfold World.frozen?
  rw [show w.heap[({ block := g, off := j, spot := none } : Addr).block]? = _ from h]
  simp
theorem Own.lt {w : World} {g : Nat} {ys : List Nat} (h : Own w g ys) : g < w.heap.size := (Array.getElem?_eq_some_iff.1 h).1
theorem Own.set {w : World} {g : Nat} {ys : List Nat} (h : Own w g ys) (j v : Nat) : Own (w.setCell ⟨g, j, none⟩ (.int .u64 v)) g (ys.set j v) := by
  unfold Own at h ⊢
  simp only [World.setCell, Array.getElem?_modify]
  rw [if_pos trivial, h]
  simp [wv, List.map_set]
theorem Own.drew {w : World} {g : Nat} {ys : List Nat} (h : Own w g ys) : Own w.drew g ys := h

/-- Row i of the triangle, in n + 1 places. -/
def rowP (n i : Nat) : List Nat := (List.range (n + 1)).map (ch i)
/-- Row i above place j, row i - 1 up to it. -/
def pas (n i j : Nat) : List Nat := (List.range (n + 1)).map fun t => if j < t then ch i t else ch (i - 1) t
theorem length_pas (n i j : Nat) : (pas n i j).length = n + 1 := by simp [pas]
theorem length_rowP (n i : Nat) : (rowP n i).length = n + 1 := by simp [rowP]
theorem pas_first (n i : Nat) : pas n i i = rowP n (i - 1) := by
  unfold pas rowP
  refine List.map_congr_left fun t _ => ?_
  by_cases c : i < t
  · rw [if_pos c, ch_out i t c, ch_out (i - 1) t (by omega)]
  · rw [if_neg c]
theorem pas_last (n i : Nat) : pas n i 0 = rowP n i := by
  unfold pas rowP
  refine List.map_congr_left fun t _ => ?_
  by_cases c : 0 < t
  · rw [if_pos c]
  · obtain rfl : t = 0 := by omega
    rw [if_neg c, ch_zero, ch_zero]
theorem gt_pas (n i j t : Nat) (h : t ≤ n) : gt (pas n i j) t = if j < t then ch i t else ch (i - 1) t := gt_map _ _ _ (by omega)
theorem gt_rowP (n i t : Nat) (h : t ≤ n) : gt (rowP n i) t = ch i t := gt_map _ _ _ (by omega)
theorem pas_step (n i j : Nat) (hi : 1 ≤ i) (hj : 1 ≤ j) (hn : j ≤ n) : (pas n i j).set j (ch (i - 1) j + ch (i - 1) (j - 1)) = pas n i (j - 1) := by
  refine list_ext (by rw [List.length_set, length_pas, length_pas]) fun t ht => ?_
  rw [List.length_set, length_pas] at ht
  rw [gt_set _ _ _ _ (by rw [length_pas]; omega), gt_pas _ _ _ _ (by omega), gt_pas _ _ _ _ (by omega)]
  by_cases c : j = t
  · subst c
    obtain ⟨a, rfl⟩ : ∃ a, i = a + 1 := ⟨i - 1, by omega⟩
    obtain ⟨b, rfl⟩ : ∃ b, j = b + 1 := ⟨j - 1, by omega⟩
    rw [if_pos rfl, if_pos (by omega), ch_succ, Nat.add_sub_cancel, Nat.add_sub_cancel]
    omega
  · rw [if_neg c]
    by_cases d : j < t
    · rw [if_pos d, if_pos (by omega)]
    · rw [if_neg d, if_neg (by omega)]
theorem row_start (n : Nat) : (List.replicate (n + 1) 0).set 0 1 = rowP n 0 := by
  refine list_ext (by rw [List.length_set, length_rowP, List.length_replicate]) fun t ht => ?_
  rw [List.length_set, List.length_replicate] at ht
  rw [gt_set _ _ _ _ (by simp), gt_rowP _ _ _ (by omega)]
  by_cases c : 0 = t
  · subst c; rw [if_pos rfl, ch_zero]
  · rw [if_neg c, ch_out 0 t (by omega)]
    unfold gt
    rw [List.getD_eq_getElem?_getD, List.getElem?_replicate]
    split <;> rfl
end Ow
end Go.Proofs.YtmkmpggpjlikaaaGreatDoor

namespace Go.Proofs.YtmkmpggpjlikaaaGreatDoor
open Go.RowKit Num Bn
namespace Ow
set_option linter.unusedVariables false
set_option linter.unusedSimpArgs false
set_option maxRecDepth 100000

theorem rchoose_out (n k : Int) (h : n < 0 ∨ 62 < n ∨ k < 0 ∨ n < k) (w : World) :
    Calls Tryz.prog 68 #[.int .i64 n, .int .i64 k] w fun e w' => e = .returned (.int .u64 0) ∧ Below w.heap.size w w' := by
  by_cases h1 : n < 0
  · go_enter Tryz.func68, Tryz.ntmps68
    go_wp2
    go_ret
    exact ⟨rfl, Below.refl _ _⟩
  by_cases h2 : 62 < n
  · go_enter Tryz.func68, Tryz.ntmps68
    go_wp2
    go_ret
    exact ⟨rfl, Below.refl _ _⟩
  by_cases h3 : k < 0
  · go_enter Tryz.func68, Tryz.ntmps68
    go_wp2
    go_ret
    exact ⟨rfl, Below.refl _ _⟩
  · have h4 : n < k := by omega
    clear h
    go_enter Tryz.func68, Tryz.ntmps68
    go_wp2
    go_ret
    exact ⟨rfl, Below.refl _ _⟩

set_option maxHeartbeats 2000000 in
theorem rchoose_in (n k : Nat) (hn : n ≤ 62) (hk : k ≤ n) (w : World) :
    Calls Tryz.prog 68 #[.int .i64 n, .int .i64 k] w fun e w' => e = .returned (.int .u64 (ch n k)) ∧ Below w.heap.size w w' := by
  obtain ⟨i0, hi, hz0, hz1, hz2⟩ := info_parts info64
  have hn2 : (n : Int) ≤ 62 := by omega
  have hk2 : (k : Int) ≤ n := by omega
  go_enter Tryz.func68, Tryz.ntmps68
  go_wp2_with (at_make; refine wpList_make_full _ rfl _ _ 22 rfl w.heap.size 51 i0 (.int .u64 0) 1 Tryz.underlying22 hi hz0 hz1 .i64 .i64 _ _ (n + 1) rfl rfl rfl rfl ?b2 ?b3 ?b4 ?_)
  case b2 => rw [hz2]; omega
  case b3 => unfold maxLen; omega
  case b4 => omega
  intro w1 hown hgr
  have hO : Own w1 w.heap.size (List.replicate (n + 1) 0) := own_made hown
  have hb1 : Below w.heap.size w w1 := (Below.refl _ _).grown hgr (Nat.le_refl _) (fun k h => by cases h)
  clear hown hgr hi hz0 hz1 hz2
  have c0 := hO.cell 0 (by simp)
  have f0 := hO.frozen 0
  have hO2 := hO.set 0 1
  rw [row_start] at hO2
  have hb2 : Below w.heap.size w (w1.setCell ⟨w.heap.size, 0, none⟩ (.int .u64 ((1 : Nat) : Int))) := hb1.setCell (Nat.le_refl _) _
  have hl : (0 : Int) < (n : Int) + 1 := by omega
  go_wp2
  go_loopw [6, 7] (fun i j wr => ∃ p : Nat, 1 ≤ p ∧ p ≤ n + 1 ∧ i = .int .i64 p ∧ Own wr w.heap.size (rowP n (p - 1)) ∧ Below w.heap.size w wr) (fun i _ _ => n + 1 - (intOf i).toNat)
  case atStart => exact ⟨1, Nat.le_refl _, by omega, rfl, hO2, hb2⟩
  case round =>
    obtain ⟨p, hp1, hp2, rfl, hOr, hwr⟩ := hrel
    clear hO hO2 hb1 hb2 c0 f0
    by_cases hlt : p ≤ n
    · have hlt2 : (p : Int) ≤ (n : Int) := by omega
      go_wp2
      go_loopw [7] (fun j wz => ∃ q : Nat, q ≤ p ∧ j = .int .i64 q ∧ Own wz w.heap.size (pas n p q) ∧ Below w.heap.size w wz) (fun j _ => (intOf j).toNat)
      case atStart => exact ⟨p, Nat.le_refl _, rfl, by rw [pas_first]; exact hOr, hwr⟩
      case round =>
        obtain ⟨q, hq, rfl, hOz, hwz⟩ := hrel
        clear hOr hwr
        by_cases h0 : q = 0
        · subst h0
          rw [pas_last] at hOz
          have HO : Hid (Own wr w.heap.size (rowP n p)) := hOz
          clear hOz
          go_wp2
          exact ⟨⟨p + 1, by omega, by omega, by go_num, HO.out, hwz⟩, by simp only [intOf]; omega⟩
        · have q0 : (0 : Int) < (q : Int) := by omega
          have e1 := hOz.cell q (by rw [length_pas]; omega)
          have e2 := hOz.cell (q - 1) (by rw [length_pas]; omega)
          have fz := hOz.frozen q
          have l1 : (q : Int) < (n : Int) + 1 := by omega
          have l2 : (q : Int) - 1 < (n : Int) + 1 := by omega
          rw [gt_pas _ _ _ _ (by omega), if_neg (by omega)] at e1 e2
          have b1 := ch62 (p - 1) q (by omega)
          have b2 := ch62 (p - 1) (q - 1) (by omega)
          have st := hOz.set q (ch (p - 1) q + ch (p - 1) (q - 1))
          rw [pas_step n p q hp1 (by omega) (by omega)] at st
          have HO : Hid (Own (wr.setCell ⟨w.heap.size, q, none⟩ (.int .u64 ((ch (p - 1) q + ch (p - 1) (q - 1) : Nat) : Int))).drew w.heap.size (pas n p (q - 1))) := st
          have HB : Hid (Below w.heap.size w (wr.setCell ⟨w.heap.size, q, none⟩ (.int .u64 ((ch (p - 1) q + ch (p - 1) (q - 1) : Nat) : Int))).drew) := (hwz.setCell (Nat.le_refl _) _).drew
          have ez : ((q : Int) - 1).toNat = q - 1 := by omega
          have ad : IntKind.u64.wrap ((ch (p - 1) q : Int) + (ch (p - 1) (q - 1) : Int)) = ((ch (p - 1) q + ch (p - 1) (q - 1) : Nat) : Int) := by rw [IntKind.wrap_u64]; omega
          clear st hOz
          generalize ch (p - 1) q = A at *
          generalize ch (p - 1) (q - 1) = B at *
          go_wp2
          go_region
          go_wp2
          exact ⟨⟨q - 1, by omega, by go_num, HO.out, HB.out⟩, by simp only [intOf]; omega⟩
    · obtain rfl : p = n + 1 := by omega
      have e1 := hOr.cell k (by rw [length_rowP]; omega)
      rw [Nat.add_sub_cancel, gt_rowP _ _ _ hk] at e1
      have l1 : (k : Int) < (n : Int) + 1 := by omega
      obtain ⟨Z, hZ⟩ : ∃ Z, Hid (Z = ch n k) := ⟨_, rfl⟩
      rw [← hZ.out] at e1
      go_wp2
      go_ret
      rw [← hZ.out]
      exact ⟨rfl, hwr⟩
theorem rchoose_c (n k : Int) (w : World) :
    Calls Tryz.prog 68 #[.int .i64 n, .int .i64 k] w fun e w' => e = .returned (.int .u64 (chN n k)) ∧ Below w.heap.size w w' := by
  unfold chN
  by_cases h : n < 0 ∨ 62 < n ∨ k < 0 ∨ n < k
  · rw [if_pos h]
    exact rchoose_out n k h w
  · rw [if_neg h]
    obtain ⟨a, rfl⟩ := Int.eq_ofNat_of_zero_le (show 0 ≤ n by omega)
    obtain ⟨b, rfl⟩ := Int.eq_ofNat_of_zero_le (show 0 ≤ k by omega)
    exact rchoose_in a b (by omega) (by omega) w
end Ow
end Go.Proofs.YtmkmpggpjlikaaaGreatDoor

namespace Go.Proofs.YtmkmpggpjlikaaaGreatDoor
open Go.RowKit Num Bn
namespace Ow
set_option linter.unusedVariables false
set_option linter.unusedSimpArgs false
set_option maxRecDepth 100000

set_option maxHeartbeats 2000000 in
theorem rwidth_c (n k : Int) (w : World) :
    Calls Tryz.prog 34 #[.int .i64 n, .int .i64 k] w fun e w' => e = .returned (.int .i64 (wdN n k)) ∧ Below w.heap.size w w' := by
  have C : Hid (∀ w0, Calls Tryz.prog 68 #[.int .i64 n, .int .i64 k] w0 fun e w' => e = .returned (.int .u64 (chN n k)) ∧ Below w0.heap.size w0 w') := fun w0 => rchoose_c n k w0
  have b := chN_le n k
  unfold wdN
  generalize chN n k = c at *
  by_cases h0 : c = 0
  · subst h0
    rw [if_pos rfl]
    go_enter Tryz.func34, Tryz.ntmps34
    go_wp2_with fail
    refine (C.out _).mono ?_
    rintro e w1 ⟨rfl, hb⟩
    go_wp2
    go_ret
    exact ⟨rfl, hb⟩
  · rw [if_neg h0]
    obtain ⟨d, rfl⟩ : ∃ d, c = d + 1 := ⟨c - 1, by omega⟩
    rw [Nat.add_sub_cancel]
    have L : Hid (∀ w0, Calls Tryz.prog 69 #[.int .u64 d] w0 fun e w' => e = .returned (.int .i64 (Go.bitLen d)) ∧ w' = w0) := fun w0 => by
      have := reflen_c (d : Int) (by omega) (by omega) w0
      unfold lenI at this
      rw [Int.toNat_natCast] at this
      exact this
    have c1 : (((d + 1 : Nat) : Int) == 0) = false := by simp; omega
    generalize Go.bitLen d = Z at *
    go_enter Tryz.func34, Tryz.ntmps34
    go_wp2_with fail
    refine (C.out _).mono ?_
    rintro e w1 ⟨rfl, hb⟩
    have e2 : ((d + 1 : Nat) : Int) = (d : Int) + 1 := by omega
    rw [e2]
    go_wp2_with fail
    refine (L.out _).mono ?_
    rintro e w2 ⟨rfl, h2⟩
    rw [h2]
    clear h2 w2
    go_wp2
    go_ret
    exact ⟨rfl, hb⟩

set_option maxHeartbeats 2000000 in
theorem roffset_c (x : Nat) (n : Int) (hx : x < 18446744073709551616) (h0 : -9223372036854775808 ≤ n) (h1 : n ≤ 9223372036854775807) (w : World) :
    Calls Tryz.prog 31 #[.int .u64 x, .int .i64 n] w fun e w' => e = .returned (.tuple #[.int .i64 (ofK x n), .int .u64 (ofO x n)]) ∧ Below w.heap.size w w' := by
  by_cases hn : n < 0
  · rw [show ofK x n = 0 by unfold ofK; rw [if_pos (.inl hn)], show ofO x n = 0 by unfold ofO; rw [if_pos (.inl hn)]]
    go_enter Tryz.func31, Tryz.ntmps31
    go_wp2
    go_ret2
    exact ⟨rfl, Below.refl _ _⟩
  by_cases hn2 : 62 < n
  · rw [show ofK x n = 0 by unfold ofK; rw [if_pos (.inr hn2)], show ofO x n = 0 by unfold ofO; rw [if_pos (.inr hn2)]]
    go_enter Tryz.func31, Tryz.ntmps31
    go_wp2
    go_ret2
    exact ⟨rfl, Below.refl _ _⟩
  rw [show ofK x n = cnt x n.toNat by unfold ofK; rw [if_neg (by omega)], show ofO x n = off x n.toNat by unfold ofO; rw [if_neg (by omega)]]
  obtain ⟨m, rfl⟩ := Int.eq_ofNat_of_zero_le (show 0 ≤ n by omega)
  rw [Int.toNat_natCast]
  have hm : m ≤ 62 := by omega
  have R : Hid (∀ w0, Calls Tryz.prog 67 #[.int .u64 x, .int .i64 m] w0 fun e w' => e = .returned (.int .i64 (cnt x m)) ∧ w' = w0) := fun w0 => by
    have := refrank_c (x : Int) (m : Int) (by omega) (by omega) (by omega) (by omega) w0
    unfold rankI at this
    rw [Int.toNat_natCast, Int.toNat_natCast, Nat.min_eq_left (by omega)] at this
    exact this
  have x0 : (0 : Int) ≤ (x : Int) := by omega
  have C : Hid (∀ w0 (p : Nat), p < m → Calls Tryz.prog 68 #[.int .i64 p, .int .i64 (cnt x (p + 1))] w0 fun e w' => e = .returned (.int .u64 (ch p (cnt x (p + 1)))) ∧ Below w0.heap.size w0 w') := fun w0 p hp => by
    have := rchoose_c p (cnt x (p + 1)) w0
    rw [chN_in p _ (by omega)] at this
    exact this
  go_enter Tryz.func31, Tryz.ntmps31
  go_wp2_with fail
  refine (R.out _).mono ?_
  rintro e w1 ⟨rfl, hw1⟩
  rw [hw1]
  clear hw1 w1 R
  obtain ⟨K, hK⟩ : ∃ K, Hid (K = cnt x m) := ⟨_, rfl⟩
  rw [← hK.out]
  go_wp2
  go_loopw [7, 8, 9] (fun o l i wr => ∃ p O : Nat, p ≤ m ∧ i = .int .i64 ((p : Int) - 1) ∧ l = .int .i64 (cnt x p) ∧ o = .int .u64 O ∧ O + off x p = off x m ∧ Below w.heap.size w wr) (fun _ _ i _ => (intOf i + 1).toNat)
  case atStart => exact ⟨m, 0, Nat.le_refl _, by go_num, by rw [hK.out], rfl, by omega, Below.refl _ _⟩
  case round =>
    obtain ⟨p, O, hp, rfl, rfl, rfl, hO, hwr⟩ := hrel
    by_cases hp0 : p = 0
    · subst hp0
      have HO : Hid (O = off x m) := hO
      clear hO
      go_wp2
      go_ret2
      rw [← HO.out, ← hK.out]
      exact ⟨rfl, hwr⟩
    · obtain ⟨q, rfl⟩ : ∃ q, p = q + 1 := ⟨p - 1, by omega⟩
      have e1 : ((q + 1 : Nat) : Int) - 1 = (q : Int) := by omega
      rw [e1]
      have q64 : (q : Int) < 64 := by omega
      have lt := off_lt x m
      have l62 := ch62 m (cnt x m) hm
      by_cases hb : x / 2 ^ q % 2 = 1
      · have T : ((x : Int) / 2 ^ q).tmod 2 = 1 := by rw [bit_tmod _ _ x0, Int.toNat_natCast, hb]; rfl
        have ec : cnt x (q + 1) = cnt x q + 1 := by rw [cnt, hb]
        have eo : off x (q + 1) = off x q + ch q (cnt x (q + 1)) := by rw [off, if_pos hb]
        have D : Hid (∀ w0, Calls Tryz.prog 68 #[.int .i64 q, .int .i64 (cnt x (q + 1))] w0 fun e w' => e = .returned (.int .u64 (ch q (cnt x (q + 1)))) ∧ Below w0.heap.size w0 w') := fun w0 => C.out w0 q (by omega)
        rw [eo] at hO
        generalize ch q (cnt x (q + 1)) = Z at *
        have HO : Hid (O + Z + off x q = off x m) := by show O + Z + off x q = off x m; omega
        have bO : O + Z < 4611686018427387904 := by omega
        obtain ⟨c, hc⟩ : ∃ c, Hid (c = cnt x q) := ⟨_, rfl⟩
        have ec2 : ((cnt x (q + 1) : Nat) : Int) = (c : Int) + 1 := by rw [hc.out, ec]; omega
        rw [ec2] at D
        rw [ec2]
        have c64 : c ≤ 62 := by rw [hc.out]; have := cnt_le x q; omega
        clear ec eo hO lt l62 C ec2
        go_wp2_with fail
        refine (D.out _).mono ?_
        rintro e w2 ⟨rfl, hb2⟩
        have hw2 := hwr.trans (hb2.mono hwr.size)
        clear D hb2 hwr
        go_wp2
        exact ⟨⟨q, O + Z, by omega, by go_num, by rw [← hc.out], by go_num, HO.out, hw2⟩, by simp only [intOf]; omega⟩
      · have T : ((x : Int) / 2 ^ q).tmod 2 = 0 := by rw [bit_tmod _ _ x0, Int.toNat_natCast, show x / 2 ^ q % 2 = 0 by omega]; rfl
        have ec : cnt x (q + 1) = cnt x q := by rw [cnt]; omega
        have HO : Hid (O + off x q = off x m) := by
          rw [off, if_neg hb] at hO
          exact hO
        rw [ec]
        clear ec hO lt l62 C
        go_wp2
        exact ⟨⟨q, O, by omega, by go_num, rfl, rfl, HO.out, hwr⟩, by simp only [intOf]; omega⟩

theorem shl_one (k : Nat) (h : k < 64) : IntKind.u64.wrap ((2 : Int) ^ k) = ((2 ^ k : Nat) : Int) := by
  have e : ((2 : Int) ^ k) = ((2 ^ k : Nat) : Int) := by rw [Int.natCast_pow]; rfl
  have := two_pow_lt k h
  rw [e, IntKind.wrap_u64]
  generalize (2 ^ k : Nat) = Z at *
  omega
theorem or_high (X p : Nat) (h : X % 2 ^ (p + 1) = 0) : X ||| 2 ^ p = X + 2 ^ p := by
  have e : X = 2 ^ (p + 1) * (X / 2 ^ (p + 1)) := by
    have := Nat.div_add_mod X (2 ^ (p + 1))
    omega
  have lt : 2 ^ p < 2 ^ (p + 1) := by rw [Nat.pow_succ]; have := Nat.two_pow_pos p; omega
  rw [e]
  exact (Nat.two_pow_add_eq_or_of_lt lt _).symm
theorem mod_down (X p : Nat) (h : X % 2 ^ (p + 1) = 0) : X % 2 ^ p = 0 := by
  have := mod_bit X p
  have q := Nat.two_pow_pos p
  omega
theorem mod_plus (X p : Nat) (h : X % 2 ^ (p + 1) = 0) : (X + 2 ^ p) % 2 ^ p = 0 := by
  rw [Nat.add_mod_right]
  exact mod_down X p h

set_option maxHeartbeats 2000000 in
theorem rblock_c (n k : Int) (o : Nat) (ho : o < 18446744073709551616) (w : World) :
    Calls Tryz.prog 97 #[.int .i64 n, .int .i64 k, .int .u64 o] w fun e w' => e = .returned (.tuple #[.int .u64 (bkX n k o), .bool (bkB n k o)]) ∧ Below w.heap.size w w' := by
  have C : Hid (∀ w0, Calls Tryz.prog 68 #[.int .i64 n, .int .i64 k] w0 fun e w' => e = .returned (.int .u64 (chN n k)) ∧ Below w0.heap.size w0 w') := fun w0 => rchoose_c n k w0
  by_cases hc : chN n k ≤ o
  · rw [show bkX n k o = 0 by unfold bkX; rw [if_pos hc], show bkB n k o = false by unfold bkB; simp; omega]
    have hc2 : (chN n k : Int) ≤ (o : Int) := by omega
    generalize chN n k = Z at *
    go_enter Tryz.func97, Tryz.ntmps97
    go_wp2_with fail
    refine (C.out _).mono ?_
    rintro e w1 ⟨rfl, hb⟩
    go_wp2
    go_ret2
    exact ⟨rfl, hb⟩
  · have hin : ¬ (n < 0 ∨ 62 < n ∨ k < 0 ∨ n < k) := by
      intro h
      apply hc
      unfold chN
      rw [if_pos h]
      omega
    rw [show bkX n k o = blk n.toNat k.toNat o by unfold bkX; rw [if_neg hc], show bkB n k o = true by unfold bkB; simp; omega]
    obtain ⟨a, rfl⟩ := Int.eq_ofNat_of_zero_le (show 0 ≤ n by omega)
    obtain ⟨b, rfl⟩ := Int.eq_ofNat_of_zero_le (show 0 ≤ k by omega)
    rw [Int.toNat_natCast, Int.toNat_natCast]
    have ha : a ≤ 62 := by omega
    have hba : b ≤ a := by omega
    have hc2 : ¬ ((chN a b : Nat) : Int) ≤ (o : Int) := by omega
    clear hin
    generalize chN a b = Z at *
    go_enter Tryz.func97, Tryz.ntmps97
    go_wp2_with fail
    refine (C.out _).mono ?_
    rintro e w1 ⟨rfl, hb⟩
    clear C
    go_wp2
    go_loopw [1, 2, 8, 9, 10] (fun kv ov xv i cv wr => ∃ p K O X : Nat, p ≤ a ∧ K ≤ 62 ∧ O < 18446744073709551616 ∧ i = .int .i64 ((p : Int) - 1) ∧ kv = .int .i64 K ∧ ov = .int .u64 O ∧ xv = .int .u64 X ∧ (X + blk p K O = blk a b o ∧ X % 2 ^ p = 0) ∧ Below w.heap.size w wr) (fun _ _ _ i _ _ => (intOf i + 1).toNat)
    case atStart => exact ⟨a, b, o, 0, Nat.le_refl _, by omega, ho, by go_num, rfl, rfl, rfl, ⟨by omega, by simp⟩, hb⟩
    case round =>
      obtain ⟨p, K, O, X, hp, hK, hO, rfl, rfl, rfl, rfl, ⟨hX, hM⟩, hwr⟩ := hrel
      have bX : X < 4611686018427387904 := by
        have := blk_lt a b o
        have : 2 ^ a ≤ 2 ^ 62 := Nat.pow_le_pow_right (by decide) ha
        omega
      by_cases hp0 : p = 0
      · subst hp0
        have HX : Hid (X = blk a b o) := hX
        clear hX hM
        go_wp2
        go_ret2
        rw [← HX.out]
        exact ⟨rfl, hwr⟩
      obtain ⟨q, rfl⟩ : ∃ q, p = q + 1 := ⟨p - 1, by omega⟩
      have e1 : ((q + 1 : Nat) : Int) - 1 = (q : Int) := by omega
      rw [e1]
      have q64 : (q : Int) < 64 := by omega
      by_cases hK0 : K = 0
      · subst hK0
        have HX : Hid (X = blk a b o) := by rw [blk_zero] at hX; exact hX
        clear hX hM
        go_wp2
        go_ret2
        rw [← HX.out]
        exact ⟨rfl, hwr⟩
      have hK1 : (0 : Int) < (K : Int) := by omega
      have D : Hid (∀ w0, Calls Tryz.prog 68 #[.int .i64 q, .int .i64 K] w0 fun e w' => e = .returned (.int .u64 (ch q K)) ∧ Below w0.heap.size w0 w') := fun w0 => by
        have := rchoose_c q K w0
        rw [chN_in q K (by omega)] at this
        exact this
      by_cases hge : ch q K ≤ O
      · have HX : Hid (X + 2 ^ q + blk q (K - 1) (O - ch q K) = blk a b o) := by rw [blk_hi q K O hK0 hge] at hX; show _ = _; omega
        have HM : Hid ((X + 2 ^ q) % 2 ^ q = 0) := mod_plus X q hM
        have HR : Hid (bits .or .u64 (X : Int) (IntKind.u64.wrap (2 ^ q)) = ((X + 2 ^ q : Nat) : Int)) := by
          show bits .or .u64 (X : Int) (IntKind.u64.wrap (2 ^ q)) = ((X + 2 ^ q : Nat) : Int)
          rw [shl_one q (by omega), u64_or_nat _ _ (by omega) (two_pow_lt q (by omega)), or_high X q hM]
        have hge2 : ((ch q K : Nat) : Int) ≤ (O : Int) := by omega
        clear hX hM
        obtain ⟨Z2, hZ2⟩ : ∃ Z2, Hid (Z2 = ch q K) := ⟨_, rfl⟩
        rw [← hZ2.out] at D hge hge2 HX
        go_wp2_with fail
        refine (D.out _).mono ?_
        rintro e w2 ⟨rfl, hb2⟩
        have hw2 := hwr.trans (hb2.mono hwr.size)
        clear D hb2 hwr
        go_wp2
        exact ⟨⟨q, K - 1, O - Z2, X + 2 ^ q, by omega, by omega, by omega, by go_num, by go_num, by go_num, congrArg (Value.int .u64) HR.out, ⟨HX.out, HM.out⟩, hw2⟩, by simp only [intOf]; omega⟩
      · have HX : Hid (X + blk q K O = blk a b o) := by rw [blk_lo q K O hK0 hge] at hX; exact hX
        have HM : Hid (X % 2 ^ q = 0) := mod_down X q hM
        have hge2 : ¬ ((ch q K : Nat) : Int) ≤ (O : Int) := by omega
        clear hX hM
        obtain ⟨Z2, hZ2⟩ : ∃ Z2, Hid (Z2 = ch q K) := ⟨_, rfl⟩
        rw [← hZ2.out] at D hge hge2
        go_wp2_with fail
        refine (D.out _).mono ?_
        rintro e w2 ⟨rfl, hb2⟩
        have hw2 := hwr.trans (hb2.mono hwr.size)
        clear D hb2 hwr
        go_wp2
        exact ⟨⟨q, K, O, X, by omega, hK, hO, by go_num, rfl, rfl, rfl, ⟨HX.out, HM.out⟩, hw2⟩, by simp only [intOf]; omega⟩
end Ow
end Go.Proofs.YtmkmpggpjlikaaaGreatDoor
