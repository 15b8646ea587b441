/-
  The lengths of counts may be, and what their codes are. Plain: configurations, which may be, all of them, what they are called. The contracts of the document's samples, logs, in and Check.
-/
import Derived.Test.YtckkhmmicbpihaaM09
import Derived.Test.YtckkhmmicbpihaaM11
import Derived.Test.YtckkhmmicbpihaaM03
import Derived.Test.YtckkhmmicbpihaaM04
import Derived.Deep.QuietTactic
import Derived.BigQuiet
namespace Go.Proofs.Ytckkhmmicbpihaa
open Go.RowKit Num Hp Ka Hr
set_option linter.unusedVariables false
set_option linter.unusedSimpArgs false
set_option maxRecDepth 100000

/-- The lengths as a list. -/
def lst (v : Nat → Nat) : List Int := (List.range 256).map fun c => (v c : Int)
theorem length_lst (v : Nat → Nat) : (lst v).length = 256 := by simp [lst]
theorem gi_lst (v : Nat → Nat) (c : Nat) (h : c < 256) : gi (lst v) c = (v c : Int) := by
  unfold gi lst
  rw [List.getD_eq_getElem?_getD, List.getElem?_map, List.getElem?_range h]
  rfl
/-- Lengths that may be, and none beyond the symbols. -/
structure Lok (v : Nat → Nat) : Prop where
  le : ∀ c, v c ≤ 40
  out : ∀ c, 256 ≤ c → v c = 0
  fit : fitb v = true
theorem cnt_lst {v : Nat → Nat} (h : ∀ c, 256 ≤ c → v c = 0) : cntOf (lst v) = v := by
  funext c
  unfold cntOf
  by_cases g : c < 256
  · rw [gi_lst v c g, Int.toNat_natCast]
  · have : gi (lst v) c = 0 := by unfold gi; rw [List.getD_eq_getElem?_getD, List.getElem?_eq_none (by rw [length_lst]; omega)]; rfl
    rw [this, h c (by omega)]
    rfl
theorem win_of {l : List Int} {top : Int} (h1 : l.length = 256) (h2 : ∀ i, i < l.length → 0 ≤ gi l i ∧ gi l i ≤ top) : win l top = true := by
  unfold win
  have : l.any (bad top) = false := any_false fun i hi => by
    have := h2 i hi
    unfold bad
    simp
    omega
  rw [this]
  simp [h1]
theorem lok_lst {v : Nat → Nat} (h : Lok v) : lok (lst v) = true := by
  unfold lok
  rw [win_of (length_lst v) (fun i hi => by rw [length_lst] at hi; rw [gi_lst v i hi]; have := h.le i; omega), cnt_lst h.out, h.fit]
  rfl
/-- The lengths of counts may be. -/
theorem lok_hlen (l : List Int) (h : win l 1048576 = true) : Lok (hlen (cntOf l) 256) := by
  obtain ⟨h1, h2⟩ := win_len h
  obtain ⟨f1, f2, _⟩ := hlen_fit (cntOf l) (cntI_le h2)
  exact ⟨f2, fun c hc => hlen_none _ c (fun g => by have := (mem_used.1 g).1; omega), f1⟩
theorem hls_lst (l : List Int) : (hls l).map (fun n : Nat => (n : Int)) = lst (hlen (cntOf l) 256) := by
  unfold hls lst
  rw [List.map_map]
  rfl
theorem nd_hls {w : World} {g : Nat} {l : List Int} (h : Cel w g (ivh (hls l)) 3) : Nd w (some ⟨g, 0, none⟩) (lst (hlen (cntOf l) 256)) := by
  intro _
  refine ⟨g, 0, rfl, h.lt, fun i hi => ?_⟩
  rw [length_lst] at hi
  rw [Nat.zero_add, gi_lst _ _ hi, h.cell i (ivh_get _ i (by simp [hls]; omega))]
  unfold hls
  rw [List.getD_eq_getElem?_getD, List.getElem?_map, List.getElem?_range hi]
  rfl
theorem lok_v {l : List Int} (h : lok l = true) : (∀ c, cntOf l c ≤ 40) ∧ ∀ c, cod (cntOf l) c < 2 ^ cntOf l c := by
  unfold lok at h
  rw [Bool.and_eq_true] at h
  obtain ⟨hw, hf⟩ := h
  obtain ⟨h1, h2⟩ := win_len hw
  have hv : ∀ c, cntOf l c ≤ 40 := fun c => by
    unfold cntOf
    by_cases hc : c < l.length
    · have := h2 c hc; omega
    · unfold gi
      rw [List.getD_eq_getElem?_getD, List.getElem?_eq_none (by omega)]
      decide
  refine ⟨hv, fun c => ?_⟩
  unfold cod
  by_cases h0 : 0 < cntOf l c
  · rw [if_pos h0]
    have hc : c < 256 := by
      by_cases hc : c < l.length
      · omega
      · unfold cntOf gi at h0
        rw [List.getD_eq_getElem?_getD, List.getElem?_eq_none (by omega)] at h0
        simp at h0
    exact Hr.code_lt _ _ h0 (hv c) hc (Ka.fit_need hf)
  · rw [if_neg h0]
    exact Nat.two_pow_pos _
theorem win_more {l : List Int} (h : win l 8192 = true) : win l 1048576 = true := by
  obtain ⟨h1, h2⟩ := win_len h
  exact win_of h1 fun i hi => by have := h2 i hi; omega
/-- Codes of such lengths. -/
theorem rcodes_hls (g : Nat) (l : List Int) (w : World) (h : Cel w g (ivh (hls l)) 3) (hw : win l 1048576 = true) :
    Calls Try.prog 71 #[.slice (some ⟨g, 0, none⟩) 256 256] w fun e w' => CO w (hlen (cntOf l) 256) e w' := by
  have hv := lok_hlen l hw
  have := rcodes_c (some ⟨g, 0, none⟩) (lst (hlen (cntOf l) 256)) 256 w (nd_hls h) (by rw [length_lst]; omega) (lok_lst hv)
  rw [length_lst, cnt_lst hv.out] at this
  exact this
end Go.Proofs.Ytckkhmmicbpihaa

namespace Go.Proofs.Ytckkhmmicbpihaa
set_option linter.unusedVariables false

namespace Co
/-- Shape, Inner, Log, Kind, Sample. -/
abbrev Cf := Nat × Nat × Nat × Nat × Nat
def sam : List Nat := [1, 2, 4, 8, 16, 32, 64]
def lgs : List Nat := [4, 6, 8, 10, 12]
def inB (l : List Nat) (n : Nat) : Bool := l.any fun x => Nat.beq x n
/-- Which may be. -/
def ok (c : Cf) : Bool := Nat.ble 1 c.1 && (Nat.ble c.1 4 && (Nat.ble 1 c.2.2.2.1 && (Nat.ble c.2.2.2.1 3 && (inB sam c.2.2.2.2 && bif Nat.beq c.1 4 then Nat.ble 1 c.2.1 && (Nat.ble c.2.1 3 && inB lgs c.2.2.1) else Nat.beq c.2.1 0 && Nat.beq c.2.2.1 0))))
/-- The place t of all that there could be. -/
def cat (t : Nat) : Cf := (t / 9984 + 1, t / 2496 % 4, t / 192 % 13, t / 64 % 3 + 1, t % 64 + 1)
/-- Those that may be from place t on, of the next n. -/
def fr : Nat → Nat → List Cf
  | t, 0 => []
  | t, n + 1 => bif ok (cat t) then cat t :: fr (t + 1) n else fr (t + 1) n
/-- All, in their order. -/
def all : List Cf := ([(1, 0, 0), (2, 0, 0), (3, 0, 0)] ++ [1, 2, 3].flatMap fun i => lgs.map fun l => (4, i, l)).flatMap fun (s, i, l) => [1, 2, 3].flatMap fun k => sam.map fun m => (s, i, l, k, m)
theorem all_len : all.length = 378 := by decide +kernel
theorem fr_all : fr 0 39936 = all := by decide +kernel
end Co
end Go.Proofs.Ytckkhmmicbpihaa

namespace Go.Proofs.Ytckkhmmicbpihaa
open Go.RowKit
set_option linter.unusedVariables false
set_option linter.unusedSimpArgs false
set_option maxRecDepth 100000

namespace Co
/-- A configuration as it is handed in: whatever numbers. -/
abbrev Zf := Int × Int × Int × Int × Int
def cv (z : Zf) : List Value := [.int .i64 z.1, .int .i64 z.2.1, .int .i64 z.2.2.1, .int .i64 z.2.2.2.1, .int .i64 z.2.2.2.2]
def inZ (l : List Nat) (n : Int) : Bool := decide (n ∈ toI l)
def okZ (z : Zf) : Bool := decide (1 ≤ z.1) && (decide (z.1 ≤ 4) && (decide (1 ≤ z.2.2.2.1) && (decide (z.2.2.2.1 ≤ 3) && (inZ sam z.2.2.2.2 && bif decide (z.1 = 4) then decide (1 ≤ z.2.1) && (decide (z.2.1 ≤ 3) && inZ lgs z.2.2.1) else decide (z.2.1 = 0) && decide (z.2.2.1 = 0)))))
end Co
theorem rsam_c (w : World) : Calls Try.prog 18 #[] w fun e w' => ∃ g, e = .returned (.slice (some ⟨g, 0, none⟩) 7 7) ∧ Nd w' (some ⟨g, 0, none⟩) (toI Co.sam) ∧ Below w.heap.size w w' := by
  have H : Hid (Cel (w.alloc (.cells (iv Co.sam).toArray 3)) w.heap.size (iv Co.sam) 3) := Cel.new w _ _
  have B := hide (below_alloc w (.cells (iv Co.sam).toArray 3))
  go_enter Try.func18, Try.ntmps18
  go_wp2
  go_ret
  exact ⟨_, rfl, nd_cel H.out, B.out⟩
theorem rlog_c (w : World) : Calls Try.prog 19 #[] w fun e w' => ∃ g, e = .returned (.slice (some ⟨g, 0, none⟩) 5 5) ∧ Nd w' (some ⟨g, 0, none⟩) (toI Co.lgs) ∧ Below w.heap.size w w' := by
  have H : Hid (Cel (w.alloc (.cells (iv Co.lgs).toArray 3)) w.heap.size (iv Co.lgs) 3) := Cel.new w _ _
  have B := hide (below_alloc w (.cells (iv Co.lgs).toArray 3))
  go_enter Try.func19, Try.ntmps19
  go_wp2
  go_ret
  exact ⟨_, rfl, nd_cel H.out, B.out⟩
theorem mem_gi {l : List Int} {n : Int} (h : n ∈ l) : ∃ i, i < l.length ∧ gi l i = n := by
  obtain ⟨i, hi⟩ := List.getElem?_of_mem h
  have hl := (List.getElem?_eq_some_iff.1 hi).1
  rw [gi_get l i hl] at hi
  injection hi with hi
  exact ⟨i, hl, hi⟩
set_option maxHeartbeats 2000000 in
theorem rin_c (ao : Option Addr) (l : List Int) (cap : Nat) (n : Int) (w : World) (hx : Nd w ao l) (hl : l.length ≤ 1000) :
    Calls Try.prog 17 #[.slice ao l.length cap, .int .i64 n] w fun e w' => e = .returned (.bool (decide (n ∈ l))) ∧ Below w.heap.size w w' := by
  go_enter Try.func17, Try.ntmps17
  go_wp2
  go_loopw [5] (fun vi wr => ∃ k : Nat, k ≤ l.length ∧ vi = .int .i64 k ∧ Hid (∀ i, i < k → gi l i ≠ n) ∧ Below w.heap.size w wr) (fun vi _ => l.length - (intOf vi).toNat)
  case atStart => exact ⟨0, Nat.zero_le _, rfl, fun i h => absurd h (Nat.not_lt_zero _), Below.refl _ _⟩
  case round =>
    obtain ⟨k, hk, rfl, H, hw⟩ := hrel
    by_cases hlt : k < l.length
    · obtain ⟨b, off, rfl, hb, hc⟩ := hx (by omega)
      have e1 := (hw.cell (p := ⟨b, off + k, none⟩) hb).trans (hc k hlt)
      have hltz : (k : Int) < (l.length : Int) := by omega
      by_cases hv : gi l k = n
      · have R : Hid (decide (n ∈ l) = true) := decide_eq_true (by rw [← hv]; exact List.mem_of_getElem? (gi_get l k hlt))
        have hv2 : (gi l k == n) = true := by simp [hv]
        clear hc hv
        generalize gi l k = x at *
        go_wp2
        try (go_quiet (fail); go_wp2)
        go_ret
        rw [R.out]
        exact ⟨rfl, by first | exact hw | exact below_drewN hw _⟩
      · have hv2 : (gi l k == n) = false := by simp [hv]
        have HN : Hid (∀ i, i < k + 1 → gi l i ≠ n) := fun i hi => by
          by_cases e : i = k
          · subst e; exact hv
          · exact H.out i (by omega)
        clear hc hv
        generalize gi l k = x at *
        go_wp2
        try (go_quiet (fail); go_wp2)
        exact ⟨⟨k + 1, by omega, by go_num, HN, by first | exact hw | exact below_drewN hw _⟩, by simp only [intOf]; omega⟩
    · have hge : (l.length : Int) ≤ (k : Int) := by omega
      have R : Hid (decide (n ∈ l) = false) := decide_eq_false fun h => by
        obtain ⟨i, hi, e⟩ := mem_gi h
        exact H.out i (by omega) e
      go_wp2
      go_ret
      rw [R.out]
      exact ⟨rfl, hw⟩
end Go.Proofs.Ytckkhmmicbpihaa
