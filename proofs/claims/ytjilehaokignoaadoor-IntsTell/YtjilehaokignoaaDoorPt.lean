/-
  The contracts of Put and List.
-/
import Derived.Test.YtjilehaokignoaaDoorMk
import Derived.Deep.RegionHeld3
namespace Go.Proofs.YtjilehaokignoaaDoor
open Go.RowKit Num Bit
set_option maxRecDepth 100000
set_option linter.unusedVariables false

theorem put_row (N W M : Int) (xs : List Nat) (hf : Fit xs) (hk : ichk N W M xs = true) (i n : Nat) (hn : W = (n : Int)) (hi : (i : Int) < N) (v : Nat) (hv : v < 2 ^ n) (hv2 : v < 18446744073709551616) :
    layL xs (i * n) n v = rowOf M.toNat (fun j => if i * n ≤ j ∧ j < i * n + n then v.testBit (j - i * n) else bitAt xs j) := by
  subst hn
  obtain ⟨a1, a2, a3, a4, a5, a6, a7, a8⟩ := ichk_out N n M xs hk
  obtain ⟨_, _, hl, _⟩ := chk_out M xs a5
  obtain ⟨q1, q2, q3, q4⟩ := get_place N n M i a1 a2 a3 a4 a7 (by omega) hi
  rw [← Int.natCast_mul] at q1 q2
  refine eq_rowOf _ _ _ (fit_layL xs hf _ _ _ hv2) (by rw [length_layL]; omega) fun j hj => ?_
  rw [bitAt_layL xs _ _ _ (by omega) (by omega) hv (by omega)]
  by_cases c : i * n ≤ j ∧ j < i * n + n
  · rw [if_pos c]; simp [show j < M.toNat by omega]
  · rw [if_neg c]
    by_cases d : j < M.toNat
    · simp [d]
    · rw [chk_high M xs a5 j (by omega)]; simp

theorem ipL_is (N W M : Int) (xs : List Nat) (hf : Fit xs) (i n v : Nat) (hn : W = (n : Int)) (hE : ipE N W M xs i v = 0) (hv2 : v < 18446744073709551616) : layL xs (i * n) n v = ipL N W M xs i v := by
  obtain ⟨g0, l0⟩ := ipE_zero N W M xs i v hE
  obtain ⟨hk, i0, i1⟩ := igE_zero N W M xs i g0
  rw [put_row N W M xs hf hk i n hn i1 v ((lenI_fit v n).1 (by rw [← hn]; exact l0)) hv2]
  unfold ipL
  rw [if_pos hE, hn, Int.toNat_natCast, Int.toNat_natCast]

/-- The two boxes of a call that hands back a row of numbers. -/
structure PB (w w' : World) (a b c d : Value) : Prop where
  k0 : w'.cell? ⟨w.heap.size, 0, none⟩ = some a
  k1 : w'.cell? ⟨w.heap.size, 1, none⟩ = some b
  k2 : w'.cell? ⟨w.heap.size, 2, none⟩ = some c
  k3 : w'.cell? ⟨w.heap.size, 3, none⟩ = some d
  m0 : w'.cell? ⟨w.heap.size + 1, 0, none⟩ = some (.int .i64 0)
  m1 : w'.cell? ⟨w.heap.size + 1, 1, none⟩ = some (.int .i64 0)
  m2 : w'.cell? ⟨w.heap.size + 1, 2, none⟩ = some (.int .i64 0)
  m3 : w'.cell? ⟨w.heap.size + 1, 3, none⟩ = some (.slice none 0 0)
  f0 : w'.frozen? ⟨w.heap.size + 1, 0, none⟩ = false
  f1 : w'.frozen? ⟨w.heap.size + 1, 1, none⟩ = false
  f2 : w'.frozen? ⟨w.heap.size + 1, 2, none⟩ = false
  f3 : w'.frozen? ⟨w.heap.size + 1, 3, none⟩ = false
  lt : w.heap.size + 1 < w'.heap.size
theorem PB.new {w W w' : World} {a b c d : Value} {T U : TypeId} (hW : W = (w.alloc (.cells #[a, b, c, d] T)).alloc (.cells #[.int .i64 0, .int .i64 0, .int .i64 0, .slice none 0 0] U)) (hb : Below W.heap.size W w') : PB w w' a b c d ∧ Below w.heap.size w w' := by
  obtain ⟨⟨k0, k1, k2, k3⟩, ⟨m0, m1, m2, m3⟩, ⟨n0, n1, n2, n3⟩, _, hz, hw⟩ := box4_two hW hb
  exact ⟨⟨k0, k1, k2, k3, m0, m1, m2, m3, n0, n1, n2, n3, hz⟩, hw⟩
theorem PB.keepB {w w1 w2 : World} {a b c d : Value} (h : PB w w1 a b c d) (C : ∀ p : Addr, p.block < w.heap.size + 2 → w2.cell? p = w1.cell? p) (F : ∀ p : Addr, p.block < w.heap.size + 2 → w2.frozen? p = w1.frozen? p) (hs : w1.heap.size ≤ w2.heap.size) : PB w w2 a b c d :=
  ⟨(C ⟨w.heap.size, 0, none⟩ (by simp)).trans h.k0, (C ⟨w.heap.size, 1, none⟩ (by simp)).trans h.k1, (C ⟨w.heap.size, 2, none⟩ (by simp)).trans h.k2, (C ⟨w.heap.size, 3, none⟩ (by simp)).trans h.k3,
   (C ⟨w.heap.size + 1, 0, none⟩ (by simp)).trans h.m0, (C ⟨w.heap.size + 1, 1, none⟩ (by simp)).trans h.m1, (C ⟨w.heap.size + 1, 2, none⟩ (by simp)).trans h.m2, (C ⟨w.heap.size + 1, 3, none⟩ (by simp)).trans h.m3,
   (F ⟨w.heap.size + 1, 0, none⟩ (by simp)).trans h.f0, (F ⟨w.heap.size + 1, 1, none⟩ (by simp)).trans h.f1, (F ⟨w.heap.size + 1, 2, none⟩ (by simp)).trans h.f2, (F ⟨w.heap.size + 1, 3, none⟩ (by simp)).trans h.f3, Nat.lt_of_lt_of_le h.lt hs⟩
theorem PB.keep {w w1 w2 : World} {a b c d : Value} (h : PB w w1 a b c d) (hb : Below w1.heap.size w1 w2) : PB w w2 a b c d :=
  h.keepB (fun p hp => hb.cell (by have := h.lt; omega)) (fun p hp => hb.frozen (by have := h.lt; omega)) hb.size

set_option maxHeartbeats 2000000 in
theorem iput_ok (N M : Int) (n : Nat) (ao : Option Addr) (xs : List Nat) (cap : Nat) (i v : Nat) (w : World) (hx : Wd w ao xs) (hf : Fit xs) (hl : xs.length ≤ 1048576) (hv : v < 18446744073709551616) (hE : ipE N (n : Int) M xs i v = 0) :
    Calls Tryd.prog 15 #[.agg #[.int .i64 N, .int .i64 n, .int .i64 M, .slice ao xs.length cap], .int .i64 i, .int .u64 v] w fun e w' => ∃ g, e = .returned (.tuple #[.agg #[.int .i64 N, .int .i64 n, .int .i64 M, .slice (some ⟨g, 0, none⟩) xs.length xs.length], .int .i64 0]) ∧ w.heap.size ≤ g ∧ Own w' g (layL xs (i * n) n v) ∧ Below w.heap.size w w' := by
  obtain ⟨g0, l0⟩ := ipE_zero N n M xs i v hE
  obtain ⟨hk, i0, i1⟩ := igE_zero N n M xs i g0
  obtain ⟨a1, a2, a3, a4, a5, a6, a7, a8⟩ := ichk_out N n M xs hk
  obtain ⟨_, _, hlen, _⟩ := chk_out M xs a5
  obtain ⟨q1, q2, q3, q4⟩ := get_place N n M i a1 a2 a3 a4 a7 (by omega) i1
  have K : ∀ o o', Wd ((w.alloc o).alloc o') ao xs := fun o o' => hx.keep ((below_alloc w o).alloc (by simp) o')
  have HC : Hid ((i : Int) * (n : Int) = ((i * n : Nat) : Int)) := (Int.natCast_mul i n).symm
  have HP : Hid (i * n + n ≤ 64 * xs.length) := by rw [HC.out] at q2; unfold Hid; omega
  have HQ : Hid (i * n ≤ 1048576) := by rw [HC.out] at q4; unfold Hid; omega
  have HE : Hid (ipE N (n : Int) M xs i v = 0) := hE
  clear hE g0 l0 hk a3 a4 a5 hlen q2 q3
  go_enter Tryd.func15, Tryd.ntmps15
  go_wp2_with fail
  refine (iasItIs_c _ _ _ _ _ _ _ (K _ _) hl).mono ?_
  rintro e w1 ⟨g, rfl, hg1, hg2, hO, hb⟩
  have KK := PB.new rfl hb
  have hg0 : w.heap.size + 2 ≤ g := by simpa using hg1
  clear hb hg1 K
  obtain ⟨P, hw⟩ := KK
  have hx1 := hx.keep hw
  have HO : Hid (Own w1 g xs) := hO
  have k0 := P.k0
  have k1 := P.k1
  have k2 := P.k2
  have k3 := P.k3
  have plt := P.lt
  have plt2 : w.heap.size < w1.heap.size := by omega
  clear hO
  go_wp2_with fail
  refine (puttable_ok _ _ _ _ _ _ _ _ _ (hx1.keep (below_alloc _ _)) hv HE.out).mono ?_
  rintro e w2 ⟨rfl, hb⟩
  have Q := Box4.new hb
  clear hb k0 k1 k2 k3
  obtain ⟨⟨z, c0, c1, c2, c3⟩, hb2⟩ := Q
  replace P := P.keep hb2
  have hO2 := HO.out.keep hb2
  have hw2 := hw.trans (hb2.mono (by omega))
  have k1 := P.k1
  clear hb2 HO hx1 hw
  go_wp2_with fail
  rw [HC.out]
  refine (lay_c xs xs.length g xs.length (i * n) n v _ rfl hO2 hf (by omega) (by omega) hv HP.out HQ.out).mono ?_
  rintro e w3 ⟨rfl, hO3, hT⟩
  have hw3 := hw2.trans (hT.below (B := w.heap.size) (by omega))
  replace P : PB w w3 _ _ _ _ := P.keepB (fun p hp => hT.cell (by omega)) (fun p hp => hT.frozen (by omega)) (by rw [hT.size]; exact Nat.le_refl _)
  have d0 := (hT.cell (p := ⟨w1.heap.size, 0, none⟩) (show w1.heap.size ≠ g by omega)).trans c0
  have d1 := (hT.cell (p := ⟨w1.heap.size, 1, none⟩) (show w1.heap.size ≠ g by omega)).trans c1
  have d2 := (hT.cell (p := ⟨w1.heap.size, 2, none⟩) (show w1.heap.size ≠ g by omega)).trans c2
  have d3 := (hT.cell (p := ⟨w1.heap.size, 3, none⟩) (show w1.heap.size ≠ g by omega)).trans c3
  clear c0 c1 c2 c3 hw2 hO2 k1 hT
  obtain ⟨k0, k1, k2, k3, m0, m1, m2, m3, f0, f1, f2, f3, hz⟩ := P
  have HO : Hid (Own w3 g (layL xs (i * n) n v)) := hO3
  clear hO3
  go_wp2
  refine bodyPost_ret (v := .tuple #[.agg #[.int .i64 N, .int .i64 n, .int .i64 M, .slice (some ⟨g, 0, none⟩) xs.length xs.length], .int .i64 0]) (by simp [results, Tryd.results15, go_sem, m0, m1, m2, m3]) rfl ⟨g, rfl, by omega, ?_, ?_⟩
  · exact (((HO.out.set_other (by simp; omega) _).set_other (by simp; omega) _).set_other (by simp; omega) _).set_other (by simp; omega) _
  · exact (((hw3.setCell (by simp) _).setCell (by simp) _).setCell (by simp) _).setCell (by simp) _

end Go.Proofs.YtjilehaokignoaaDoor
