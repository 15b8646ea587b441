/-
  The contract of Put, whatever is handed in.
-/
import Derived.Test.YtjilehaokignoaaDoorPt
import Derived.Deep.RegionHeld3
namespace Go.Proofs.YtjilehaokignoaaDoor
open Go.RowKit Num Bit
set_option maxRecDepth 100000
set_option linter.unusedVariables false

theorem set4 {w : World} {b c j : Nat} {v x0 x1 x2 x3 : Value} (h : w.cell? ⟨c, j, none⟩ = some v) (hn : c ≠ b) : ((((w.setCell ⟨b, 0, none⟩ x0).setCell ⟨b, 1, none⟩ x1).setCell ⟨b, 2, none⟩ x2).setCell ⟨b, 3, none⟩ x3).cell? ⟨c, j, none⟩ = some v := by
  have t := ((((Turned.refl b w).set 0 x0).set 1 x1).set 2 x2).set 3 x3
  exact (t.cell (p := ⟨c, j, none⟩) hn).trans h

set_option maxHeartbeats 2000000 in
theorem iput_bad (N W M : Int) (ao : Option Addr) (xs : List Nat) (cap : Nat) (i : Int) (v : Nat) (w : World) (hg : ET w) (hx : Wd w ao xs) (hl : xs.length ≤ 1048576) (hv : v < 18446744073709551616) (hE : ipE N W M xs i v ≠ 0) :
    Calls Tryd.prog 15 #[.agg #[.int .i64 N, .int .i64 W, .int .i64 M, .slice ao xs.length cap], .int .i64 i, .int .u64 v] w fun e w' => ∃ g, e = .returned (.tuple #[.agg #[.int .i64 N, .int .i64 W, .int .i64 M, .slice (some ⟨g, 0, none⟩) xs.length xs.length], .int .i64 (ipE N W M xs i v)]) ∧ w.heap.size ≤ g ∧ Own w' g xs ∧ Below w.heap.size w w' := by
  have K : ∀ o o', Wd ((w.alloc o).alloc o') ao xs := fun o o' => hx.keep ((below_alloc w o).alloc (by simp) o')
  go_enter Tryd.func15, Tryd.ntmps15
  go_wp2_with fail
  refine (iasItIs_c _ _ _ _ _ _ _ (K _ _) hl).mono ?_
  rintro e w1 ⟨g, rfl, hg1, hg2, hO, hb⟩
  have KK := PB.new rfl hb
  have hg0 : w.heap.size + 2 ≤ g := by simpa using hg1
  clear hb hg1 K
  obtain ⟨P, hw⟩ := KK
  have hx1 := hx.keep hw
  have HO : Hid (Own w1 g xs) := hO
  have k0 := P.k0
  have k1 := P.k1
  have k2 := P.k2
  have k3 := P.k3
  have plt := P.lt
  have plt2 : w.heap.size < w1.heap.size := by omega
  have plt3 : w1.heap.size ≠ w.heap.size + 1 := by omega
  clear hO
  go_wp2_with fail
  refine (puttable_bad _ _ _ _ _ _ _ _ _ (hx1.keep (below_alloc _ _)) hv hE).mono ?_
  rintro e w2 ⟨⟨s, rfl⟩, hb⟩
  have Q := Box4.new hb
  clear hb k0 k1 k2 k3
  obtain ⟨⟨z, c0, c1, c2, c3⟩, hb2⟩ := Q
  replace P := P.keep hb2
  have hO2 := HO.out.keep hb2
  have HO2 : Hid (Own w2 g xs) := hO2
  have hw2 := hw.trans (hb2.mono (by omega))
  have hg2' := hg.keep hw2
  clear hb2 HO hx1 hw hO2
  go_wp2_with fail
  go_region_held3 (fun w' => w'.cell? ⟨w1.heap.size, 0, none⟩ = some (.int .i64 N) ∧ w'.cell? ⟨w1.heap.size, 1, none⟩ = some (.int .i64 W) ∧ w'.cell? ⟨w1.heap.size, 2, none⟩ = some (.int .i64 M) ∧ w'.cell? ⟨w1.heap.size, 3, none⟩ = some (.slice (some ⟨g, 0, none⟩) xs.length xs.length)) (first | exact ⟨c0, c1, c2, c3⟩ | exact ⟨set4 c0 plt3, set4 c1 plt3, set4 c2 plt3, set4 c3 plt3⟩ | go_keep | (refine ⟨?_, ?_, ?_, ?_⟩ <;> assumption))
    (first | (go_at_call 25; refine (numberOf_c _ _ _ ?_).mono ?_; (exact hg2'); rintro e w3 ⟨rfl, hb⟩; replace P := P.keep (Below.trans (Below.drew (Below.refl _ _)) hb); replace HO2 : Hid (Own w3 g xs) := HO2.out.keep (Below.trans (Below.drew (Below.refl _ _)) hb); replace hw2 := hw2.trans (Below.trans (Below.drew (Below.refl _ _)) (hb.mono hw2.size)); replace c0 := (hb.cell (p := ⟨w1.heap.size, 0, none⟩) z).trans c0; replace c1 := (hb.cell (p := ⟨w1.heap.size, 1, none⟩) z).trans c1; replace c2 := (hb.cell (p := ⟨w1.heap.size, 2, none⟩) z).trans c2; replace c3 := (hb.cell (p := ⟨w1.heap.size, 3, none⟩) z).trans c3; clear hb; obtain ⟨k0, k1, k2, k3, m0, m1, m2, m3, f0, f1, f2, f3, hz⟩ := P))
  go_wp2
  refine bodyPost_ret (v := .tuple #[.agg #[.int .i64 N, .int .i64 W, .int .i64 M, .slice (some ⟨g, 0, none⟩) xs.length xs.length], .int .i64 (ipE N W M xs i v)]) (by simp [results, Tryd.results15, go_sem, m0, m1, m2, m3]) rfl ⟨g, rfl, by omega, ?_, ?_⟩
  · exact (((HO2.out.set_other (by simp; omega) _).set_other (by simp; omega) _).set_other (by simp; omega) _).set_other (by simp; omega) _
  · exact (((hw2.setCell (by simp) _).setCell (by simp) _).setCell (by simp) _).setCell (by simp) _

theorem iput_c (N W M : Int) (ao : Option Addr) (xs : List Nat) (cap : Nat) (i : Int) (v : Nat) (w : World) (hg : ET w) (hx : Wd w ao xs) (hf : Fit xs) (hl : xs.length ≤ 1048576) (hv : v < 18446744073709551616) :
    Calls Tryd.prog 15 #[.agg #[.int .i64 N, .int .i64 W, .int .i64 M, .slice ao xs.length cap], .int .i64 i, .int .u64 v] w fun e w' => ∃ bo dap, e = .returned (.tuple #[.agg #[.int .i64 N, .int .i64 W, .int .i64 M, .slice bo (ipL N W M xs i v).length dap], .int .i64 (ipE N W M xs i v)]) ∧ OutF w w' bo (ipL N W M xs i v) dap := by
  by_cases hE : ipE N W M xs i v = 0
  · obtain ⟨g0, l0⟩ := ipE_zero N W M xs i v hE
    obtain ⟨hk, i0, i1⟩ := igE_zero N W M xs i g0
    obtain ⟨a1, a2, a3, a4, a5, a6, a7, a8⟩ := ichk_out N W M xs hk
    obtain ⟨n, rfl⟩ := Int.eq_ofNat_of_zero_le (show 0 ≤ W by omega)
    obtain ⟨k, rfl⟩ := Int.eq_ofNat_of_zero_le i0
    have e := ipL_is N n M xs hf k n v rfl hE hv
    refine (iput_ok N M n ao xs cap k v w hx hf hl hv hE).mono ?_
    rintro e w' ⟨g, rfl, hgg, hO, hb⟩
    rw [hE, ← e]
    exact ⟨some ⟨g, 0, none⟩, _, by rw [length_layL], hO.wd, fit_layL xs hf _ _ _ hv, by rw [length_layL]; exact Nat.le_refl _, fun a ha => by cases ha; exact hgg, hb⟩
  · have e : ipL N W M xs i v = xs := by unfold ipL; rw [if_neg hE]
    refine (iput_bad N W M ao xs cap i v w hg hx hl hv hE).mono ?_
    rintro e w' ⟨g, rfl, hgg, hO, hb⟩
    rw [e]
    exact ⟨some ⟨g, 0, none⟩, _, rfl, hO.wd, hf, Nat.le_refl _, fun a ha => by cases ha; exact hgg, hb⟩
end Go.Proofs.YtjilehaokignoaaDoor
