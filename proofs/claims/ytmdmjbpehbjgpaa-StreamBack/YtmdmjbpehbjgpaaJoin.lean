/-
  The contract of Join.
-/
import Derived.Test.YtmdmjbpehbjgpaaApp
import Derived.Test.YtmdmjbpehbjgpaaBit4
namespace Go.Proofs.Ytmdmjbpehbjgpaa
open Go.RowKit Num Bit

theorem box3_cells {w W w' : World} {a b c d p q : Value} {T U V : TypeId} (hW : W = ((w.alloc (.cells #[a, b] T)).alloc (.cells #[c, d] U)).alloc (.cells #[p, q] V)) (hb : Below W.heap.size W w') :
    (w'.cell? ⟨w.heap.size, 0, none⟩ = some a ∧ w'.cell? ⟨w.heap.size, 1, none⟩ = some b) ∧ (w'.cell? ⟨w.heap.size + 1, 0, none⟩ = some c ∧ w'.cell? ⟨w.heap.size + 1, 1, none⟩ = some d) ∧
    (w'.cell? ⟨w.heap.size + 2, 0, none⟩ = some p ∧ w'.cell? ⟨w.heap.size + 2, 1, none⟩ = some q) ∧
    (w'.frozen? ⟨w.heap.size + 2, 0, none⟩ = false ∧ w'.frozen? ⟨w.heap.size + 2, 1, none⟩ = false) ∧ w.heap.size + 2 < w'.heap.size ∧ Below w.heap.size w w' := by
  obtain ⟨W2, hW2⟩ : ∃ W2, W2 = (w.alloc (.cells #[a, b] T)).alloc (.cells #[c, d] U) := ⟨_, rfl⟩
  rw [← hW2] at hW
  have hz2 : W2.heap.size = w.heap.size + 2 := by rw [hW2]; simp
  subst hW
  obtain ⟨k0, k1, hz, hw⟩ := box_cells hb
  have f := box_cells hb
  have g0 : (W2.alloc (.cells #[p, q] V)).frozen? ⟨W2.heap.size, 0, none⟩ = false := by simp
  have g1 : (W2.alloc (.cells #[p, q] V)).frozen? ⟨W2.heap.size, 1, none⟩ = false := by simp
  have g2 := (hb.frozen (p := ⟨W2.heap.size, 0, none⟩) (by simp)).trans g0
  have g3 := (hb.frozen (p := ⟨W2.heap.size, 1, none⟩) (by simp)).trans g1
  obtain ⟨h1, h2, _, _, h5⟩ := box2_cells hW2 hw
  rw [hz2] at k0 k1 g2 g3 hz
  exact ⟨h1, h2, ⟨k0, k1⟩, ⟨g2, g3⟩, hz, h5⟩

theorem join_ok (ao : Option Addr) (xs : List Nat) (cap : Nat) (bo : Option Addr) (ys : List Nat) (dap : Nat) (m M k : Nat) (w : World) (hx : Wd w ao xs) (hy : Wd w bo ys) (hfx : Fit xs) (hfy : Fit ys) (hcx : chk (m : Int) xs = true) (hcy : chk (M : Int) ys = true) (hN : m + M ≤ 1048576) (hk : k = (m + M + 63) / 64) :
    Calls Try.prog 28 #[.agg #[.int .i64 m, .slice ao xs.length cap], .agg #[.int .i64 M, .slice bo ys.length dap]] w fun e w' => ∃ g, e = .returned (.tuple #[.agg #[.int .i64 ((m : Int) + M), .slice (some ⟨g, 0, none⟩) k k], .int .i64 0]) ∧ w.heap.size ≤ g ∧ Own w' g (joinS xs ys m k ys.length) ∧ Below w.heap.size w w' := by
  obtain ⟨hc0, hc1, hc2, _⟩ := chk_out m xs hcx
  obtain ⟨hd0, hd1, hd2, _⟩ := chk_out M ys hcy
  have hl : xs.length ≤ 1048576 := by omega
  have hl2 : ys.length ≤ 16384 := by omega
  have HK : Hid (k = (m + M + 63) / 64) := hk
  have hN2 : (m : Int) + (M : Int) ≤ 1048576 := by omega
  have K : ∀ o o' o'', Wd (((w.alloc o).alloc o').alloc o'') ao xs := fun o o' o'' => hx.keep (((below_alloc w o).alloc (by simp) o').alloc (by simp; omega) o'')
  clear hc2 hd2 hk
  go_enter Try.func28, Try.ntmps28
  go_wp2_with fail
  refine (check_c _ _ _ _ _ (K _ _ _)).mono ?_
  rintro e w1 ⟨rfl, hb⟩
  have KK := box3_cells rfl hb
  clear hb K
  obtain ⟨⟨a0, a1⟩, ⟨b0, b1⟩, ⟨c0, c1⟩, ⟨f0, f1⟩, hz, hw⟩ := KK
  have hy1 : Wd w1 bo ys := hy.keep hw
  have z0 : w.heap.size < w1.heap.size := by omega
  have z1 : w.heap.size + 1 < w1.heap.size := by omega
  go_wp2_with fail
  refine (check_c _ _ _ _ _ hy1).mono ?_
  rintro e w2 ⟨rfl, hb⟩
  have d0 := (hb.cell (p := ⟨w.heap.size, 0, none⟩) z0).trans a0
  have d1 := (hb.cell (p := ⟨w.heap.size, 1, none⟩) z0).trans a1
  have d2 := (hb.cell (p := ⟨w.heap.size + 1, 0, none⟩) z1).trans b0
  have d3 := (hb.cell (p := ⟨w.heap.size + 1, 1, none⟩) z1).trans b1
  have d4 := (hb.cell (p := ⟨w.heap.size + 2, 0, none⟩) hz).trans c0
  have d5 := (hb.cell (p := ⟨w.heap.size + 2, 1, none⟩) hz).trans c1
  have d6 := (hb.frozen (p := ⟨w.heap.size + 2, 0, none⟩) hz).trans f0
  have d7 := (hb.frozen (p := ⟨w.heap.size + 2, 1, none⟩) hz).trans f1
  have hw2 : Below w.heap.size w w2 := hw.trans (hb.mono (by omega))
  have y2 : w.heap.size + 2 < w2.heap.size := Nat.lt_of_lt_of_le hz hb.size
  have y0 : w.heap.size < w2.heap.size := by omega
  have y1 : w.heap.size + 1 < w2.heap.size := by omega
  have hx2 : Wd w2 ao xs := hx.keep hw2
  clear hb a0 a1 b0 b1 c0 c1 f0 f1 hy1 hz z0 z1 hw
  go_wp2_with fail
  refine (longer_c _ _ _ _ _ k _ hx2 hl hc0 hc1 hd0 hd1 (by have := HK.out; omega)).mono ?_
  rintro e w3 ⟨g, rfl, hg1, hg2, hO, hb⟩
  have e0 := (hb.cell (p := ⟨w.heap.size, 0, none⟩) y0).trans d0
  have e2 := (hb.cell (p := ⟨w.heap.size + 1, 0, none⟩) y1).trans d2
  have e3 := (hb.cell (p := ⟨w.heap.size + 1, 1, none⟩) y1).trans d3
  have e4 := (hb.cell (p := ⟨w.heap.size + 2, 0, none⟩) y2).trans d4
  have e5 := (hb.cell (p := ⟨w.heap.size + 2, 1, none⟩) y2).trans d5
  have e6 := (hb.frozen (p := ⟨w.heap.size + 2, 0, none⟩) y2).trans d6
  have e7 := (hb.frozen (p := ⟨w.heap.size + 2, 1, none⟩) y2).trans d7
  have hw3 : Below w.heap.size w w3 := hw2.trans (hb.mono (by omega))
  have x2 : w.heap.size + 2 < w3.heap.size := Nat.lt_of_lt_of_le y2 hb.size
  have x0 : w.heap.size < w3.heap.size := by omega
  have x1 : w.heap.size + 1 < w3.heap.size := by omega
  have hgw : w.heap.size + 2 < g := by omega
  clear hb d0 d1 d2 d3 d4 d5 d6 d7 hx2 y0 y1 y2 hw2 hg1
  go_wp2
  go_loopw [34] (fun i wr => ∃ q : Nat, q ≤ ys.length ∧ i = .int .i64 q ∧ Own wr g (joinS xs ys m k q) ∧ (wr.cell? ⟨w3.heap.size, 0, none⟩ = some (.int .i64 ((m : Int) + M)) ∧ wr.cell? ⟨w3.heap.size, 1, none⟩ = some (.slice (some ⟨g, 0, none⟩) k k)) ∧ wr.cell? ⟨w.heap.size, 0, none⟩ = some (.int .i64 m) ∧ (wr.cell? ⟨w.heap.size + 2, 0, none⟩ = some (.int .i64 0) ∧ wr.cell? ⟨w.heap.size + 2, 1, none⟩ = some (.slice none 0 0) ∧ wr.frozen? ⟨w.heap.size + 2, 0, none⟩ = false ∧ wr.frozen? ⟨w.heap.size + 2, 1, none⟩ = false) ∧ Below w.heap.size w wr) (fun i _ => ys.length - (intOf i).toNat)
  case atStart =>
    have hb := below_alloc w3 (.cells #[.int .i64 ((m : Int) + M), .slice (some ⟨g, 0, none⟩) k k] 24)
    refine ⟨0, Nat.zero_le _, rfl, hO.keep hb, ⟨by simp, by simp⟩, (hb.cell (p := ⟨w.heap.size, 0, none⟩) x0).trans e0, ⟨(hb.cell (p := ⟨w.heap.size + 2, 0, none⟩) x2).trans e4, (hb.cell (p := ⟨w.heap.size + 2, 1, none⟩) x2).trans e5, (hb.frozen (p := ⟨w.heap.size + 2, 0, none⟩) x2).trans e6, (hb.frozen (p := ⟨w.heap.size + 2, 1, none⟩) x2).trans e7⟩, hw3.trans (hb.mono (by omega))⟩
  case round =>
    obtain ⟨q, hq, rfl, hOr, ⟨r0, r1⟩, r2, ⟨r3, r4, r5, r6⟩, hwr⟩ := hrel
    by_cases hlt : q < ys.length
    · obtain ⟨b, off, rfl, hb, hc⟩ := hy (by omega)
      have e1 := (hwr.cell (p := ⟨b, off + q, none⟩) hb).trans (hc q hlt)
      have hlt3 : (q : Int) < (ys.length : Int) := by omega
      have HR : Hid (Room (joinS xs ys m k q) (m + q * 64) (gt ys q)) := room_joinS xs ys m M k hfy hcy HK.out q hlt
      have HF : Hid (Fit (joinS xs ys m k q)) := (joinS_bits xs ys m M k hfx hfy hcy HK.out q hq).1
      clear hc
      go_wp2_with fail
      refine (put_i (joinS xs ys m k q) k g k (m + q * 64) (gt ys q) _ _ (length_joinS xs ys m k q) (by omega) hOr (by omega) HF.out (hfy q) HR.out).mono ?_
      rintro e w5 ⟨rfl, hO5, hT⟩
      have s0 := (hT.cell (p := ⟨w3.heap.size, 0, none⟩) (show w3.heap.size ≠ g by omega)).trans r0
      have s1 := (hT.cell (p := ⟨w3.heap.size, 1, none⟩) (show w3.heap.size ≠ g by omega)).trans r1
      have s2 := (hT.cell (p := ⟨w.heap.size, 0, none⟩) (show w.heap.size ≠ g by omega)).trans r2
      have s3 := (hT.cell (p := ⟨w.heap.size + 2, 0, none⟩) (show w.heap.size + 2 ≠ g by omega)).trans r3
      have s4 := (hT.cell (p := ⟨w.heap.size + 2, 1, none⟩) (show w.heap.size + 2 ≠ g by omega)).trans r4
      have s5 := (hT.frozen (p := ⟨w.heap.size + 2, 0, none⟩) (show w.heap.size + 2 ≠ g by omega)).trans r5
      have s6 := (hT.frozen (p := ⟨w.heap.size + 2, 1, none⟩) (show w.heap.size + 2 ≠ g by omega)).trans r6
      have hw5 := hwr.trans (hT.below (B := w.heap.size) (by omega))
      clear hT r0 r1 r2 r3 r4 r5 r6 hwr hOr
      go_wp2
      exact ⟨⟨q + 1, by omega, by go_num, hO5, ⟨s0, s1⟩, s2, ⟨s3, s4, s5, s6⟩, hw5⟩, by simp only [intOf]; omega⟩
    · have hq2 : q = ys.length := by omega
      rw [hq2] at hOr
      clear hq2
      go_wp2
      refine bodyPost_ret (v := .tuple #[.agg #[.int .i64 ((m : Int) + M), .slice (some ⟨g, 0, none⟩) k k], .int .i64 0]) (by simp [results, Try.results28, go_sem, r3, r4]) rfl ⟨g, rfl, by omega, ?_, ?_⟩
      · exact (hOr.set_other (by simp; omega) _).set_other (by simp; omega) _
      · exact (hwr.setCell (show w.heap.size ≤ w.heap.size + 1 + 1 by omega) _).setCell (show w.heap.size ≤ w.heap.size + 1 + 1 by omega) _

theorem join_bad (N : Int) (ao : Option Addr) (xs : List Nat) (cap : Nat) (M : Int) (bo : Option Addr) (ys : List Nat) (dap : Nat) (w : World) (hx : Wd w ao xs) (hy : Wd w bo ys) (hl : xs.length ≤ 1048576) (hE : chk N xs = false ∨ chk M ys = false ∨ 1048576 < N + M) :
    Calls Try.prog 28 #[.agg #[.int .i64 N, .slice ao xs.length cap], .agg #[.int .i64 M, .slice bo ys.length dap]] w fun e w' => ∃ g, e = .returned (.tuple #[.agg #[.int .i64 N, .slice (some ⟨g, 0, none⟩) xs.length xs.length], .int .i64 2]) ∧ w.heap.size ≤ g ∧ Own w' g xs ∧ Below w.heap.size w w' := by
  have K : ∀ o o' o'', Wd (((w.alloc o).alloc o').alloc o'') ao xs := fun o o' o'' => hx.keep (((below_alloc w o).alloc (by simp) o').alloc (by simp; omega) o'')
  cases hk : chk N xs with
  | false =>
    clear hE
    go_enter Try.func28, Try.ntmps28
    go_wp2_with fail
    refine (check_c _ _ _ _ _ (K _ _ _)).mono ?_
    rintro e w1 ⟨rfl, hb⟩
    have KK := box3_cells rfl hb
    clear hb K
    obtain ⟨⟨a0, a1⟩, ⟨b0, b1⟩, ⟨c0, c1⟩, ⟨f0, f1⟩, hz, hw⟩ := KK
    have z0 : w.heap.size < w1.heap.size := by omega
    have z1 : w.heap.size + 1 < w1.heap.size := by omega
    have hxe : Wd w1 ao xs := hx.keep hw
    go_wp2_with fail
    refine (asItIs_c _ _ _ _ _ hxe hl).mono ?_
    rintro e w3 ⟨g, rfl, hg1, hg2, hO, hb⟩
    have m2 := (hb.cell (p := ⟨w.heap.size + 2, 0, none⟩) hz).trans c0
    have m3 := (hb.cell (p := ⟨w.heap.size + 2, 1, none⟩) hz).trans c1
    have m4 := (hb.frozen (p := ⟨w.heap.size + 2, 0, none⟩) hz).trans f0
    have m5 := (hb.frozen (p := ⟨w.heap.size + 2, 1, none⟩) hz).trans f1
    have hw3 : Below w.heap.size w w3 := hw.trans (hb.mono (by omega))
    clear hb
    go_wp2
    refine bodyPost_ret (v := .tuple #[.agg #[.int .i64 N, .slice (some ⟨g, 0, none⟩) xs.length xs.length], .int .i64 2]) (by simp [results, Try.results28, go_sem, m2, m3]) rfl ⟨g, rfl, by omega, ?_, ?_⟩
    · exact (hO.set_other (by simp; omega) _).set_other (by simp; omega) _
    · exact (hw3.setCell (show w.heap.size ≤ w.heap.size + 1 + 1 by omega) _).setCell (show w.heap.size ≤ w.heap.size + 1 + 1 by omega) _
  | true =>
    obtain ⟨hc0, hc1, _, _⟩ := chk_out N xs hk
    cases hk2 : chk M ys with
    | false =>
      clear hE
      go_enter Try.func28, Try.ntmps28
      go_wp2_with fail
      refine (check_c _ _ _ _ _ (K _ _ _)).mono ?_
      rintro e w1 ⟨rfl, hb⟩
      have KK := box3_cells rfl hb
      clear hb K
      obtain ⟨⟨a0, a1⟩, ⟨b0, b1⟩, ⟨c0, c1⟩, ⟨f0, f1⟩, hz, hw⟩ := KK
      have z0 : w.heap.size < w1.heap.size := by omega
      have z1 : w.heap.size + 1 < w1.heap.size := by omega
      have hy1 : Wd w1 bo ys := hy.keep hw
      go_wp2_with fail
      refine (check_c _ _ _ _ _ hy1).mono ?_
      rintro e w2 ⟨rfl, hb⟩
      have d0 := (hb.cell (p := ⟨w.heap.size, 0, none⟩) z0).trans a0
      have d1 := (hb.cell (p := ⟨w.heap.size, 1, none⟩) z0).trans a1
      have d2 := (hb.cell (p := ⟨w.heap.size + 1, 0, none⟩) z1).trans b0
      have d4 := (hb.cell (p := ⟨w.heap.size + 2, 0, none⟩) hz).trans c0
      have d5 := (hb.cell (p := ⟨w.heap.size + 2, 1, none⟩) hz).trans c1
      have d6 := (hb.frozen (p := ⟨w.heap.size + 2, 0, none⟩) hz).trans f0
      have d7 := (hb.frozen (p := ⟨w.heap.size + 2, 1, none⟩) hz).trans f1
      have hw2 : Below w.heap.size w w2 := hw.trans (hb.mono (by omega))
      have y2 : w.heap.size + 2 < w2.heap.size := Nat.lt_of_lt_of_le hz hb.size
      clear hb a0 a1 b0 b1 c0 c1 f0 f1 hy1 hz z0 z1 hw
      have hxe : Wd w2 ao xs := hx.keep hw2
      go_wp2_with fail
      refine (asItIs_c _ _ _ _ _ hxe hl).mono ?_
      rintro e w3 ⟨g, rfl, hg1, hg2, hO, hb⟩
      have m2 := (hb.cell (p := ⟨w.heap.size + 2, 0, none⟩) y2).trans d4
      have m3 := (hb.cell (p := ⟨w.heap.size + 2, 1, none⟩) y2).trans d5
      have m4 := (hb.frozen (p := ⟨w.heap.size + 2, 0, none⟩) y2).trans d6
      have m5 := (hb.frozen (p := ⟨w.heap.size + 2, 1, none⟩) y2).trans d7
      have hw3 : Below w.heap.size w w3 := hw2.trans (hb.mono (by omega))
      clear hb
      go_wp2
      refine bodyPost_ret (v := .tuple #[.agg #[.int .i64 N, .slice (some ⟨g, 0, none⟩) xs.length xs.length], .int .i64 2]) (by simp [results, Try.results28, go_sem, m2, m3]) rfl ⟨g, rfl, by omega, ?_, ?_⟩
      · exact (hO.set_other (by simp; omega) _).set_other (by simp; omega) _
      · exact (hw3.setCell (show w.heap.size ≤ w.heap.size + 1 + 1 by omega) _).setCell (show w.heap.size ≤ w.heap.size + 1 + 1 by omega) _
    | true =>
      obtain ⟨hd0, hd1, _, _⟩ := chk_out M ys hk2
      have h3 : 1048576 < N + M := by rcases hE with h | h | h <;> simp_all
      clear hE
      go_enter Try.func28, Try.ntmps28
      go_wp2_with fail
      refine (check_c _ _ _ _ _ (K _ _ _)).mono ?_
      rintro e w1 ⟨rfl, hb⟩
      have KK := box3_cells rfl hb
      clear hb K
      obtain ⟨⟨a0, a1⟩, ⟨b0, b1⟩, ⟨c0, c1⟩, ⟨f0, f1⟩, hz, hw⟩ := KK
      have z0 : w.heap.size < w1.heap.size := by omega
      have z1 : w.heap.size + 1 < w1.heap.size := by omega
      have hy1 : Wd w1 bo ys := hy.keep hw
      go_wp2_with fail
      refine (check_c _ _ _ _ _ hy1).mono ?_
      rintro e w2 ⟨rfl, hb⟩
      have d0 := (hb.cell (p := ⟨w.heap.size, 0, none⟩) z0).trans a0
      have d1 := (hb.cell (p := ⟨w.heap.size, 1, none⟩) z0).trans a1
      have d2 := (hb.cell (p := ⟨w.heap.size + 1, 0, none⟩) z1).trans b0
      have d4 := (hb.cell (p := ⟨w.heap.size + 2, 0, none⟩) hz).trans c0
      have d5 := (hb.cell (p := ⟨w.heap.size + 2, 1, none⟩) hz).trans c1
      have d6 := (hb.frozen (p := ⟨w.heap.size + 2, 0, none⟩) hz).trans f0
      have d7 := (hb.frozen (p := ⟨w.heap.size + 2, 1, none⟩) hz).trans f1
      have hw2 : Below w.heap.size w w2 := hw.trans (hb.mono (by omega))
      have y2 : w.heap.size + 2 < w2.heap.size := Nat.lt_of_lt_of_le hz hb.size
      clear hb a0 a1 b0 b1 c0 c1 f0 f1 hy1 hz z0 z1 hw
      have hxe : Wd w2 ao xs := hx.keep hw2
      go_wp2_with fail
      refine (asItIs_c _ _ _ _ _ hxe hl).mono ?_
      rintro e w3 ⟨g, rfl, hg1, hg2, hO, hb⟩
      have m2 := (hb.cell (p := ⟨w.heap.size + 2, 0, none⟩) y2).trans d4
      have m3 := (hb.cell (p := ⟨w.heap.size + 2, 1, none⟩) y2).trans d5
      have m4 := (hb.frozen (p := ⟨w.heap.size + 2, 0, none⟩) y2).trans d6
      have m5 := (hb.frozen (p := ⟨w.heap.size + 2, 1, none⟩) y2).trans d7
      have hw3 : Below w.heap.size w w3 := hw2.trans (hb.mono (by omega))
      clear hb
      go_wp2
      refine bodyPost_ret (v := .tuple #[.agg #[.int .i64 N, .slice (some ⟨g, 0, none⟩) xs.length xs.length], .int .i64 2]) (by simp [results, Try.results28, go_sem, m2, m3]) rfl ⟨g, rfl, by omega, ?_, ?_⟩
      · exact (hO.set_other (by simp; omega) _).set_other (by simp; omega) _
      · exact (hw3.setCell (show w.heap.size ≤ w.heap.size + 1 + 1 by omega) _).setCell (show w.heap.size ≤ w.heap.size + 1 + 1 by omega) _

theorem join_f (N : Int) (ao : Option Addr) (xs : List Nat) (cap : Nat) (M : Int) (bo : Option Addr) (ys : List Nat) (dap : Nat) (w : World) (hx : Wd w ao xs) (hy : Wd w bo ys) (hfx : Fit xs) (hfy : Fit ys) (hl : xs.length ≤ 1048576) :
    Calls Try.prog 28 #[.agg #[.int .i64 N, .slice ao xs.length cap], .agg #[.int .i64 M, .slice bo ys.length dap]] w fun e w' => ∃ co eap, e = .returned (.tuple #[.agg #[.int .i64 (joinN N xs M ys), .slice co (joinL N xs M ys).length eap], .int .i64 (joinE N xs M ys)]) ∧ OutF w w' co (joinL N xs M ys) eap := by
  by_cases h : chk N xs = false ∨ chk M ys = false ∨ 1048576 < N + M
  · have e1 : joinE N xs M ys = 2 := by unfold joinE; rw [if_pos h]
    have e2 : joinN N xs M ys = N := by unfold joinN; rw [e1]; rfl
    have e3 : joinL N xs M ys = xs := by unfold joinL; rw [e1]; rfl
    refine (join_bad N ao xs cap M bo ys dap w hx hy hl h).mono ?_
    rintro e w' ⟨g, rfl, hfr, hO, hb⟩
    rw [e1, e2, e3]
    exact ⟨some ⟨g, 0, none⟩, xs.length, rfl, hO.wd, hfx, Nat.le_refl _, fresh_of hfr, hb⟩
  · have hk : chk N xs = true := by cases hc : chk N xs with | true => rfl | false => exact absurd (.inl hc) h
    have hk2 : chk M ys = true := by cases hc : chk M ys with | true => rfl | false => exact absurd (.inr (.inl hc)) h
    obtain ⟨h0, h1, _, _⟩ := chk_out N xs hk
    obtain ⟨h2, h3, _, _⟩ := chk_out M ys hk2
    obtain ⟨n, rfl⟩ := Int.eq_ofNat_of_zero_le h0
    obtain ⟨m, rfl⟩ := Int.eq_ofNat_of_zero_le h2
    have e1 : joinE n xs m ys = 0 := by unfold joinE; rw [if_neg h]
    have e2 : joinN n xs m ys = (n : Int) + m := by unfold joinN; rw [e1]; rfl
    have e3 : joinL n xs m ys = rowOf (n + m) (fun j => if j < n then bitAt xs j else bitAt ys (j - n)) := by unfold joinL; rw [e1, show ((n : Int) + m).toNat = n + m by omega, Int.toNat_natCast]; rfl
    refine (join_ok ao xs cap bo ys dap n m ((n + m + 63) / 64) w hx hy hfx hfy hk hk2 (by omega) rfl).mono ?_
    rintro e w' ⟨g, rfl, hfr, hO, hb⟩
    rw [join_row n m _ xs ys hfx hfy hk hk2 rfl, ← e3] at hO
    have e5 : (joinL n xs m ys).length = (n + m + 63) / 64 := by rw [e3, length_rowOf]
    refine ⟨some ⟨g, 0, none⟩, (n + m + 63) / 64, by rw [e5, e1, e2], hO.wd, ?_, by omega, fresh_of hfr, hb⟩
    rw [e3]; exact fit_rowOf _ _

theorem join_c (N : Int) (ao : Option Addr) (xs : List Nat) (cap : Nat) (M : Int) (bo : Option Addr) (ys : List Nat) (dap : Nat) (w : World) (hx : Wd w ao xs) (hy : Wd w bo ys) (hfx : Fit xs) (hfy : Fit ys) (hl : xs.length ≤ 1048576) :
    Calls Try.prog 28 #[.agg #[.int .i64 N, .slice ao xs.length cap], .agg #[.int .i64 M, .slice bo ys.length dap]] w fun e w' => ∃ co eap, e = .returned (.tuple #[.agg #[.int .i64 (joinN N xs M ys), .slice co (joinL N xs M ys).length eap], .int .i64 (joinE N xs M ys)]) ∧ Out w w' co (joinL N xs M ys) eap :=
  (join_f N ao xs cap M bo ys dap w hx hy hfx hfy hl).mono fun _ _ ⟨co, eap, he, ho⟩ => ⟨co, eap, he, ho.out⟩
end Go.Proofs.Ytmdmjbpehbjgpaa
