/-
  The contract of the document's Join.
-/
import Derived.Test.YtmdmjbpehbjgpaaStep
import Derived.Test.YtmdmjbpehbjgpaaJoin
import Derived.Test.YtmdmjbpehbjgpaaRefSet
namespace Go.Proofs.Ytmdmjbpehbjgpaa
open Go.RowKit Num Bit

theorem one_bv (l : List Bool) : ∀ u ∈ bv l, u.oneCell' = true := by
  intro u hu
  obtain ⟨a, _, rfl⟩ := List.mem_map.1 hu
  rfl
theorem own_src {w : World} {base n c : Nat} {v : Value} {xa : Option Addr} {vs : List Value} (h : w.ownsRow base 4 1 v n vs) (hv : v = .slice xa n c) : 0 < n → ∃ ad, xa = some ad ∧ ∀ j u, vs[j]? = some u → w.cell? (ad.add j) = some u := by
  intro hn
  have hc := fun g hg => h.cells (g := g) hg
  obtain ⟨_, ⟨rfl, rfl⟩ | ⟨g, cap, cur, rfl, _⟩⟩ := h
  · omega
  · simp only [Value.slice.injEq] at hv
    exact ⟨⟨g, 0, none⟩, hv.1.symm, hc g rfl⟩
theorem bl_of {w : World} {base n c : Nat} {ao : Option Addr} {l1 l2 : List Bool} (h : w.ownsRow base 4 1 (.slice ao n c) n (bv l1 ++ bv l2)) : Bl w ao (l1 ++ l2) := by
  intro h0
  have hlen : (bv l1 ++ bv l2).length = n * 1 := h.1
  have hl : (l1 ++ l2).length = n := by simp [bv] at hlen ⊢; omega
  obtain ⟨ad, e, hc⟩ := own_src h rfl (by omega)
  have hk := fun k hk => h.lt k hk
  subst e
  have hs : ad = ⟨ad.block, 0, none⟩ := by
    obtain ⟨_, ⟨e, _⟩ | ⟨g, cap, cur, e, _⟩⟩ := h
    · simp at e
    · simp only [Value.slice.injEq, Option.some.injEq] at e
      rw [e.1]
  refine ⟨ad.block, 0, by rw [← hs], (hk ad.block rfl).2, fun i hi => ?_⟩
  have hu : (bv l1 ++ bv l2)[i]? = some (.bool (bt (l1 ++ l2) i)) := by
    unfold bv bt
    rw [← List.map_append, List.getElem?_map, List.getD_eq_getElem?_getD, List.getElem?_eq_getElem hi]
    rfl
  rw [← hc i _ hu, hs]
  unfold Addr.add
  split
  · subst_vars; rfl
  · simp
theorem reffrom_l (ao : Option Addr) (l : List Bool) (n cap : Nat) (w : World) (hx : Bl w ao l) (hn : l.length = n) (hl : l.length ≤ 1048576) :
    Calls Try.prog 45 #[.slice ao n cap] w fun e w' => ∃ g, e = .returned (.tuple #[.agg #[.int .i64 l.length, .slice (some ⟨g, 0, none⟩) (frL l).length (frL l).length], .int .i64 0]) ∧ w.heap.size ≤ g ∧ Own w' g (frL l) ∧ Below w.heap.size w w' := by
  subst hn
  refine (reffrom_ok ao l cap _ w hx hl rfl).mono ?_
  rintro e w' ⟨g, rfl, hg, hO, hb⟩
  rw [fromS_all] at hO
  have e5 : (frL l).length = (l.length + 63) / 64 := length_rowOf _ _
  exact ⟨g, by rw [e5], hg, hO, hb⟩

set_option maxHeartbeats 4000000 in
theorem refjoin_ok (ao : Option Addr) (xs : List Nat) (cap : Nat) (bo : Option Addr) (ys : List Nat) (dap : Nat) (m M : Nat) (w : World) (hx : Wd w ao xs) (hy : Wd w bo ys) (hfx : Fit xs) (hfy : Fit ys) (hcx : chk (m : Int) xs = true) (hcy : chk (M : Int) ys = true) (hN : m + M ≤ 1048576) :
    Calls Try.prog 46 #[.agg #[.int .i64 m, .slice ao xs.length cap], .agg #[.int .i64 M, .slice bo ys.length dap]] w fun e w' => ∃ g, e = .returned (.tuple #[.agg #[.int .i64 ((bitsOf xs m).length + (bitsOf ys M).length : Int), .slice (some ⟨g, 0, none⟩) (frL (bitsOf xs m ++ bitsOf ys M)).length (frL (bitsOf xs m ++ bitsOf ys M)).length], .int .i64 0]) ∧ w.heap.size ≤ g ∧ Own w' g (frL (bitsOf xs m ++ bitsOf ys M)) ∧ Below w.heap.size w w' := by
  obtain ⟨hc0, hc1, _, _⟩ := chk_out m xs hcx
  obtain ⟨hd0, hd1, _, _⟩ := chk_out M ys hcy
  obtain ⟨i0, hi, hz0, hz1, hz2⟩ := info_parts Try.info4
  have hN2 : (m : Int) + (M : Int) ≤ 1048576 := by omega
  have K : ∀ o o' o'', Wd (((w.alloc o).alloc o').alloc o'') ao xs := fun o o' o'' => hx.keep (((below_alloc w o).alloc (by simp) o').alloc (by simp; omega) o'')
  have tok1 : True := trivial
  go_enter Try.func46, Try.ntmps46
  go_wp2_with fail
  refine (refcheck_c _ _ _ _ _ (K _ _ _) hfx).mono ?_
  rintro e w1 ⟨rfl, hb⟩
  have KK := box3_cells rfl hb
  clear hb K
  obtain ⟨⟨a0, a1⟩, ⟨b0, b1⟩, ⟨d0, d1⟩, ⟨f0, f1⟩, hz, hw⟩ := KK
  have hy1 : Wd w1 bo ys := hy.keep hw
  have z0 : w.heap.size < w1.heap.size := by omega
  have z1 : w.heap.size + 1 < w1.heap.size := by omega
  go_wp2_with fail
  refine (refcheck_c _ _ _ _ _ hy1 hfy).mono ?_
  rintro e w2 ⟨rfl, hb⟩
  have c0 := (hb.cell (p := ⟨w.heap.size, 0, none⟩) z0).trans a0
  have c1 := (hb.cell (p := ⟨w.heap.size, 1, none⟩) z0).trans a1
  have c2 := (hb.cell (p := ⟨w.heap.size + 1, 0, none⟩) z1).trans b0
  have c3 := (hb.cell (p := ⟨w.heap.size + 1, 1, none⟩) z1).trans b1
  have c4 := (hb.cell (p := ⟨w.heap.size + 2, 0, none⟩) hz).trans d0
  have c5 := (hb.cell (p := ⟨w.heap.size + 2, 1, none⟩) hz).trans d1
  have c6 := (hb.frozen (p := ⟨w.heap.size + 2, 0, none⟩) hz).trans f0
  have c7 := (hb.frozen (p := ⟨w.heap.size + 2, 1, none⟩) hz).trans f1
  have hw2 : Below w.heap.size w w2 := hw.trans (hb.mono (by omega))
  have y2 : w.heap.size + 2 < w2.heap.size := Nat.lt_of_lt_of_le hz hb.size
  have hx2 : Wd w2 ao xs := hx.keep hw2
  have hy2 : Wd w2 bo ys := hy.keep hw2
  clear hb a0 a1 b0 b1 d0 d1 f0 f1 hy1 hz z0 z1 hw
  go_wp2
  go_region_held3 (fun w' => w'.cell? ⟨w.heap.size, 0, none⟩ = some (.int .i64 m) ∧ w'.cell? ⟨w.heap.size, 1, none⟩ = some (.slice ao xs.length cap) ∧ w'.cell? ⟨w.heap.size + 1, 0, none⟩ = some (.int .i64 M) ∧ w'.cell? ⟨w.heap.size + 1, 1, none⟩ = some (.slice bo ys.length dap)) (first | exact ⟨p0, p1, p2, p3⟩ | exact ⟨set2_cell p0 (by omega), set2_cell p1 (by omega), set2_cell p2 (by omega), set2_cell p3 (by omega)⟩ | go_keep)
    (first | (go_at_call 55; have _t := tok1; refine (bools_c _ _ _ _ _ (hx2.keep (by repeat (first | exact Below.refl _ _ | apply Below.drew | apply below_drewN | refine Below.alloc ?_ (by simp) _))) hcx).mono ?_; rintro e w3 ⟨v1, rfl, own1, hb⟩; rw [Int.toNat_natCast] at own1; have hB3 : Below w2.heap.size w2 w3 := Below.trans (by repeat (first | exact Below.refl _ _ | apply Below.drew | apply below_drewN | refine Below.alloc ?_ (by simp) _)) hb; have hy3 := hy2.keep hB3; have p0 := (hB3.cell (p := ⟨w.heap.size, 0, none⟩) (show w.heap.size < w2.heap.size by omega)).trans c0; have p1 := (hB3.cell (p := ⟨w.heap.size, 1, none⟩) (show w.heap.size < w2.heap.size by omega)).trans c1; have p2 := (hB3.cell (p := ⟨w.heap.size + 1, 0, none⟩) (show w.heap.size + 1 < w2.heap.size by omega)).trans c2; have p3 := (hB3.cell (p := ⟨w.heap.size + 1, 1, none⟩) (show w.heap.size + 1 < w2.heap.size by omega)).trans c3; have p4 := (hB3.cell (p := ⟨w.heap.size + 2, 0, none⟩) (show w.heap.size + 2 < w2.heap.size by omega)).trans c4; have p5 := (hB3.cell (p := ⟨w.heap.size + 2, 1, none⟩) (show w.heap.size + 2 < w2.heap.size by omega)).trans c5; have p6 := (hB3.frozen (p := ⟨w.heap.size + 2, 0, none⟩) (show w.heap.size + 2 < w2.heap.size by omega)).trans c6; have p7 := (hB3.frozen (p := ⟨w.heap.size + 2, 1, none⟩) (show w.heap.size + 2 < w2.heap.size by omega)).trans c7; clear hb tok1) | (go_at_call 55; refine (bools_c _ _ _ _ _ (hy3.keep (by repeat (first | exact Below.refl _ _ | apply Below.drew | apply below_drewN | refine Below.alloc ?_ (by simp) _))) hcy).mono ?_; rintro e w4 ⟨v2, rfl, own2, hb⟩; rw [Int.toNat_natCast] at own2; have own1b := owns_below own1 hb; have hB4 : Below w2.heap.size w2 w4 := hB3.trans (hb.mono hB3.size); obtain ⟨xa, xc, hv2, hle2, hk2⟩ := owns_shape own2; have src := own_src own2 hv2; clear own2 hk2; subst hv2; clear p0 p1 p2 p3 p4 p5 p6 p7; have p0 := (hB4.cell (p := ⟨w.heap.size, 0, none⟩) (show w.heap.size < w2.heap.size by omega)).trans c0; have p1 := (hB4.cell (p := ⟨w.heap.size, 1, none⟩) (show w.heap.size < w2.heap.size by omega)).trans c1; have p2 := (hB4.cell (p := ⟨w.heap.size + 1, 0, none⟩) (show w.heap.size + 1 < w2.heap.size by omega)).trans c2; have p3 := (hB4.cell (p := ⟨w.heap.size + 1, 1, none⟩) (show w.heap.size + 1 < w2.heap.size by omega)).trans c3; have p4 := (hB4.cell (p := ⟨w.heap.size + 2, 0, none⟩) (show w.heap.size + 2 < w2.heap.size by omega)).trans c4; have p5 := (hB4.cell (p := ⟨w.heap.size + 2, 1, none⟩) (show w.heap.size + 2 < w2.heap.size by omega)).trans c5; have p6 := (hB4.frozen (p := ⟨w.heap.size + 2, 0, none⟩) (show w.heap.size + 2 < w2.heap.size by omega)).trans c6; have p7 := (hB4.frozen (p := ⟨w.heap.size + 2, 1, none⟩) (show w.heap.size + 2 < w2.heap.size by omega)).trans c7; clear hb) | (go_at_call 45; refine (reffrom_l _ _ _ _ _ bl5 ?_ ?_).mono ?_; (simp [bitsOf]); (simp [bitsOf]; omega); rintro e w6 ⟨g6, rfl, hg6, hO6, hb⟩; have hB6 : Below w2.heap.size w2 w6 := hB5'.trans (hb.mono hB5'.size); clear p0 p1 p2 p3 p4 p5 p6 p7; have p0 := (hB6.cell (p := ⟨w.heap.size, 0, none⟩) (show w.heap.size < w2.heap.size by omega)).trans c0; have p1 := (hB6.cell (p := ⟨w.heap.size, 1, none⟩) (show w.heap.size < w2.heap.size by omega)).trans c1; have p2 := (hB6.cell (p := ⟨w.heap.size + 1, 0, none⟩) (show w.heap.size + 1 < w2.heap.size by omega)).trans c2; have p3 := (hB6.cell (p := ⟨w.heap.size + 1, 1, none⟩) (show w.heap.size + 1 < w2.heap.size by omega)).trans c3; have p4 := (hB6.cell (p := ⟨w.heap.size + 2, 0, none⟩) (show w.heap.size + 2 < w2.heap.size by omega)).trans c4; have p5 := (hB6.cell (p := ⟨w.heap.size + 2, 1, none⟩) (show w.heap.size + 2 < w2.heap.size by omega)).trans c5; have p6 := (hB6.frozen (p := ⟨w.heap.size + 2, 0, none⟩) (show w.heap.size + 2 < w2.heap.size by omega)).trans c6; have p7 := (hB6.frozen (p := ⟨w.heap.size + 2, 1, none⟩) (show w.heap.size + 2 < w2.heap.size by omega)).trans c7; clear hb) | (refine step_append_u (by rfl) _ _ _ (by rfl) w2.heap.size 4 i0 (.bool false) 1 Try.underlying43 hi hz0 hz1 hz2 rfl v1 m (bv (bitsOf xs m)) (by rfl) own1b xa M xc (bv (bitsOf ys M)) (by rfl) (by simp [bv, bitsOf]) src (one_bv _) (by unfold maxLen; omega) (by omega) hB4.size ?_; intro co cc w5 own5 hle5 hB5 _ _ _; have hB5' : Below w2.heap.size w2 w5 := hB4.trans hB5; have bl5 := bl_of own5; clear p0 p1 p2 p3 p4 p5 p6 p7; have p0 := (hB5'.cell (p := ⟨w.heap.size, 0, none⟩) (show w.heap.size < w2.heap.size by omega)).trans c0; have p1 := (hB5'.cell (p := ⟨w.heap.size, 1, none⟩) (show w.heap.size < w2.heap.size by omega)).trans c1; have p2 := (hB5'.cell (p := ⟨w.heap.size + 1, 0, none⟩) (show w.heap.size + 1 < w2.heap.size by omega)).trans c2; have p3 := (hB5'.cell (p := ⟨w.heap.size + 1, 1, none⟩) (show w.heap.size + 1 < w2.heap.size by omega)).trans c3; have p4 := (hB5'.cell (p := ⟨w.heap.size + 2, 0, none⟩) (show w.heap.size + 2 < w2.heap.size by omega)).trans c4; have p5 := (hB5'.cell (p := ⟨w.heap.size + 2, 1, none⟩) (show w.heap.size + 2 < w2.heap.size by omega)).trans c5; have p6 := (hB5'.frozen (p := ⟨w.heap.size + 2, 0, none⟩) (show w.heap.size + 2 < w2.heap.size by omega)).trans c6; have p7 := (hB5'.frozen (p := ⟨w.heap.size + 2, 1, none⟩) (show w.heap.size + 2 < w2.heap.size by omega)).trans c7; clear own5 src own1b))
  go_wp2
  have hgl : w.heap.size + 2 < g6 := by have := hB5'.size; omega
  have hw6 := hw2.trans (hB6.mono hw2.size)
  refine bodyPost_ret (v := .tuple #[.agg #[.int .i64 ((bitsOf xs m).length + (bitsOf ys M).length : Int), .slice (some ⟨g6, 0, none⟩) (frL (bitsOf xs m ++ bitsOf ys M)).length (frL (bitsOf xs m ++ bitsOf ys M)).length], .int .i64 0]) (by simp [results, Try.results46, go_sem, p4, p5]) rfl ⟨g6, rfl, by omega, ?_, ?_⟩
  · exact (hO6.set_other (show g6 ≠ w.heap.size + 1 + 1 by omega) _).set_other (show g6 ≠ w.heap.size + 1 + 1 by omega) _
  · exact (hw6.setCell (show w.heap.size ≤ w.heap.size + 1 + 1 by omega) _).setCell (show w.heap.size ≤ w.heap.size + 1 + 1 by omega) _

theorem refjoin_bad (N : Int) (ao : Option Addr) (xs : List Nat) (cap : Nat) (M : Int) (bo : Option Addr) (ys : List Nat) (dap : Nat) (w : World) (hx : Wd w ao xs) (hy : Wd w bo ys) (hfx : Fit xs) (hfy : Fit ys) (hE : chk N xs = false ∨ chk M ys = false ∨ 1048576 < N + M) :
    Calls Try.prog 46 #[.agg #[.int .i64 N, .slice ao xs.length cap], .agg #[.int .i64 M, .slice bo ys.length dap]] w fun e w' => e = .returned (.tuple #[.agg #[.int .i64 N, .slice ao xs.length cap], .int .i64 2]) ∧ Below w.heap.size w w' := by
  have K : ∀ o o' o'', Wd (((w.alloc o).alloc o').alloc o'') ao xs := fun o o' o'' => hx.keep (((below_alloc w o).alloc (by simp) o').alloc (by simp; omega) o'')
  cases hk : chk N xs with
  | false =>
    clear hE
    go_enter Try.func46, Try.ntmps46
    go_wp2_with fail
    refine (refcheck_c _ _ _ _ _ (K _ _ _) hfx).mono ?_
    rintro e w1 ⟨rfl, hb⟩
    have KK := box3_cells rfl hb
    clear hb K
    obtain ⟨⟨a0, a1⟩, ⟨b0, b1⟩, ⟨d4, d5⟩, ⟨d6, d7⟩, hz, hw⟩ := KK
    have z0 : w.heap.size < w1.heap.size := by omega
    have z1 : w.heap.size + 1 < w1.heap.size := by omega
    go_wp2
    exact bodyPost_ret (v := .tuple #[.agg #[.int .i64 N, .slice ao xs.length cap], .int .i64 2]) (by simp [results, Try.results46, go_sem, d4, d5]) rfl ⟨rfl, (hw.setCell (show w.heap.size ≤ w.heap.size + 1 + 1 by omega) _).setCell (show w.heap.size ≤ w.heap.size + 1 + 1 by omega) _⟩
  | true =>
    obtain ⟨hc0, hc1, _, _⟩ := chk_out N xs hk
    cases hk2 : chk M ys with
    | false =>
      clear hE
      go_enter Try.func46, Try.ntmps46
      go_wp2_with fail
      refine (refcheck_c _ _ _ _ _ (K _ _ _) hfx).mono ?_
      rintro e w1 ⟨rfl, hb⟩
      have KK := box3_cells rfl hb
      clear hb K
      obtain ⟨⟨a0, a1⟩, ⟨b0, b1⟩, ⟨d4, d5⟩, ⟨d6, d7⟩, hz, hw⟩ := KK
      have z0 : w.heap.size < w1.heap.size := by omega
      have z1 : w.heap.size + 1 < w1.heap.size := by omega
      have hy1 : Wd w1 bo ys := hy.keep hw
      go_wp2_with fail
      refine (refcheck_c _ _ _ _ _ hy1 hfy).mono ?_
      rintro e w2 ⟨rfl, hb⟩
      replace a0 := (hb.cell (p := ⟨w.heap.size, 0, none⟩) z0).trans a0
      replace a1 := (hb.cell (p := ⟨w.heap.size, 1, none⟩) z0).trans a1
      replace b0 := (hb.cell (p := ⟨w.heap.size + 1, 0, none⟩) z1).trans b0
      replace d4 := (hb.cell (p := ⟨w.heap.size + 2, 0, none⟩) hz).trans d4
      replace d5 := (hb.cell (p := ⟨w.heap.size + 2, 1, none⟩) hz).trans d5
      replace d6 := (hb.frozen (p := ⟨w.heap.size + 2, 0, none⟩) hz).trans d6
      replace d7 := (hb.frozen (p := ⟨w.heap.size + 2, 1, none⟩) hz).trans d7
      replace hw : Below w.heap.size w w2 := hw.trans (hb.mono (by omega))
      clear hb b1 hy1
      go_wp2
      exact bodyPost_ret (v := .tuple #[.agg #[.int .i64 N, .slice ao xs.length cap], .int .i64 2]) (by simp [results, Try.results46, go_sem, d4, d5]) rfl ⟨rfl, (hw.setCell (show w.heap.size ≤ w.heap.size + 1 + 1 by omega) _).setCell (show w.heap.size ≤ w.heap.size + 1 + 1 by omega) _⟩
    | true =>
      obtain ⟨hd0, hd1, _, _⟩ := chk_out M ys hk2
      have h3 : 1048576 < N + M := by rcases hE with h | h | h <;> simp_all
      clear hE
      go_enter Try.func46, Try.ntmps46
      go_wp2_with fail
      refine (refcheck_c _ _ _ _ _ (K _ _ _) hfx).mono ?_
      rintro e w1 ⟨rfl, hb⟩
      have KK := box3_cells rfl hb
      clear hb K
      obtain ⟨⟨a0, a1⟩, ⟨b0, b1⟩, ⟨d4, d5⟩, ⟨d6, d7⟩, hz, hw⟩ := KK
      have z0 : w.heap.size < w1.heap.size := by omega
      have z1 : w.heap.size + 1 < w1.heap.size := by omega
      have hy1 : Wd w1 bo ys := hy.keep hw
      go_wp2_with fail
      refine (refcheck_c _ _ _ _ _ hy1 hfy).mono ?_
      rintro e w2 ⟨rfl, hb⟩
      replace a0 := (hb.cell (p := ⟨w.heap.size, 0, none⟩) z0).trans a0
      replace a1 := (hb.cell (p := ⟨w.heap.size, 1, none⟩) z0).trans a1
      replace b0 := (hb.cell (p := ⟨w.heap.size + 1, 0, none⟩) z1).trans b0
      replace d4 := (hb.cell (p := ⟨w.heap.size + 2, 0, none⟩) hz).trans d4
      replace d5 := (hb.cell (p := ⟨w.heap.size + 2, 1, none⟩) hz).trans d5
      replace d6 := (hb.frozen (p := ⟨w.heap.size + 2, 0, none⟩) hz).trans d6
      replace d7 := (hb.frozen (p := ⟨w.heap.size + 2, 1, none⟩) hz).trans d7
      replace hw : Below w.heap.size w w2 := hw.trans (hb.mono (by omega))
      clear hb b1 hy1
      go_wp2
      exact bodyPost_ret (v := .tuple #[.agg #[.int .i64 N, .slice ao xs.length cap], .int .i64 2]) (by simp [results, Try.results46, go_sem, d4, d5]) rfl ⟨rfl, (hw.setCell (show w.heap.size ≤ w.heap.size + 1 + 1 by omega) _).setCell (show w.heap.size ≤ w.heap.size + 1 + 1 by omega) _⟩

theorem bt_bits (xs ys : List Nat) (n m j : Nat) (hj : j < n + m) : bt (bitsOf xs n ++ bitsOf ys m) j = if j < n then bitAt xs j else bitAt ys (j - n) := by
  unfold bt bitsOf
  rw [List.getD_eq_getElem?_getD]
  by_cases c : j < n
  · rw [if_pos c, List.getElem?_append_left (by simp; omega), List.getElem?_map, List.getElem?_range c]; rfl
  · rw [if_neg c, List.getElem?_append_right (by simp; omega), List.getElem?_map, List.length_map, List.length_range, List.getElem?_range (by omega)]; rfl

theorem refjoin_c (N : Int) (ao : Option Addr) (xs : List Nat) (cap : Nat) (M : Int) (bo : Option Addr) (ys : List Nat) (dap : Nat) (w : World) (hx : Wd w ao xs) (hy : Wd w bo ys) (hfx : Fit xs) (hfy : Fit ys) (hcap : xs.length ≤ cap) :
    Calls Try.prog 46 #[.agg #[.int .i64 N, .slice ao xs.length cap], .agg #[.int .i64 M, .slice bo ys.length dap]] w fun e w' => ∃ co eap, e = .returned (.tuple #[.agg #[.int .i64 (joinN N xs M ys), .slice co (joinL N xs M ys).length eap], .int .i64 (joinE N xs M ys)]) ∧ Out w w' co (joinL N xs M ys) eap := by
  by_cases h : chk N xs = false ∨ chk M ys = false ∨ 1048576 < N + M
  · have e1 : joinE N xs M ys = 2 := by unfold joinE; rw [if_pos h]
    have e2 : joinN N xs M ys = N := by unfold joinN; rw [e1]; rfl
    have e3 : joinL N xs M ys = xs := by unfold joinL; rw [e1]; rfl
    refine (refjoin_bad N ao xs cap M bo ys dap w hx hy hfx hfy h).mono ?_
    rintro e w' ⟨rfl, hb⟩
    rw [e1, e2, e3]
    exact ⟨ao, cap, rfl, hx.keep hb, hfx, hcap, hb⟩
  · have hk : chk N xs = true := by cases hc : chk N xs with | true => rfl | false => exact absurd (.inl hc) h
    have hk2 : chk M ys = true := by cases hc : chk M ys with | true => rfl | false => exact absurd (.inr (.inl hc)) h
    obtain ⟨h0, h1, _, _⟩ := chk_out N xs hk
    obtain ⟨h2, h3, _, _⟩ := chk_out M ys hk2
    obtain ⟨n, rfl⟩ := Int.eq_ofNat_of_zero_le h0
    obtain ⟨m, rfl⟩ := Int.eq_ofNat_of_zero_le h2
    have e1 : joinE n xs m ys = 0 := by unfold joinE; rw [if_neg h]
    have e2 : joinN n xs m ys = (n : Int) + m := by unfold joinN; rw [e1]; rfl
    have e3 : joinL n xs m ys = rowOf (n + m) (fun j => if j < n then bitAt xs j else bitAt ys (j - n)) := by unfold joinL; rw [e1, show ((n : Int) + m).toNat = n + m by omega, Int.toNat_natCast]; rfl
    have e4 : frL (bitsOf xs n ++ bitsOf ys m) = joinL n xs m ys := by
      rw [e3]
      unfold frL
      rw [show (bitsOf xs n ++ bitsOf ys m).length = n + m by simp [bitsOf]]
      exact rowOf_congr _ _ _ fun j hj => bt_bits xs ys n m j hj
    refine (refjoin_ok ao xs cap bo ys dap n m w hx hy hfx hfy hk hk2 (by omega)).mono ?_
    rintro e w' ⟨g, rfl, hfr, hO, hb⟩
    rw [e4] at hO ⊢
    refine ⟨some ⟨g, 0, none⟩, (joinL n xs m ys).length, by rw [e1, e2]; simp [bitsOf], hO.wd, ?_, Nat.le_refl _, hb⟩
    rw [e3]; exact fit_rowOf _ _
end Go.Proofs.Ytmdmjbpehbjgpaa
