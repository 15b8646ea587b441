/-
  The contracts of package ints that write: lay (bits laid over words of the call's own), asItIs (a row in words of its own).
-/
import Derived.Test.YtjilehaokignoaaDoorErr
import Derived.Test.YtjilehaokignoaaDoorMake
import Derived.RegionTactic
import Derived.BigRegion
namespace Go.Proofs.YtjilehaokignoaaDoor
open Go.RowKit Num Bit
set_option maxRecDepth 100000
set_option linter.unusedVariables false

theorem Turned.drew {g : Nat} {a w : World} (h : Turned g a w) : Turned g a w.drew := ⟨h.os, h.tape, h.output, h.size, h.block⟩
theorem Own.drew {w : World} {g : Nat} {ys : List Nat} (h : Own w g ys) : Own w.drew g ys := h
theorem mask_n (W m : Nat) (hm : maskI (W : Int) = (m : Int)) (w : World) :
    Calls Tryd.prog 44 #[.int .i64 W] w fun e w' => e = .returned (.int .u64 (m : Int)) ∧ w' = w := by
  have h := mask_c (W : Int) w
  rw [hm] at h
  exact h
theorem mask_is (W : Nat) (h : W ≤ 64) : maskI (W : Int) = ((2 ^ W - 1 : Nat) : Int) := by
  unfold maskI
  rw [Int.toNat_natCast, Nat.min_eq_left h]

set_option maxHeartbeats 2000000 in
theorem lay_c (ys : List Nat) (l g cap p W v : Nat) (w : World) (hl : ys.length = l) (hO : Own w g ys) (hf : Fit ys) (hW : 1 ≤ W) (hW2 : W ≤ 64) (hv : v < 18446744073709551616) (hp : p + W ≤ 64 * ys.length) (hpb : p ≤ 1048576) :
    Calls Tryd.prog 27 #[.slice (some ⟨g, 0, none⟩) l cap, .int .i64 p, .int .i64 W, .int .u64 v] w fun e w' => e = .returned (.tuple #[]) ∧ Own w' g (layL ys p W v) ∧ Turned g w w' := by
  subst hl
  obtain ⟨m, hm⟩ : ∃ m : Nat, m = 2 ^ W - 1 := ⟨_, rfl⟩
  have hmm : Hid (maskI (W : Int) = (m : Int)) := by rw [hm]; exact mask_is W hW2
  have hmb : Hid (m < 18446744073709551616) := by
    have := Nat.pow_le_pow_right (n := 2) (j := 64) (by decide) hW2
    rw [show (2 : Nat) ^ 64 = 18446744073709551616 from rfl] at this
    unfold Hid; omega
  have h1 : p / 64 < ys.length := by omega
  have l1' : (p : Int) / 64 < (ys.length : Int) := by omega
  have e1 := hO.cell (p / 64) h1
  have f1 := hO.frozen (p / 64)
  have A1 : Hid (bits .andNot .u64 (gt ys (p / 64) : Int) ((m * 2 ^ (p % 64) % 18446744073709551616 : Nat) : Int) = ((gt ys (p / 64) &&& (18446744073709551615 - m * 2 ^ (p % 64) % 18446744073709551616) : Nat) : Int)) := u64_andNot_nat _ _ (hf _) (Nat.mod_lt _ (by decide))
  have A2 : Hid (bits .or .u64 ((gt ys (p / 64) &&& (18446744073709551615 - m * 2 ^ (p % 64) % 18446744073709551616) : Nat) : Int) ((v * 2 ^ (p % 64) % 18446744073709551616 : Nat) : Int) = (((gt ys (p / 64) &&& (18446744073709551615 - m * 2 ^ (p % 64) % 18446744073709551616)) ||| v * 2 ^ (p % 64) % 18446744073709551616 : Nat) : Int)) := u64_or_nat _ _ (Nat.lt_of_le_of_lt Nat.and_le_left (hf _)) (Nat.mod_lt _ (by decide))
  have HM : Hid (m = 2 ^ W - 1) := hm
  clear hm
  by_cases c : 64 - p % 64 < W
  · have c' : (64 : Int) - (p : Int) % 64 < (W : Int) := by omega
    have h2 : p / 64 + 1 < ys.length := by omega
    have l2' : (p : Int) / 64 + 1 < (ys.length : Int) := by omega
    have e2 := hO.cell (p / 64 + 1) h2
    have f2 := hO.frozen (p / 64 + 1)
    have B1 : Hid (bits .andNot .u64 (gt ys (p / 64 + 1) : Int) ((m / 2 ^ (64 - p % 64) : Nat) : Int) = ((gt ys (p / 64 + 1) &&& (18446744073709551615 - m / 2 ^ (64 - p % 64)) : Nat) : Int)) := u64_andNot_nat _ _ (hf _) (Nat.lt_of_le_of_lt (Nat.div_le_self _ _) hmb.out)
    have B2 : Hid (bits .or .u64 ((gt ys (p / 64 + 1) &&& (18446744073709551615 - m / 2 ^ (64 - p % 64)) : Nat) : Int) ((v / 2 ^ (64 - p % 64) : Nat) : Int) = (((gt ys (p / 64 + 1) &&& (18446744073709551615 - m / 2 ^ (64 - p % 64))) ||| v / 2 ^ (64 - p % 64) : Nat) : Int)) := u64_or_nat _ _ (Nat.lt_of_le_of_lt Nat.and_le_left (hf _)) (Nat.lt_of_le_of_lt (Nat.div_le_self _ _) hv)
    have R : Hid (layL ys p W v = ((ys.set (p / 64) ((gt ys (p / 64) &&& (18446744073709551615 - m * 2 ^ (p % 64) % 18446744073709551616)) ||| v * 2 ^ (p % 64) % 18446744073709551616)).set (p / 64 + 1) ((gt ys (p / 64 + 1) &&& (18446744073709551615 - m / 2 ^ (64 - p % 64))) ||| v / 2 ^ (64 - p % 64)))) := by
      unfold Hid layL lay1; rw [if_pos c, HM.out]
    clear c
    go_enter Tryd.func27, Tryd.ntmps27
    go_wp2_with (go_at_call 44; refine (mask_n _ _ hmm.out _).mono ?_; rintro e w' ⟨rfl, rfl⟩)
    go_region
    go_wp2
    go_region
    go_wp2
    go_end0
    rw [R.out, shl_nat, shl_nat, A1.out, A2.out, shr_cast, shr_cast, B1.out, B2.out]
    exact ⟨rfl, ((hO.set _ _).set _ _).drew.drew, (((Turned.refl _ _).set _ _).set _ _).drew.drew⟩
  · have c' : ¬ (64 : Int) - (p : Int) % 64 < (W : Int) := by omega
    have R : Hid (layL ys p W v = (ys.set (p / 64) ((gt ys (p / 64) &&& (18446744073709551615 - m * 2 ^ (p % 64) % 18446744073709551616)) ||| v * 2 ^ (p % 64) % 18446744073709551616))) := by
      unfold Hid layL lay1; rw [if_neg c, HM.out]
    clear c
    go_enter Tryd.func27, Tryd.ntmps27
    go_wp2_with (go_at_call 44; refine (mask_n _ _ hmm.out _).mono ?_; rintro e w' ⟨rfl, rfl⟩)
    go_region
    go_wp2
    go_end0
    rw [R.out, shl_nat, shl_nat, A1.out, A2.out]
    exact ⟨rfl, (hO.set _ _).drew, ((Turned.refl _ _).set _ _).drew⟩

theorem box4_two {w W w' : World} {a b c d p q r s : Value} {T U : TypeId} (hW : W = (w.alloc (.cells #[a, b, c, d] T)).alloc (.cells #[p, q, r, s] U)) (hb : Below W.heap.size W w') :
    (w'.cell? ⟨w.heap.size, 0, none⟩ = some a ∧ w'.cell? ⟨w.heap.size, 1, none⟩ = some b ∧ w'.cell? ⟨w.heap.size, 2, none⟩ = some c ∧ w'.cell? ⟨w.heap.size, 3, none⟩ = some d) ∧
    (w'.cell? ⟨w.heap.size + 1, 0, none⟩ = some p ∧ w'.cell? ⟨w.heap.size + 1, 1, none⟩ = some q ∧ w'.cell? ⟨w.heap.size + 1, 2, none⟩ = some r ∧ w'.cell? ⟨w.heap.size + 1, 3, none⟩ = some s) ∧
    (w'.frozen? ⟨w.heap.size + 1, 0, none⟩ = false ∧ w'.frozen? ⟨w.heap.size + 1, 1, none⟩ = false ∧ w'.frozen? ⟨w.heap.size + 1, 2, none⟩ = false ∧ w'.frozen? ⟨w.heap.size + 1, 3, none⟩ = false) ∧ w'.frozen? ⟨w.heap.size, 3, none⟩ = false ∧ w.heap.size + 1 < w'.heap.size ∧ Below w.heap.size w w' := by
  have hz : W.heap.size = w.heap.size + 2 := by rw [hW]; simp
  have C : ∀ (b' o : Nat) (v : Value), b' < w.heap.size + 2 → W.cell? ⟨b', o, none⟩ = some v → w'.cell? ⟨b', o, none⟩ = some v := fun b' o v hb' h => (hb.cell (p := ⟨b', o, none⟩) (by rw [hz]; exact hb')).trans h
  have F : ∀ (b' o : Nat), b' < w.heap.size + 2 → W.frozen? ⟨b', o, none⟩ = false → w'.frozen? ⟨b', o, none⟩ = false := fun b' o hb' h => (hb.frozen (p := ⟨b', o, none⟩) (by rw [hz]; exact hb')).trans h
  refine ⟨⟨?_, ?_, ?_, ?_⟩, ⟨?_, ?_, ?_, ?_⟩, ⟨?_, ?_, ?_, ?_⟩, ?_, ?_, ?_⟩
  · exact C _ _ _ (by omega) (by rw [hW]; simp)
  · exact C _ _ _ (by omega) (by rw [hW]; simp)
  · exact C _ _ _ (by omega) (by rw [hW]; simp)
  · exact C _ _ _ (by omega) (by rw [hW]; simp)
  · exact C _ _ _ (by omega) (by rw [hW]; simp)
  · exact C _ _ _ (by omega) (by rw [hW]; simp)
  · exact C _ _ _ (by omega) (by rw [hW]; simp)
  · exact C _ _ _ (by omega) (by rw [hW]; simp)
  · exact F _ _ (by omega) (by rw [hW]; simp)
  · exact F _ _ (by omega) (by rw [hW]; simp)
  · exact F _ _ (by omega) (by rw [hW]; simp)
  · exact F _ _ (by omega) (by rw [hW]; simp)
  · exact F _ _ (by omega) (by rw [hW]; simp)
  · have := hb.size; omega
  · have h0 : Below w.heap.size w W := by rw [hW]; exact ((below_alloc w _).alloc (by simp) _)
    exact h0.trans (hb.mono (by omega))

theorem splice_all (xs : List Nat) : splice (wv (List.replicate xs.length 0)) 0 (wv xs) = wv xs := by
  have h := splice_cp xs xs.length
  rw [List.take_length, cp_self] at h
  exact h

set_option maxHeartbeats 2000000 in
theorem iasItIs_c (N W M : Int) (ao : Option Addr) (xs : List Nat) (cap : Nat) (w : World) (hx : Wd w ao xs) (hl : xs.length ≤ 1048576) :
    Calls Tryd.prog 33 #[.agg #[.int .i64 N, .int .i64 W, .int .i64 M, .slice ao xs.length cap]] w fun e w' => ∃ g, e = .returned (.agg #[.int .i64 N, .int .i64 W, .int .i64 M, .slice (some ⟨g, 0, none⟩) xs.length xs.length]) ∧ w.heap.size ≤ g ∧ g < w'.heap.size ∧ Own w' g xs ∧ Below w.heap.size w w' := by
  obtain ⟨i0, hi, hz0, hz1, hz2⟩ := info_parts Tryd.info31
  have hb0 : Below w.heap.size w ((w.alloc (.cells #[.int .i64 N, .int .i64 W, .int .i64 M, .slice ao xs.length cap] 27)).alloc (.cells #[.int .i64 0, .int .i64 0, .int .i64 0, .slice none 0 0] 27)) := (below_alloc w _).alloc (by simp) _
  go_enter Tryd.func33, Tryd.ntmps33
  go_wp2_with (at_make; refine wpList_make_full _ rfl _ _ 22 rfl (w.heap.size + 1 + 1) 31 i0 (.int .u64 0) 1 Tryd.underlying22 hi hz0 hz1 .i64 .i64 _ _ xs.length rfl rfl rfl rfl ?b2 ?b3 ?b4 ?_)
  case b2 => rw [hz2]; omega
  case b3 => unfold maxLen; omega
  case b4 => simp
  intro w1 hown hgr
  have hg1 := own_made hown
  have hb1 : Below ((w.alloc (.cells #[.int .i64 N, .int .i64 W, .int .i64 M, .slice ao xs.length cap] 27)).alloc (.cells #[.int .i64 0, .int .i64 0, .int .i64 0, .slice none 0 0] 27)).heap.size ((w.alloc (.cells #[.int .i64 N, .int .i64 W, .int .i64 M, .slice ao xs.length cap] 27)).alloc (.cells #[.int .i64 0, .int .i64 0, .int .i64 0, .slice none 0 0] 27)) w1 := (Below.refl _ _).grown hgr (Nat.le_refl _) (fun k h => by cases h)
  obtain ⟨⟨k0, k1, k2, k3⟩, ⟨m0, m1, m2, m3⟩, ⟨n0, n1, n2, n3⟩, f3, hz, hw⟩ := box4_two rfl hb1
  have hx1 := hx.keep hw
  have HG : Hid (w1.heap[w.heap.size + 1 + 1]? = some (.cells (wv (List.replicate xs.length 0)).toArray 31 (0, 0))) := hg1
  have hw0 : Below (w.heap.size + 1 + 1) w1 w1 := Below.refl _ _
  clear hown hgr hg1 hi hz0 hz1 hz2 hb0 hb1
  go_wp2_with (refine wpList_copy_splice rfl (.tmp 9) (.tmp 12) 22 22 rfl 31 Tryd.underlying22 Tryd.size31 (some ⟨w.heap.size + 1 + 1, 0, none⟩) ao xs.length xs.length xs.length cap (by rfl) (by rfl) (w.heap.size + 1 + 1) 0 (wv (List.replicate xs.length 0)) 31 HG.out (wv xs) ?h1 ?h2 ?h3 ?h4 (w.heap.size + 1 + 1) w1 hw0 (Nat.le_refl _) ?_)
  case h1 => simp [wv]
  case h2 =>
    intro hp
    obtain ⟨b, off, rfl, hb, hc⟩ := hx1 (by simp [wv] at hp; omega)
    refine ⟨⟨b, off, none⟩, rfl, ?_⟩
    intro j v hj
    have hjl : j < xs.length := by
      have := (List.getElem?_eq_some_iff.1 hj).1
      simpa [wv] using this
    have ev : v = .int .u64 (gt xs j) := by
      rw [wv, List.getElem?_map, gt_get xs j hjl] at hj
      simp only [Option.map_some, Option.some.injEq] at hj
      exact hj.symm
    rw [ev, ← hc j hjl]
    unfold Addr.add
    split
    · subst_vars; rfl
    · rfl
  case h3 => simp [wv]
  case h4 => intro v hv; obtain ⟨a, _, rfl⟩ := List.mem_map.1 hv; rfl
  intro w2 H2 hb2
  rw [splice_all] at H2
  have hO : Own w2 (w.heap.size + 1 + 1) xs := H2.out
  have hl2 := hO.lt
  have hw2 : Below w.heap.size w w2 := hw.trans (hb2.mono (by omega))
  have C : ∀ (b' o : Nat) (v : Value), b' < w.heap.size + 1 + 1 → w1.cell? ⟨b', o, none⟩ = some v → w2.cell? ⟨b', o, none⟩ = some v := fun b' o v hb' h => (hb2.cell (p := ⟨b', o, none⟩) hb').trans h
  have F : ∀ (b' o : Nat), b' < w.heap.size + 1 + 1 → w1.frozen? ⟨b', o, none⟩ = false → w2.frozen? ⟨b', o, none⟩ = false := fun b' o hb' h => (hb2.frozen (p := ⟨b', o, none⟩) hb').trans h
  replace k0 := C _ _ _ (by omega) k0
  replace k1 := C _ _ _ (by omega) k1
  replace k2 := C _ _ _ (by omega) k2
  replace k3 := C _ _ _ (by omega) k3
  replace m0 := C _ _ _ (by omega) m0
  replace m1 := C _ _ _ (by omega) m1
  replace m2 := C _ _ _ (by omega) m2
  replace m3 := C _ _ _ (by omega) m3
  replace n0 := F _ _ (by omega) n0
  replace n1 := F _ _ (by omega) n1
  replace n2 := F _ _ (by omega) n2
  replace n3 := F _ _ (by omega) n3
  replace f3 := F _ _ (by omega) f3
  have HO : Hid (Own w2 (w.heap.size + 1 + 1) xs) := hO
  clear C F hb2 H2 HG hw0 hx1 hw hO
  go_wp2
  refine bodyPost_ret (v := .agg #[.int .i64 N, .int .i64 W, .int .i64 M, .slice (some ⟨w.heap.size + 1 + 1, 0, none⟩) xs.length xs.length]) (by simp [results, Tryd.results33, go_sem, m0, m1, m2, m3]) rfl ⟨w.heap.size + 1 + 1, rfl, by omega, ?_, ?_, ?_⟩
  · simp only [size_set]; exact hl2
  · refine Own.set_other ?_ (by simp) _
    refine Own.set_other ?_ (by simp) _
    refine Own.set_other ?_ (by simp) _
    refine Own.set_other ?_ (by simp) _
    refine Own.set_other HO.out (by simp; omega) _
  · exact ((((hw2.setCell (by simp) _).setCell (by simp) _).setCell (by simp) _).setCell (by simp) _).setCell (by simp) _
end Go.Proofs.YtjilehaokignoaaDoor
