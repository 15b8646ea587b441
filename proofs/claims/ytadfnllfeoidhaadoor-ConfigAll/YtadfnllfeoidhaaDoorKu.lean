/-
  The contract of allShapes.
-/
import Derived.Test.YtadfnllfeoidhaaDoorCe
namespace Go.Proofs.YtadfnllfeoidhaaDoor
open Go.RowKit
set_option linter.unusedVariables false
set_option linter.unusedSimpArgs false
set_option maxRecDepth 100000

namespace Co
/-- What configurations have but of kinds and samples. -/
def shS : List Cf := [(1, 0, 0, 0, 0), (2, 0, 0, 0, 0), (3, 0, 0, 0, 0)] ++ [1, 2, 3].flatMap fun i => lgs.map fun l => (4, i, l, 0, 0)
theorem shS_len : shS.length = 18 := by decide
theorem shS_a (s : Nat) (h1 : 1 ≤ s) (h2 : s < 4) : shS[s - 1]? = some (s, 0, 0, 0, 0) := by
  have key : s = 1 ∨ s = 2 ∨ s = 3 := by omega
  rcases key with rfl | rfl | rfl <;> rfl
theorem shS_b (i q l : Nat) (h1 : 1 ≤ i) (h2 : i < 4) (h3 : l ≤ 12) (h4 : l = 4 + 2 * q) : shS[3 + 5 * (i - 1) + q]? = some (4, i, l, 0, 0) := by
  have key : i = 1 ∨ i = 2 ∨ i = 3 := by omega
  have key2 : q = 0 ∨ q = 1 ∨ q = 2 ∨ q = 3 ∨ q = 4 := by omega
  subst h4
  rcases key with rfl | rfl | rfl <;> rcases key2 with rfl | rfl | rfl | rfl | rfl <;> rfl
theorem take_next {α : Type} {l : List α} {t : Nat} {c : α} (h : l[t]? = some c) : l.take (t + 1) = l.take t ++ [c] := by
  rw [List.take_add_one, h]
  rfl
theorem take_len {α : Type} {l : List α} {t : Nat} {c : α} (h : l[t]? = some c) : (l.take t).length = t := by
  rw [List.length_take]
  have := (List.getElem?_eq_some_iff.1 h).1
  omega
end Co
/-- The first t of a list of configurations stand in memory. -/
def OL (base : Nat) (w wr : World) (L : List Co.Cf) (v : Value) (t : Nat) : Prop := wr.ownsRow base 23 5 v t (Co.enc (L.take t)) ∧ Below base w wr
theorem OL.start (w : World) (L : List Co.Cf) : OL w.heap.size w w L (.slice none 0 0) 0 := ⟨⟨rfl, .inl ⟨rfl, rfl⟩⟩, Below.refl _ _⟩
theorem OL.more {base g cap t : Nat} {w w2 : World} {L : List Co.Cf} {c : Co.Cf} (h0 : L[t]? = some c) (h : w2.ownsRow base 23 5 (.slice (some ⟨g, 0, none⟩) (t + 1) cap) (t + 1) (Co.enc (L.take t) ++ Co.cv (Co.toZ c))) (hb : Below base w w2) : OL base w w2 L (.slice (some ⟨g, 0, none⟩) (t + 1) cap) (t + 1) := by
  refine ⟨?_, hb⟩
  rw [Co.take_next h0, Co.enc_app]
  exact h
set_option maxHeartbeats 8000000 in
theorem kallsh_c (w : World) : Calls Tryd.prog 32 #[] w fun e w' => ∃ v, e = .returned v ∧ OL w.heap.size w w' Co.shS v 18 := by
  obtain ⟨i0, hi, hz0, hz1, hz2⟩ := info_parts (show (Tryd.prog.info? 23).map (fun i => (i.zero, i.size, i.bytes)) = some (some (.agg #[.int .i64 0, .int .i64 0, .int .i64 0, .int .i64 0, .int .i64 0]), 5, 40) by kernel_rfl)
  have HI := hide (And.intro hi (And.intro hz0 (And.intro hz1 hz2)))
  clear hi hz0 hz1 hz2
  go_enter Tryd.func32, Tryd.ntmps32
  go_wp2
  go_loopw [1, 2] (fun vo vs wr => ∃ s : Nat, 1 ≤ s ∧ s ≤ 4 ∧ vs = .int .i64 (s : Nat) ∧ Hid (OL w.heap.size w wr Co.shS vo (s - 1))) (fun _ vs _ => 4 - (intOf vs).toNat)
  case atStart => exact ⟨1, by omega, by omega, rfl, OL.start w _⟩
  case round =>
    obtain ⟨s, hs1, hs4, rfl, HO⟩ := hrel
    by_cases hs3 : s < 4
    · have hsz : (s : Int) < 4 := by omega
      have H0 := hide (Co.shS_a s hs1 hs3)
      obtain ⟨t, ht⟩ : ∃ t, Hid (t = s - 1) := ⟨_, rfl⟩
      rw [← ht.out] at HO H0
      have ht18 : t < 18 := by have := ht.out; omega
      have HT : Hid (t + 1 = s + 1 - 1) := by have := ht.out; show _ = _; omega
      have HCV : Hid (Co.cv (Co.toZ (s, 0, 0, 0, 0)) = [.int .i64 (s : Nat), .int .i64 0, .int .i64 0, .int .i64 0, .int .i64 0]) := (rfl : Co.cv _ = _)
      have hws : w.heap.size ≤ wr.heap.size := HO.out.2.size
      obtain ⟨hi, hz0, hz1, hz2⟩ := HI.out
      go_wp2_with (at_builtin; refine Ag.wpList_append (by rfl) _ _ _ (by rfl) w.heap.size 23 i0 (.agg #[.int .i64 0, .int .i64 0, .int .i64 0, .int .i64 0, .int .i64 0]) 5 40 Tryd.underlying33 hi hz0 hz1 hz2 rfl (by decide) u1 t (Co.enc (Co.shS.take t)) (by rfl) (Ag.owns_keep HO.out.1 (below_alloc wr _)) ⟨wr.heap.size, 0, none⟩ 1 1 [.int .i64 (s : Nat), .int .i64 0, .int .i64 0, .int .i64 0, .int .i64 0] (by rfl) rfl (by decide) ?c1 ?c2 ?c3 ?c4 ?c5 ?_)
      case c1 =>
        intro j u hj
        have := (Cel.new wr [.int .i64 (s : Nat), .int .i64 0, .int .i64 0, .int .i64 0, .int .i64 0] 23).cell j hj
        match j, hj with
        | 0, _ => exact this
        | 1, _ => exact this
        | 2, _ => exact this
        | 3, _ => exact this
        | 4, _ => exact this
      case c2 => intro u hu; simp at hu; rcases hu with rfl | rfl | rfl | rfl | rfl <;> rfl
      case c3 => unfold maxLen; omega
      case c4 => omega
      case c5 => simp; omega
      intro g8 cap8 w8 own8 hb8 _ _ _ _
      have HN : Hid (OL w.heap.size w w8 Co.shS (.slice (some ⟨g8, 0, none⟩) (t + 1) cap8) (t + 1)) := OL.more H0.out (by rw [HCV.out]; exact own8) ((HO.out.2.alloc hws _).trans hb8)
      clear own8 hb8 HO hi hz0 hz1 hz2
      go_wp2
      exact ⟨⟨s + 1, by omega, by omega, by go_num, by rw [← HT.out]; exact HN⟩, by simp only [intOf]; omega⟩
    · have hsz : ¬ (s : Int) < 4 := by omega
      have HS : Hid (OL w.heap.size w wr Co.shS u1 3) := by have := HO.out; rwa [show s - 1 = 3 by omega] at this
      clear HO
      obtain ⟨wa, rfl⟩ : ∃ wa, wa = wr := ⟨_, rfl⟩
      go_wp2
      go_loopw [1, 3] (fun vo vs wr => ∃ i : Nat, 1 ≤ i ∧ i ≤ 4 ∧ vs = .int .i64 (i : Nat) ∧ Hid (OL w.heap.size w wr Co.shS vo (3 + 5 * (i - 1)))) (fun _ vs _ => 4 - (intOf vs).toNat)
      case atStart => exact ⟨1, by omega, by omega, rfl, HS⟩
      case round =>
        clear HS
        obtain ⟨i, hi1, hi4, rfl, HO⟩ := hrel
        by_cases hi3 : i < 4
        · have hiz : (i : Int) < 4 := by omega
          obtain ⟨wb, rfl⟩ : ∃ wb, wb = wr := ⟨_, rfl⟩
          go_wp2
          go_loopw [1, 4] (fun vo vs wr => ∃ q l : Nat, q ≤ 5 ∧ l = 4 + 2 * q ∧ vs = .int .i64 (l : Nat) ∧ Hid (OL w.heap.size w wr Co.shS vo (3 + 5 * (i - 1) + q))) (fun _ vs _ => 14 - (intOf vs).toNat)
          case atStart => exact ⟨0, 4, by omega, rfl, rfl, HO⟩
          case round =>
            clear HO
            obtain ⟨q, l, hq5, hl, rfl, HO⟩ := hrel
            by_cases hq4 : l ≤ 12
            · have hqz : (l : Int) ≤ 12 := by omega
              have H0 := hide (Co.shS_b i q l hi1 hi3 hq4 hl)
              have HL := hide hl
              clear hl
              obtain ⟨t, ht⟩ : ∃ t, Hid (t = 3 + 5 * (i - 1) + q) := ⟨_, rfl⟩
              rw [← ht.out] at HO H0
              have ht18 : t < 18 := by have := ht.out; have := HL.out; omega
              have HT : Hid (t + 1 = 3 + 5 * (i - 1) + (q + 1)) := by have := ht.out; show _ = _; omega
              have HCV : Hid (Co.cv (Co.toZ (4, i, l, 0, 0)) = [.int .i64 4, .int .i64 (i : Nat), .int .i64 (l : Nat), .int .i64 0, .int .i64 0]) := (rfl : Co.cv _ = _)
              have hws : w.heap.size ≤ wr.heap.size := HO.out.2.size
              obtain ⟨hi, hz0, hz1, hz2⟩ := HI.out
              go_wp2_with (at_builtin; refine Ag.wpList_append (by rfl) _ _ _ (by rfl) w.heap.size 23 i0 (.agg #[.int .i64 0, .int .i64 0, .int .i64 0, .int .i64 0, .int .i64 0]) 5 40 Tryd.underlying33 hi hz0 hz1 hz2 rfl (by decide) u1 t (Co.enc (Co.shS.take t)) (by rfl) (Ag.owns_keep HO.out.1 (below_alloc wr _)) ⟨wr.heap.size, 0, none⟩ 1 1 [.int .i64 4, .int .i64 (i : Nat), .int .i64 (l : Nat), .int .i64 0, .int .i64 0] (by rfl) rfl (by decide) ?c1 ?c2 ?c3 ?c4 ?c5 ?_)
              case c1 =>
                intro j u hj
                have := (Cel.new wr [.int .i64 4, .int .i64 (i : Nat), .int .i64 (l : Nat), .int .i64 0, .int .i64 0] 23).cell j hj
                match j, hj with
                | 0, _ => exact this
                | 1, _ => exact this
                | 2, _ => exact this
                | 3, _ => exact this
                | 4, _ => exact this
              case c2 => intro u hu; simp at hu; rcases hu with rfl | rfl | rfl | rfl | rfl <;> rfl
              case c3 => unfold maxLen; omega
              case c4 => omega
              case c5 => simp; omega
              intro g8 cap8 w8 own8 hb8 _ _ _ _
              have HN : Hid (OL w.heap.size w w8 Co.shS (.slice (some ⟨g8, 0, none⟩) (t + 1) cap8) (t + 1)) := OL.more H0.out (by rw [HCV.out]; exact own8) ((HO.out.2.alloc hws _).trans hb8)
              clear own8 hb8 HO hi hz0 hz1 hz2
              go_wp2
              exact ⟨⟨q + 1, l + 2, by have := HL.out; omega, by have := HL.out; omega, by go_num, by rw [← HT.out]; exact HN⟩, by simp only [intOf]; omega⟩
            · have hqz : ¬ (l : Int) ≤ 12 := by omega
              have HS : Hid (OL w.heap.size w wr Co.shS u1 (3 + 5 * (i + 1 - 1))) := by have := HO.out; rwa [show 3 + 5 * (i - 1) + q = 3 + 5 * (i + 1 - 1) by omega] at this
              clear HO
              go_wp2
              exact ⟨⟨i + 1, by omega, by omega, by go_num, HS⟩, by simp only [intOf]; omega⟩
        · have hiz : ¬ (i : Int) < 4 := by omega
          have HS : Hid (OL w.heap.size w wr Co.shS u1 18) := by have := HO.out; rwa [show 3 + 5 * (i - 1) = 18 by omega] at this
          clear HO
          go_wp2
          go_ret
          exact ⟨_, rfl, HS.out⟩
end Go.Proofs.YtadfnllfeoidhaaDoor
