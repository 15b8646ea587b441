/-
  The contract of the document's Bools: the bits of a row, as bools in memory of the call's own.
-/
import Derived.Test.YtmdmjbpehbjgpaaRefSlice
import Derived.Test.YtmdmjbpehbjgpaaOwnC
namespace Go.Proofs.Ytmdmjbpehbjgpaa
open Go.RowKit Num Bit

theorem Try.info4 : (Try.prog.info? 4).map (fun i => (i.zero, i.size, i.bytes)) = some (some (.bool false), 1, 1) := by kernel_rfl

def bv (l : List Bool) : List Value := l.map fun b => Value.bool b
def bitsOf (xs : List Nat) (q : Nat) : List Bool := (List.range q).map (bitAt xs)

theorem bitsOf_succ (xs : List Nat) (q : Nat) : bv (bitsOf xs q) ++ [.bool (bitAt xs q)] = bv (bitsOf xs (q + 1)) := by
  unfold bv bitsOf
  rw [List.range_succ, List.map_append, List.map_append]
  rfl

theorem owns_below {w w' : World} {base e n : Nat} {v : Value} {vs : List Value} (h : w.ownsRow base e 1 v n vs) (hb : Below w.heap.size w w') : w'.ownsRow base e 1 v n vs := by
  obtain ⟨h1, h2 | ⟨g, cap, cur, e1, e2, hh, r⟩⟩ := h
  · exact ⟨h1, .inl h2⟩
  · exact ⟨h1, .inr ⟨g, cap, cur, e1, e2, (hb.block g ((Array.getElem?_eq_some_iff.1 hh).1)).trans hh, r⟩⟩

set_option maxHeartbeats 2000000 in
theorem bools_c (N : Int) (ao : Option Addr) (xs : List Nat) (cap : Nat) (w : World) (hx : Wd w ao xs) (hk : chk N xs = true) :
    Calls Try.prog 55 #[.agg #[.int .i64 N, .slice ao xs.length cap]] w fun e w' => ∃ v, e = .returned v ∧ w'.ownsRow w.heap.size 4 1 v N.toNat (bv (bitsOf xs N.toNat)) ∧ Below w.heap.size w w' := by
  obtain ⟨hc0, hc1, hc2, _⟩ := chk_out N xs hk
  obtain ⟨m, rfl⟩ := Int.eq_ofNat_of_zero_le hc0
  obtain ⟨i0, hi, hz0, hz1, hz2⟩ := info_parts Try.info4
  have HL : Hid ((xs.length : Int) = ((m : Int) + 63) / 64) := hc2
  clear hc2
  go_enter Try.func55, Try.ntmps55
  go_wp2
  go_loopw [3, 4] (fun v i wr => ∃ q : Nat, q ≤ m ∧ i = .int .i64 q ∧ wr.ownsRow (w.heap.size + 1) 4 1 v q (bv (bitsOf xs q)) ∧ (wr.cell? ⟨w.heap.size, 0, none⟩ = some (.int .i64 m) ∧ wr.cell? ⟨w.heap.size, 1, none⟩ = some (.slice ao xs.length cap)) ∧ w.heap.size < wr.heap.size ∧ Below (w.heap.size + 1) (w.alloc (.cells #[.int .i64 m, .slice ao xs.length cap] 24)) wr) (fun _ i _ => m - (intOf i).toNat)
  case atStart => exact ⟨0, Nat.zero_le _, rfl, World.ownsRow_nil _ _ _ _, ⟨by simp, by simp⟩, by simp, Below.refl _ _⟩
  case round =>
    obtain ⟨q, hq, rfl, hown, ⟨r0, r1⟩, hz, hwr⟩ := hrel
    have hw0 : Below w.heap.size w wr := (below_alloc w _).trans (hwr.mono (by omega))
    by_cases hlt : q < m
    · have hlt2 : (q : Int) < (m : Int) := by omega
      go_wp2_with fail
      refine (at_c _ _ _ _ _ _ (hx.keep hw0) (by have := HL.out; omega) (by omega)).mono ?_
      rintro e w2 ⟨rfl, hb⟩
      have s0 := (hb.cell (p := ⟨w.heap.size, 0, none⟩) hz).trans r0
      have s1 := (hb.cell (p := ⟨w.heap.size, 1, none⟩) hz).trans r1
      have hz2' : w.heap.size < w2.heap.size := Nat.lt_of_lt_of_le hz hb.size
      have hw2 := hwr.trans (hb.mono (show w.heap.size + 1 ≤ wr.heap.size by omega))
      have hown2 := owns_below hown hb
      clear hb r0 r1 hwr hz hown hw0
      go_wp2_with (at_builtin; refine wpList_append_own _ rfl _ _ 43 rfl (w.heap.size + 1) 4 i0 (.bool false) 1 1 Try.underlying43 hi hz0 hz1 hz2 rfl (by decide) _ _ _ rfl (hown2.alloc _) ⟨w2.heap.size, 0, none⟩ 1 1 [.bool (bitAt xs q)] rfl rfl ?c1 ?c2 ?c3 ?c4 ?c5 ?_)
      case c1 =>
        intro j u hj
        match j, hj with
        | 0, hj => simp at hj; subst hj; simp [Addr.add]
      case c2 => intro u hu; simp at hu; subst hu; rfl
      case c3 => unfold maxLen; omega
      case c4 => omega
      case c5 => simp; omega
      intro v' w3 hown3 hgrow _
      have hrow : ∀ k, u3.ownBlock = some k → w.heap.size + 1 ≤ k := fun k hk => (hown2.lt k hk).1
      have hb3 : Below (w.heap.size + 1) (w2.alloc (.cells #[.bool (bitAt xs q)] 4)) w3 := (Below.refl _ _).grown hgrow (by simp; omega) hrow
      have hb4 : Below (w.heap.size + 1) w2 w3 := Below.trans ((Below.refl _ _).alloc (by omega) _) hb3
      have p0 := (hb4.cell (p := ⟨w.heap.size, 0, none⟩) (Nat.lt_succ_self _)).trans s0
      have p1 := (hb4.cell (p := ⟨w.heap.size, 1, none⟩) (Nat.lt_succ_self _)).trans s1
      have hz3 : w.heap.size < w3.heap.size := Nat.lt_of_lt_of_le hz2' hb4.size
      have hw3 := hw2.trans hb4
      rw [bitsOf_succ] at hown3
      have HO : Hid (w3.ownsRow (w.heap.size + 1) 4 1 v' (q + 1) (bv (bitsOf xs (q + 1)))) := hown3
      clear hgrow hown2 hb3 hb4 hown3 s0 s1 hrow hi hz0 hz1 hz2
      go_wp2
      first
        | exact ⟨⟨q + 1, by omega, by go_num, HO.out, ⟨p0, p1⟩, hz3, hw3⟩, by simp only [intOf]; omega⟩
        | (go_roundw
           case rel => exact ⟨q + 1, by omega, by go_num, HO.out, ⟨p0, p1⟩, hz3, hw3⟩
           case measure => simp only [intOf]; omega)
    · have hqm : q = m := by omega
      have HO : Hid (wr.ownsRow w.heap.size 4 1 u3 m (bv (bitsOf xs m))) := by
        rw [hqm] at hown
        obtain ⟨h1, h2 | ⟨g, c, cur, e1, e2, r⟩⟩ := hown
        · exact ⟨h1, .inl h2⟩
        · exact ⟨h1, .inr ⟨g, c, cur, e1, by omega, r⟩⟩
      clear hqm hown
      go_wp2
      go_ret
      exact ⟨u3, rfl, HO.out, hw0⟩
end Go.Proofs.Ytmdmjbpehbjgpaa
