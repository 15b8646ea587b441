/-
  The contracts of the program's placesOf, bytesAsNames and pairsOf.
-/
import Derived.Test.YtojjinjgmijgcaaRj
import Derived.RegionTactic
import Derived.ChangeAlike
import Derived.BigRegion
namespace Go.Proofs.Ytojjinjgmijgcaa
open Go.RowKit
set_option linter.unusedVariables false
set_option linter.unusedSimpArgs false
set_option maxRecDepth 100000

/-- n structs of two cells, one behind the other. -/
def bl2 (n : Nat) (a b : Nat → Value) : List Value := (List.range (n * 2)).map fun j => if j % 2 = 0 then a (j / 2) else b (j / 2)
theorem length_bl2 (n : Nat) (a b : Nat → Value) : (bl2 n a b).length = n * 2 := by simp [bl2]
theorem bl2_get (n : Nat) (a b : Nat → Value) (j : Nat) (h : j < n * 2) : (bl2 n a b)[j]? = some (if j % 2 = 0 then a (j / 2) else b (j / 2)) := by
  unfold bl2
  rw [List.getElem?_map, List.getElem?_range h]
  rfl
theorem bl2_fst (n : Nat) (a b : Nat → Value) (i : Nat) (h : i < n) : (bl2 n a b)[i * 2]? = some (a i) := by
  rw [bl2_get n a b (i * 2) (by omega), if_pos (by omega), show i * 2 / 2 = i by omega]
theorem bl2_snd (n : Nat) (a b : Nat → Value) (i : Nat) (h : i < n) : (bl2 n a b)[i * 2 + 1]? = some (b i) := by
  rw [bl2_get n a b (i * 2 + 1) (by omega), if_neg (by omega), show (i * 2 + 1) / 2 = i by omega]
theorem bl2_set (n : Nat) (a b a' b' : Nat → Value) (i : Nat) (h : i < n) (ha : ∀ j, j ≠ i → a' j = a j) (hb : ∀ j, j ≠ i → b' j = b j) : ((bl2 n a b).set (i * 2) (a' i)).set (i * 2 + 1) (b' i) = bl2 n a' b' := by
  refine List.ext_getElem? fun j => ?_
  by_cases c : j < n * 2
  · rw [bl2_get n a' b' j c, List.getElem?_set, List.getElem?_set]
    by_cases c1 : i * 2 + 1 = j
    · subst c1
      rw [if_pos rfl, List.length_set, length_bl2, if_pos c, if_neg (by omega), show (i * 2 + 1) / 2 = i by omega]
    · rw [if_neg c1]
      by_cases c2 : i * 2 = j
      · subst c2
        rw [if_pos rfl, length_bl2, if_pos c, if_pos (by omega), show i * 2 / 2 = i by omega]
      · rw [if_neg c2, bl2_get n a b j c, ha (j / 2) (by omega), hb (j / 2) (by omega)]
  · rw [List.getElem?_eq_none (by rw [List.length_set, List.length_set, length_bl2]; omega), List.getElem?_eq_none (by rw [length_bl2]; omega)]
theorem bl2_made (n : Nat) (x y : Value) : (madeCells #[x, y] (n * 2)).toList = bl2 n (fun _ => x) (fun _ => y) := by
  unfold madeCells bl2
  rw [Array.toList_map, Array.toList_range]
  refine List.map_congr_left fun j _ => ?_
  show #[x, y][j % 2]! = _
  rcases Nat.mod_two_eq_zero_or_one j with e | e
  · rw [e]; rfl
  · rw [e]; rfl
theorem cel_made2 {w : World} {base g n : Nat} {E : TypeId} {x y : Value} (h : w.ownsRow base E 2 (.slice (some ⟨g, 0, none⟩) n n) n (madeCells #[x, y] (n * 2)).toList) : Cel w g (bl2 n (fun _ => x) (fun _ => y)) E := by
  obtain ⟨_, h | ⟨g', cap, cur, e, _, hh, _, _, hs, ht⟩⟩ := h
  · simp at h
  · simp only [Value.slice.injEq, Option.some.injEq, Addr.mk.injEq] at e
    obtain ⟨⟨rfl, _, _⟩, _, rfl⟩ := e
    unfold Cel
    rw [hh, ← bl2_made n x y, ← ht]
    have e3 : cur.toList.take (n * 2) = cur.toList := List.take_of_length_le (by simp; omega)
    rw [e3]
/-- The first q of n numbers are there, the others nought. -/
def rq (n : Nat) (f : Nat → Nat) (q : Nat) : List Value := iv ((List.range n).map fun i => if i < q then f i else 0)
theorem rq_zero (n : Nat) (f : Nat → Nat) : rq n f 0 = List.replicate n (.int .i64 0) := by
  unfold rq
  rw [← iv_rep]
  congr 1
  refine Su.list_ext (by simp) fun i hi => ?_
  rw [List.length_map, List.length_range] at hi
  rw [Su.gt_map _ _ _ hi, if_neg (Nat.not_lt_zero _)]
  unfold gt
  rw [List.getD_eq_getElem?_getD, List.getElem?_replicate, if_pos hi]; rfl
theorem rq_get (n : Nat) (f : Nat → Nat) (q : Nat) (h : q < n) : (rq n f q)[q]? = some (.int .i64 0) := by
  unfold rq
  rw [iv_get _ _ (by simpa using h), Su.gt_map _ _ _ h, if_neg (Nat.lt_irrefl _)]; rfl
theorem rq_set (n : Nat) (f : Nat → Nat) (q : Nat) (h : q < n) : (rq n f q).set q (.int .i64 (f q : Nat)) = rq n f (q + 1) := by
  unfold rq
  rw [iv_set]
  congr 1
  refine Su.list_ext (by simp) fun i hi => ?_
  rw [List.length_set, List.length_map, List.length_range] at hi
  rw [Su.gt_set _ _ _ _ (by simpa using h), Su.gt_map _ _ _ hi, Su.gt_map _ _ _ hi]
  by_cases e : q = i
  · subst e; rw [if_pos rfl, if_pos (by omega)]
  · rw [if_neg e]
    by_cases c : i < q
    · rw [if_pos c, if_pos (by omega)]
    · rw [if_neg c, if_neg (by omega)]
theorem rq_all (n : Nat) (f : Nat → Nat) (q : Nat) (h : ∀ i, q ≤ i → i < n → f i = 0) : rq n f q = iv ((List.range n).map f) := by
  unfold rq
  congr 1
  refine List.map_congr_left fun i hi => ?_
  have hi := List.mem_range.1 hi
  by_cases c : i < q
  · rw [if_pos c]
  · rw [if_neg c, h i (by omega) hi]
/-- A new row of its own, of n numbers. -/
def NewR (w w' : World) (e : Ending) (l : List Nat) : Prop := ∃ g, e = .returned (.slice (some ⟨g, 0, none⟩) l.length l.length) ∧ Cel w' g (iv l) 3 ∧ w.heap.size ≤ g ∧ Below w.heap.size w w'
theorem NewR.mk {w w' : World} {g n : Nat} {l : List Nat} (hn : l.length = n) (h : Cel w' g (iv l) 3) (hg : w.heap.size ≤ g) (hb : Below w.heap.size w w') : NewR w w' (.returned (.slice (some ⟨g, 0, none⟩) n n)) l := ⟨g, by rw [hn], h, hg, hb⟩
set_option maxHeartbeats 4000000 in
theorem splaces_c (ao : Option Addr) (t : List Nat) (cap : Nat) (w : World) (hl : t.length ≤ 8192) :
    Calls Try.prog 25 #[.slice ao t.length cap] w fun e w' => NewR w w' e (List.range (t.length + 1)) := by
  obtain ⟨i0, hi, hz0, hz1, hz2⟩ := info_parts Try.info3
  obtain ⟨m, hm⟩ : ∃ m, Hid (m = t.length) := ⟨_, rfl⟩
  rw [← hm.out] at hl ⊢
  obtain ⟨n, hn⟩ : ∃ n, Hid (n = m + 1) := ⟨_, rfl⟩
  have hn2 : n ≤ 8193 := by rw [hn.out]; omega
  rw [← hn.out]
  go_enter Try.func25, Try.ntmps25
  go_wp2_with (at_make; refine wpList_make_full _ rfl _ _ 23 rfl w.heap.size 3 i0 (.int .i64 0) 1 Try.underlying23 hi hz0 hz1 .i64 .i64 _ _ n rfl rfl ?b0 ?b1 ?b2 ?b3 ?b4 ?_)
  case b0 => rw [hn.out]; omega
  case b1 => rw [hn.out]; omega
  case b2 => rw [hz2]; omega
  case b3 => unfold maxLen; omega
  case b4 => simp
  intro w1 hown hgr
  have B1 := cel_made hown
  have hb1 : Below w.heap.size w w1 := (Below.refl _ _).grown hgr (Nat.le_refl _) (fun k h => by cases h)
  rw [← rq_zero n fun i => i] at B1
  have HL1 := hide B1
  have HB1 := hide hb1
  clear hown hgr hb1 hi hz0 hz1 hz2 B1
  obtain ⟨g1, hg1⟩ : ∃ g1, Hid (g1 = w.heap.size) := ⟨_, rfl⟩
  rw [← hg1.out] at HL1 ⊢
  have hgle : w.heap.size ≤ g1 := by have := hg1.out; omega
  go_wp2
  go_loopw [11] (fun vi wr => ∃ q : Nat, q ≤ n ∧ vi = .int .i64 q ∧ Hid (Cel wr g1 (rq n (fun i => i) q) 3) ∧ Hid (Below w.heap.size w wr)) (fun vi _ => n - (intOf vi).toNat)
  case atStart => exact ⟨0, Nat.zero_le _, rfl, HL1, HB1⟩
  case round =>
    clear HL1 HB1
    obtain ⟨q, hq, rfl, HO, HB⟩ := hrel
    by_cases hlt : q < n
    · have hltz : (q : Int) < (n : Int) := by omega
      have n1 := HO.out.cell q (rq_get n _ q hlt)
      have f1 := HO.out.frozen q
      have O1 : Hid (Cel (wr.setCell ⟨g1, q, none⟩ (.int .i64 (q : Nat))) g1 (rq n (fun i => i) (q + 1)) 3) := by
        have := HO.out.set q (.int .i64 (q : Nat))
        rwa [rq_set n (fun i => i) q hlt] at this
      have B1 : Hid (Below w.heap.size w (wr.setCell ⟨g1, q, none⟩ (.int .i64 (q : Nat)))) := HB.out.setCell (p := ⟨g1, q, none⟩) hgle _
      go_wp2
      refine ⟨⟨q + 1, by omega, by go_num, O1, B1⟩, by simp only [intOf]; omega⟩
    · have hge : (n : Int) ≤ (q : Int) := by omega
      go_wp2
      go_ret
      refine NewR.mk List.length_range ?_ hgle HB.out
      have := HO.out
      rwa [rq_all n (fun i => i) q fun i h1 h2 => by omega, List.map_id'] at this
set_option maxHeartbeats 4000000 in
theorem snames_c (ao : Option Addr) (t : List Nat) (cap : Nat) (w : World) (hx : Bd w ao t) (hb : Bytes t) (hl : t.length ≤ 8192) :
    Calls Try.prog 26 #[.slice ao t.length cap] w fun e w' => NewR w w' e ((List.range (t.length + 1)).map fun i => if i < t.length then gt t i + 1 else 0) := by
  obtain ⟨i0, hi, hz0, hz1, hz2⟩ := info_parts Try.info3
  obtain ⟨m, hm⟩ : ∃ m, Hid (m = t.length) := ⟨_, rfl⟩
  have HX := hide hx
  have HBy := hide hb
  clear hx hb
  rw [← hm.out] at hl ⊢
  obtain ⟨n, hn⟩ : ∃ n, Hid (n = m + 1) := ⟨_, rfl⟩
  have hn2 : n ≤ 8193 := by rw [hn.out]; omega
  have hn3 : m < n := by rw [hn.out]; omega
  rw [← hn.out]
  obtain ⟨f, hf⟩ : ∃ f : Nat → Nat, Hid (f = fun i => if i < m then gt t i + 1 else 0) := ⟨_, rfl⟩
  rw [← hf.out]
  go_enter Try.func26, Try.ntmps26
  go_wp2_with (at_make; refine wpList_make_full _ rfl _ _ 23 rfl w.heap.size 3 i0 (.int .i64 0) 1 Try.underlying23 hi hz0 hz1 .i64 .i64 _ _ n rfl rfl ?b0 ?b1 ?b2 ?b3 ?b4 ?_)
  case b0 => rw [hn.out]; omega
  case b1 => rw [hn.out]; omega
  case b2 => rw [hz2]; omega
  case b3 => unfold maxLen; omega
  case b4 => simp
  intro w1 hown hgr
  have B1 := cel_made hown
  have hb1 : Below w.heap.size w w1 := (Below.refl _ _).grown hgr (Nat.le_refl _) (fun k h => by cases h)
  rw [← rq_zero n f] at B1
  have HL1 := hide B1
  have HB1 := hide hb1
  clear hown hgr hb1 hi hz0 hz1 hz2 B1
  obtain ⟨g1, hg1⟩ : ∃ g1, Hid (g1 = w.heap.size) := ⟨_, rfl⟩
  rw [← hg1.out] at HL1 ⊢
  have hgle : w.heap.size ≤ g1 := by have := hg1.out; omega
  go_wp2
  go_loopw [11] (fun vi wr => ∃ q : Nat, q ≤ m ∧ vi = .int .i64 q ∧ Hid (Cel wr g1 (rq n f q) 3) ∧ Hid (Below w.heap.size w wr)) (fun vi _ => m - (intOf vi).toNat)
  case atStart => exact ⟨0, Nat.zero_le _, rfl, HL1, HB1⟩
  case round =>
    clear HL1 HB1
    obtain ⟨q, hq, rfl, HO, HB⟩ := hrel
    by_cases hlt : q < m
    · have hltz : (q : Int) < (m : Int) := by omega
      have hltn : (q : Int) < (n : Int) := by omega
      obtain ⟨b, off, rfl, hb0, hcc⟩ := HX.out (by rw [← hm.out]; omega)
      have e1 := (HB.out.cell (p := ⟨b, off + q, none⟩) hb0).trans (hcc q (by rw [← hm.out]; exact hlt))
      have FQ : Hid (f q = gt t q + 1) := by
        show f q = _
        rw [hf.out]; exact if_pos hlt
      have hg8 : gt t q < 256 := gt_lt HBy.out q
      clear hcc
      have n1 := HO.out.cell q (rq_get n _ q (by omega))
      have f1 := HO.out.frozen q
      have O1 : Hid (Cel (wr.setCell ⟨g1, q, none⟩ (.int .i64 (gt t q + 1 : Nat))) g1 (rq n f (q + 1)) 3) := by
        have := HO.out.set q (.int .i64 (gt t q + 1 : Nat))
        rwa [← FQ.out, rq_set n f q (by omega), FQ.out] at this
      have B1 : Hid (Below w.heap.size w (wr.setCell ⟨g1, q, none⟩ (.int .i64 (gt t q + 1 : Nat)))) := HB.out.setCell (p := ⟨g1, q, none⟩) hgle _
      generalize gt t q = x at *
      go_wp2
      refine ⟨⟨q + 1, by omega, by go_num, ?_, ?_⟩, by simp only [intOf]; omega⟩
      · rw [show (1 + (x : Int)) = ((x + 1 : Nat) : Int) by omega]
        exact O1
      · rw [show (1 + (x : Int)) = ((x + 1 : Nat) : Int) by omega]
        exact B1
    · have hge : (m : Int) ≤ (q : Int) := by omega
      go_wp2
      go_ret
      refine NewR.mk (by simp) ?_ hgle HB.out
      have := HO.out
      rwa [rq_all n f q fun i h1 h2 => by rw [hf.out]; exact if_neg (by omega)] at this
/-- The first q of n pairs. -/
def pq (n : Nat) (a b : Nat → Nat) (q : Nat) : List Value := bl2 n (fun i => .int .i64 ((if i < q then a i else 0 : Nat) : Int)) (fun i => .int .i64 ((if i < q then b i else 0 : Nat) : Int))
theorem pq_zero (n : Nat) (a b : Nat → Nat) : pq n a b 0 = bl2 n (fun _ => .int .i64 0) (fun _ => .int .i64 0) := by unfold pq; simp
theorem pq_step (n : Nat) (a b : Nat → Nat) (q : Nat) (h : q < n) : ((pq n a b q).set (q * 2) (.int .i64 (a q : Nat))).set (q * 2 + 1) (.int .i64 (b q : Nat)) = pq n a b (q + 1) := by
  have e := bl2_set n (fun i => .int .i64 ((if i < q then a i else 0 : Nat) : Int)) (fun i => .int .i64 ((if i < q then b i else 0 : Nat) : Int)) (fun i => .int .i64 ((if i < q + 1 then a i else 0 : Nat) : Int)) (fun i => .int .i64 ((if i < q + 1 then b i else 0 : Nat) : Int)) q h
    (fun j hj => by by_cases d : j < q <;> simp [d, show (j < q + 1 ↔ j < q) by omega]) (fun j hj => by by_cases d : j < q <;> simp [d, show (j < q + 1 ↔ j < q) by omega])
  rw [if_pos (show q < q + 1 by omega), if_pos (show q < q + 1 by omega)] at e
  exact e
theorem pq_fst (n : Nat) (a b : Nat → Nat) (q : Nat) (h : q < n) : (pq n a b q)[q * 2]? = some (.int .i64 0) := by
  unfold pq
  rw [bl2_fst _ _ _ _ h, if_neg (by omega)]
  rfl
theorem pq_snd (n : Nat) (a b : Nat → Nat) (q : Nat) (h : q < n) : (pq n a b q)[q * 2 + 1]? = some (.int .i64 0) := by
  unfold pq
  rw [bl2_snd _ _ _ _ h, if_neg (by omega)]
  rfl
/-- The pairs of names. -/
def prs (L : List Nat) (k : Nat) : List Value := pq L.length (fun i => gt L i) (fun i => gt L (i + k)) L.length
set_option maxHeartbeats 4000000 in
theorem spairs_c (g0 : Nat) (L : List Nat) (k cap : Nat) (w : World) (hx : Cel w g0 (iv L) 3) (hl : L.length ≤ 8193) (hk : k ≤ 8192) :
    Calls Try.prog 27 #[.slice (some ⟨g0, 0, none⟩) L.length cap, .int .i64 (k : Nat)] w fun e w' => ∃ g, e = .returned (.slice (some ⟨g, 0, none⟩) L.length L.length) ∧ Cel w' g (prs L k) 59 ∧ w.heap.size ≤ g ∧ Below w.heap.size w w' := by
  obtain ⟨i0, hi, hz0, hz1, hz2⟩ := info_parts (show (Try.prog.info? 59).map (fun i => (i.zero, i.size, i.bytes)) = some (some (.agg #[.int .i64 0, .int .i64 0]), 2, 16) by kernel_rfl)
  obtain ⟨n, hn⟩ : ∃ n, Hid (n = L.length) := ⟨_, rfl⟩
  have HX := hide hx
  have hg0 := hx.lt
  clear hx
  rw [← hn.out] at hl ⊢
  have HP : Hid (prs L k = pq n (fun i => gt L i) (fun i => gt L (i + k)) n) := by
    show prs L k = _
    unfold prs
    rw [← hn.out]
  rw [HP.out]
  go_enter Try.func27, Try.ntmps27
  go_wp2_with (at_make; refine wpList_make_full _ rfl _ _ 54 rfl w.heap.size 59 i0 (.agg #[.int .i64 0, .int .i64 0]) 2 Try.underlying54 hi hz0 hz1 .i64 .i64 _ _ n rfl rfl rfl rfl ?b2 ?b3 ?b4 ?_)
  case b2 => rw [hz2]; omega
  case b3 => unfold maxLen; omega
  case b4 => simp
  intro w1 hown hgr
  have B1 := cel_made2 hown
  have hb1 : Below w.heap.size w w1 := (Below.refl _ _).grown hgr (Nat.le_refl _) (fun k h => by cases h)
  rw [← pq_zero n (fun i => gt L i) (fun i => gt L (i + k))] at B1
  have HL1 := hide B1
  have HB1 := hide hb1
  clear hown hgr hb1 hi hz0 hz1 hz2 B1
  obtain ⟨g1, hg1⟩ : ∃ g1, Hid (g1 = w.heap.size) := ⟨_, rfl⟩
  rw [← hg1.out] at HL1 ⊢
  have hgle : w.heap.size ≤ g1 := by have := hg1.out; omega
  have hne : g0 ≠ g1 := by omega
  go_wp2
  go_loopw [12] (fun vi wr => ∃ q : Nat, q ≤ n ∧ vi = .int .i64 q ∧ Hid (Cel wr g1 (pq n (fun i => gt L i) (fun i => gt L (i + k)) q) 59) ∧ Hid (Below w.heap.size w wr)) (fun vi _ => n - (intOf vi).toNat)
  case atStart => exact ⟨0, Nat.zero_le _, rfl, HL1, HB1⟩
  case round =>
    clear HL1 HB1
    obtain ⟨q, hq, rfl, HO, HB⟩ := hrel
    by_cases hlt : q < n
    · have hltz : (q : Int) < (n : Int) := by omega
      have HC := HX.out.keep HB.out hg0
      have e1 := HC.cell q (iv_get L q (by rw [← hn.out]; omega))
      have ST := hide (pq_step n (fun i => gt L i) (fun i => gt L (i + k)) q hlt)
      have n0 := HO.out.cell (q * 2) (pq_fst n _ _ q hlt)
      have n1 := HO.out.cell (q * 2 + 1) (pq_snd n _ _ q hlt)
      have f0 := HO.out.frozen (q * 2)
      have f1 := HO.out.frozen (q * 2 + 1)
      by_cases hk2 : q + k < n
      · have hk3 : (q : Int) + (k : Int) < (n : Int) := by omega
        obtain ⟨W, hW⟩ : ∃ W, W = (wr.setCell ⟨g1, q * 2, none⟩ (.int .i64 (gt L q : Nat))).setCell ⟨g1, q * 2 + 1, none⟩ (.int .i64 0) := ⟨_, rfl⟩
        have C2 : Hid (Cel W g1 (((pq n (fun i => gt L i) (fun i => gt L (i + k)) q).set (q * 2) (.int .i64 (gt L q : Nat))).set (q * 2 + 1) (.int .i64 0)) 59) := by
          rw [hW]
          exact (HO.out.set (q * 2) (.int .i64 (gt L q : Nat))).set (q * 2 + 1) (.int .i64 0)
        have D2 : Cel W g0 (iv L) 3 := by
          rw [hW]
          exact (HC.other (a := ⟨g1, q * 2, none⟩) hne _).other (a := ⟨g1, q * 2 + 1, none⟩) hne _
        have BW : Hid (Below w.heap.size w W) := by
          rw [hW]
          exact (HB.out.setCell (p := ⟨g1, q * 2, none⟩) hgle _).setCell (p := ⟨g1, q * 2 + 1, none⟩) hgle _
        have r1 := D2.cell (q + k) (iv_get L (q + k) (by rw [← hn.out]; omega))
        have r2 := C2.out.frozen (q * 2 + 1)
        have r3 : W.cell? ⟨g1, q * 2 + 1, none⟩ = some (.int .i64 0) := C2.out.cell (q * 2 + 1) (by
          rw [List.getElem?_set, if_pos rfl, List.length_set, show (pq n (fun i => gt L i) (fun i => gt L (i + k)) q).length = n * 2 from length_bl2 _ _ _, if_pos (by omega)])
        have C3 : Hid (Cel (W.setCell ⟨g1, q * 2 + 1, none⟩ (.int .i64 (gt L (q + k) : Nat))) g1 (pq n (fun i => gt L i) (fun i => gt L (i + k)) (q + 1)) 59) := by
          have := C2.out.set (q * 2 + 1) (.int .i64 (gt L (q + k) : Nat))
          rw [List.set_set, ST.out] at this
          exact this
        have B3 : Hid (Below w.heap.size w (W.setCell ⟨g1, q * 2 + 1, none⟩ (.int .i64 (gt L (q + k) : Nat)))) := BW.out.setCell (p := ⟨g1, q * 2 + 1, none⟩) hgle _
        have HW := hide hW
        clear ST C2 D2 BW hW HC
        generalize gt L q = x at *
        generalize gt L (q + k) = y at *
        go_wp2
        rw [← HW.out]
        clear e1 n0 n1 f0 f1 HW
        go_region
        go_wp2
        exact ⟨⟨q + 1, by omega, by go_num, C3.out.drew, below_drewN B3.out 1⟩, by simp only [intOf]; omega⟩
      · have hk3 : (n : Int) ≤ (q : Int) + (k : Int) := by omega
        have hz : gt L (q + k) = 0 := gt_out L _ (by rw [← hn.out]; omega)
        have C2 : Hid (Cel ((wr.setCell ⟨g1, q * 2, none⟩ (.int .i64 (gt L q : Nat))).setCell ⟨g1, q * 2 + 1, none⟩ (.int .i64 0)) g1 (pq n (fun i => gt L i) (fun i => gt L (i + k)) (q + 1)) 59) := by
          have := (HO.out.set (q * 2) (.int .i64 (gt L q : Nat))).set (q * 2 + 1) (.int .i64 (gt L (q + k) : Nat))
          rw [ST.out, hz] at this
          exact this
        have B2 : Hid (Below w.heap.size w ((wr.setCell ⟨g1, q * 2, none⟩ (.int .i64 (gt L q : Nat))).setCell ⟨g1, q * 2 + 1, none⟩ (.int .i64 0))) := (HB.out.setCell (p := ⟨g1, q * 2, none⟩) hgle _).setCell (p := ⟨g1, q * 2 + 1, none⟩) hgle _
        clear ST hz
        generalize gt L q = x at *
        go_wp2
        exact ⟨⟨q + 1, by omega, by go_num, C2, B2⟩, by simp only [intOf]; omega⟩
    · have hge : (n : Int) ≤ (q : Int) := by omega
      have hqn : Hid (q = n) := by have : q = n := by omega
                                   exact this
      go_wp2
      go_ret
      refine ⟨g1, rfl, ?_, hgle, HB.out⟩
      have := HO.out
      rwa [show pq n (fun i => gt L i) (fun i => gt L (i + k)) q = pq n (fun i => gt L i) (fun i => gt L (i + k)) n by rw [hqn.out]] at this
end Go.Proofs.Ytojjinjgmijgcaa
