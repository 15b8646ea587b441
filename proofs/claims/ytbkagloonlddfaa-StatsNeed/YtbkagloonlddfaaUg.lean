/-
  Plain: what the document's Lengths keeps, round by round; rows that stay.
-/
import Derived.Test.YtbkagloonlddfaaUf
import Derived.Test.YtbkagloonlddfaaUa
import Derived.Test.YtbkagloonlddfaaUz
namespace Go.Proofs.Ytbkagloonlddfaa
open Go.RowKit Num Hp Hn Ho
set_option linter.unusedVariables false
set_option linter.unusedSimpArgs false
set_option maxRecDepth 100000

theorem owns_keep {w w' : World} {base e size n : Nat} {v : Value} {vs : List Value} (h : w.ownsRow base e size v n vs) (hb : Below w.heap.size w w') : w'.ownsRow base e size v n vs := by
  obtain ⟨h1, h2 | ⟨g, cap, cur, e1, e2, hh, r⟩⟩ := h
  · exact ⟨h1, .inl h2⟩
  · exact ⟨h1, .inr ⟨g, cap, cur, e1, e2, (hb.block g ((Array.getElem?_eq_some_iff.1 hh).1)).trans hh, r⟩⟩
theorem owns_only {g base e size n : Nat} {w w' : World} {v : Value} {vs : List Value} (h : Only g w w') (ho : w.ownsRow base e size v n vs) (hg : g < base) : w'.ownsRow base e size v n vs := by
  obtain ⟨h1, h2 | ⟨k, cap, cur, e1, e2, hh, r⟩⟩ := ho
  · exact ⟨h1, .inl h2⟩
  · exact ⟨h1, .inr ⟨k, cap, cur, e1, e2, (h.block k (by omega)).trans hh, r⟩⟩
theorem owns_low {w : World} {base b2 e size n : Nat} {v : Value} {vs : List Value} (h : w.ownsRow base e size v n vs) (hb : b2 ≤ base) : w.ownsRow b2 e size v n vs := by
  obtain ⟨h1, h2 | ⟨g, cap, cur, e1, e2, r⟩⟩ := h
  · exact ⟨h1, .inl h2⟩
  · exact ⟨h1, .inr ⟨g, cap, cur, e1, by omega, r⟩⟩
/-- A row of other elements stays where this one grows. -/
theorem owns_grow {w w' : World} {base e size n b2 e2 size2 n2 : Nat} {v u : Value} {vs us : List Value} (h : w.ownsRow base e size v n vs) (hu : w.ownsRow b2 e2 size2 u n2 us) (hne : e ≠ e2)
    (hk : ∀ k, k < w.heap.size → u.ownBlock ≠ some k → w'.heap[k]? = w.heap[k]?) : w'.ownsRow base e size v n vs := by
  obtain ⟨h1, h2 | ⟨g, cap, cur, e1, e3, hh, r⟩⟩ := h
  · exact ⟨h1, .inl h2⟩
  · refine ⟨h1, .inr ⟨g, cap, cur, e1, e3, (hk g (Array.getElem?_eq_some_iff.1 hh).1 ?_).trans hh, r⟩⟩
    obtain ⟨_, ⟨rfl, _⟩ | ⟨g2, cap2, cur2, rfl, _, hh2, _⟩⟩ := hu
    · intro q; cases q
    · intro q
      simp only [Value.ownBlock, Option.some.injEq] at q
      subst q
      rw [hh] at hh2
      simp only [Option.some.injEq, Obj.cells.injEq] at hh2
      exact hne hh2.2.1
/-- What the document's things are like. -/
structure TI (T : List Tg) (n : Nat) : Prop where
  wt : (T.map Tg.wt).sum ≤ 268435456
  sl : (T.map fun x => x.sy.length).sum ≤ 256
  sm : ∀ x ∈ T, ∀ c ∈ x.sy, c < 256
  ne : ∀ x ∈ T, 0 < x.sy.length
  ids : n + T.length ≤ 512
theorem sum_perm {l m : List Nat} (h : l.Perm m) : l.sum = m.sum := by
  induction h with
  | nil => rfl
  | cons x _ ih => simp [ih]
  | swap x y l => simp; omega
  | trans _ _ h1 h2 => exact h1.trans h2
theorem le_sum {l : List Nat} {x : Nat} (h : x ∈ l) : x ≤ l.sum := by
  induction l with
  | nil => cases h
  | cons y l ih =>
    rw [List.sum_cons]
    rcases List.mem_cons.1 h with rfl | h
    · omega
    · have := ih h; omega
theorem TI.two {T : List Tg} {n : Nat} (h : TI T n) (h2 : 2 ≤ T.length) : (fstT T).wt + (sndT T).wt ≤ 268435456 ∧ (fstT T).sy.length + (sndT T).sy.length ≤ 256 ∧ (∀ c ∈ (fstT T).sy ++ (sndT T).sy, c < 256) ∧ 0 < (fstT T).sy.length ∧ 0 < (sndT T).sy.length := by
  obtain ⟨p, _, _⟩ := parts h2
  have a := sum_perm (p.map Tg.wt)
  have b := sum_perm (p.map fun x => x.sy.length)
  simp only [List.map_cons, List.sum_cons] at a b
  have := h.wt
  have := h.sl
  have m1 : fstT T ∈ T := p.subset (by simp)
  have m2 : sndT T ∈ T := p.subset (by simp)
  refine ⟨by omega, by omega, fun c hc => ?_, h.ne _ m1, h.ne _ m2⟩
  rcases List.mem_append.1 hc with hc | hc
  · exact h.sm _ m1 c hc
  · exact h.sm _ m2 c hc
theorem TI.next {T : List Tg} {n : Nat} (h : TI T n) (h2 : 2 ≤ T.length) : TI (Ho.next n T) (n + 1) := by
  obtain ⟨p, _, _⟩ := parts h2
  have a := sum_perm (p.map Tg.wt)
  have b := sum_perm (p.map fun x => x.sy.length)
  simp only [List.map_cons, List.sum_cons] at a b
  have h3 := h.wt
  have h4 := h.sl
  obtain ⟨_, _, hs, g1, g2⟩ := h.two h2
  refine ⟨?_, ?_, ?_, ?_, by rw [next_len n h2]; have := h.ids; omega⟩
  · unfold Ho.next joint
    rw [List.map_append, List.sum_append]
    simp
    omega
  · unfold Ho.next joint
    rw [List.map_append, List.sum_append]
    simp
    omega
  · intro x hx
    unfold Ho.next at hx
    rcases List.mem_append.1 hx with hx | hx
    · exact h.sm x (p.subset (by simp [hx]))
    · obtain rfl := List.mem_singleton.1 hx
      exact hs
  · intro x hx
    unfold Ho.next at hx
    rcases List.mem_append.1 hx with hx | hx
    · exact h.ne x (p.subset (by simp [hx]))
    · obtain rfl := List.mem_singleton.1 hx
      show 0 < (_ ++ _ : List Nat).length
      rw [List.length_append]
      omega
theorem run_step {n : Nat} {T : List Tg} {d : Nat → Nat} (h2 : 2 ≤ T.length) (hn : n < 512) : run (512 - n) n T d = run (512 - (n + 1)) (n + 1) (next n T) (bump d ((fstT T).sy ++ (sndT T).sy)) := by
  rw [show 512 - n = (512 - (n + 1)) + 1 by omega, run, if_neg (by omega)]
theorem run_over {f n : Nat} {T : List Tg} {d : Nat → Nat} (h : T.length ≤ 1) : run f n T d = d := by
  cases f with
  | zero => rfl
  | succ f => rw [run, if_pos h]
/-- Lengths as they stand. -/
def dls (d : Nat → Nat) : List Nat := (List.range 256).map d
theorem length_dls (d : Nat → Nat) : (dls d).length = 256 := by simp [dls]
theorem dls_at (d : Nat → Nat) (c : Nat) (h : c < 256) : (dls d).getD c 0 = d c := by
  unfold dls
  rw [List.getD_eq_getElem?_getD, List.getElem?_map, List.getElem?_range h]
  rfl
theorem dls_set (d e : Nat → Nat) (c : Nat) (h : c < 256) (he : ∀ x, x < 256 → e x = if x = c then e c else d x) : (dls d).set c (e c) = dls e := by
  refine List.ext_getElem? fun j => ?_
  by_cases hj : j < 256
  · rw [List.getElem?_set]
    have e1 : (dls e)[j]? = some (e j) := by unfold dls; rw [List.getElem?_map, List.getElem?_range hj]; rfl
    have e2 : (dls d)[j]? = some (d j) := by unfold dls; rw [List.getElem?_map, List.getElem?_range hj]; rfl
    by_cases k : c = j
    · subst k
      rw [if_pos rfl, if_pos (by rw [length_dls]; exact hj), e1]
    · rw [if_neg k, e2, e1, he j hj, if_neg (fun q => k q.symm)]
  · rw [List.getElem?_eq_none (by rw [List.length_set, length_dls]; omega), List.getElem?_eq_none (by rw [length_dls]; omega)]
theorem dls_zero : dls (fun _ => 0) = List.replicate 256 0 := by
  unfold dls
  rw [List.map_const', List.length_range]
/-- One symbol more. -/
theorem bump_step (d : Nat → Nat) (s : List Nat) (k : Nat) (hk : k < s.length) (hs : s.getD k 0 < 256) : (dls (bump d (s.take k))).set (s.getD k 0) (bump d (s.take k) (s.getD k 0) + 1) = dls (bump d (s.take (k + 1))) := by
  have e : s.take (k + 1) = s.take k ++ [s.getD k 0] := by
    rw [List.take_add_one, List.getD_eq_getElem?_getD, List.getElem?_eq_getElem hk]
    rfl
  have e2 : bump d (s.take (k + 1)) (s.getD k 0) = bump d (s.take k) (s.getD k 0) + 1 := by
    unfold bump
    rw [e, List.count_append, List.count_singleton_self]
    omega
  rw [← e2]
  refine dls_set _ _ _ hs fun x _ => ?_
  by_cases k1 : x = s.getD k 0
  · rw [if_pos k1, k1]
  · rw [if_neg k1]
    unfold bump
    rw [e, List.count_append, List.count_cons_of_ne (fun q => k1 q.symm), List.count_nil, Nat.add_zero]
theorem bump_nil (d : Nat → Nat) : bump d [] = d := by funext c; unfold bump; simp
theorem bump_le (d : Nat → Nat) (s : List Nat) (c : Nat) : bump d s c ≤ d c + s.length := by
  unfold bump
  have := List.count_le_length (a := c) (l := s)
  omega
/-- What stands in memory. -/
structure LI (w wr : World) (go : Nat) (v : Value) (L : List TB) (d : Nat → Nat) : Prop where
  row : wr.ownsRow (go + 1) 48 3 v L.length (tbs L)
  out : Cel wr go (ivh (dls d)) 3
  sy : ∀ x ∈ L, wr.ownsRow (go + 1) 3 1 (.slice (some ⟨x.g, 0, none⟩) x.t.sy.length x.cap) x.t.sy.length (ivh x.t.sy)
  lt : w.heap.size ≤ go
  bw : Below w.heap.size w wr
theorem LI.keep {w wr wx : World} {go : Nat} {v : Value} {L : List TB} {d : Nat → Nat} (h : LI w wr go v L d) (hb : Below wr.heap.size wr wx) : LI w wx go v L d :=
  ⟨owns_keep h.row hb, h.out.kept hb, fun x hx => owns_keep (h.sy x hx) hb, h.lt, h.bw.trans (hb.mono h.bw.size)⟩
theorem owns_slice {w : World} {base e size n : Nat} {v : Value} {vs : List Value} (h : w.ownsRow base e size v n vs) (h0 : 0 < n) : ∃ g cap, v = .slice (some ⟨g, 0, none⟩) n cap := by
  obtain ⟨h1, ⟨rfl, rfl⟩ | ⟨g, cap, cur, rfl, _⟩⟩ := h
  · omega
  · exact ⟨g, cap, rfl⟩
/-- A thing more. -/
theorem LI.more {w wr w1 w2 : World} {go : Nat} {v v2 : Value} {L : List TB} {d : Nat → Nat} (h : LI w wr go v L d) (x : TB) (hb : Below wr.heap.size wr w1)
    (hx : w1.ownsRow (go + 1) 3 1 (.slice (some ⟨x.g, 0, none⟩) x.t.sy.length x.cap) x.t.sy.length (ivh x.t.sy))
    (ho : w2.ownsRow (go + 1) 48 3 v2 (L.length + 1) (tbs L ++ tbc x)) (hk : ∀ k, k < w1.heap.size → v.ownBlock ≠ some k → w2.heap[k]? = w1.heap[k]?) (hb2 : Below (go + 1) w1 w2) : LI w w2 go v2 (L ++ [x]) d := by
  have r := owns_keep h.row hb
  have e : tbs (L ++ [x]) = tbs L ++ tbc x := by rw [tbs_append]; unfold tbs; simp
  refine ⟨by rw [e, List.length_append]; exact ho, (h.out.kept hb).keep hb2 (by omega), fun y hy => ?_, h.lt, (h.bw.trans (hb.mono h.bw.size)).trans (hb2.mono (by have := h.lt; omega))⟩
  rcases List.mem_append.1 hy with hy | hy
  · exact owns_grow (owns_keep (h.sy y hy) hb) r (by decide) hk
  · obtain rfl := List.mem_singleton.1 hy
    exact owns_grow hx r (by decide) hk
end Go.Proofs.Ytbkagloonlddfaa
