/-
  Plain: how many codes there are of each length, the first of each length; whether lengths fit. Codes in memory (out of huff's template Ke). The contract of the document's Fits. The contract of the document's Codes. The document's things in memory; the contract of its least. An append to a row of the call's own, of whatever size its elements are; the contract of the document's without. Plain: what the document's Lengths keeps, round by round; rows that stay. The contract of the document's Lengths.
-/
import Derived.Test.YtcaalcjcpddhaaaGreatS05
import Derived.Deep.Cut
import Derived.Deep.DeepCutAuto
set_option linter.unusedVariables false
set_option linter.unusedSimpArgs false
set_option maxRecDepth 100000
namespace Go.Proofs.YtcaalcjcpddhaaaGreat.Zz.Ka
open Hr Ht Hp
theorem hlen_none (cnt : Nat → Nat) (c : Nat) (h : c ∉ used cnt 256) : hlen cnt 256 c = 0 := by
 unfold hlen
 by_cases g : (used cnt 256).length = 1
 ·rw [if_pos g, if_neg h]
 ·rw [if_neg g]
  refine run_out 256 256 _ _ c fun x hx hc => h ?_
  rw [← things_sy]
  exact List.mem_flatMap.2 ⟨x, hx, hc⟩
def cl (l : Nat → Nat) (L : Nat) : Nat → Nat
 | 0 => 0
 | q + 1 => cl l L q + (if 0 < l q ∧ l q = L then 1 else 0)
def fst (l : Nat → Nat) : Nat → Nat
 | 0 => 0
 | L + 1 => 2 * (fst l L + cl l L 256)
theorem cl_zero (l : Nat → Nat) (q : Nat) : cl l 0 q = 0 := by
 induction q with
 | zero => rfl
 | succ q ih => unfold cl; rw [ih, if_neg (by omega)]
theorem come_at (l : Nat → Nat) (L q k : Nat) (h : 0 < L) (hq : q ≤ k) : need l (come l L q) k = need l (come l L 0) k + cl l L q * 2 ^ (40 - L) := by
 induction q with
 | zero => unfold cl; rw [Nat.zero_mul]; rfl
 | succ q ih =>
  have e := ih (by omega)
  unfold cl
  by_cases c : l q = L
  ·subst c
   rw [come_one l q k h (by omega), e, if_pos ⟨h, rfl⟩, Nat.add_mul, Nat.one_mul]
   omega
  ·rw [come_same l L q k c, e, if_neg (fun x => c x.2)]
   rfl
theorem two_mul_comm (x y : Nat) : 2 * x * y = x * (y * 2) := by rw [Nat.mul_comm 2 x, Nat.mul_assoc, Nat.mul_comm 2 y]
theorem fst_need (l : Nat → Nat) : ∀ L, 0 < L → L ≤ 40 → fst l L * 2 ^ (40 - L) = need l (come l L 0) 256
 | 0, h, _ => absurd h (Nat.lt_irrefl _)
 | 1, _, _ => by
  rw [come_start]
  have e : fst l 1 = 0 := by
   show 2 * (0 + cl l 0 256) = 0
   rw [cl_zero]
  rw [e, Nat.zero_mul]
 | L + 2, _, h => by
  have ih := fst_need l (L + 1) (by omega) (by omega)
  rw [come_over, come_at l (L + 1) 256 256 (by omega) (Nat.le_refl _), ← ih]
  show 2 * (fst l (L + 1) + cl l (L + 1) 256) * 2 ^ (40 - (L + 2)) = _
  rw [show 40 - (L + 1) = (40 - (L + 2)) + 1 by omega, Nat.pow_succ, ← Nat.add_mul]
  exact two_mul_comm _ _
theorem code_is (l : Nat → Nat) (q : Nat) (h : 0 < l q) (h40 : l q ≤ 40) (hq : q < 256) : fst l (l q) + cl l (l q) q = code l 256 q := by
 have e := code_eq l 256 q h40
 have e1 := come_at l (l q) q 256 h (by omega)
 rw [come_ahead, e, ← fst_need l (l q) h h40, ← Nat.add_mul] at e1
 exact (Nat.mul_right_cancel (Nat.two_pow_pos _) e1).symm
theorem fst_le (l : Nat → Nat) (hs : need l (fun _ => true) 256 ≤ 2 ^ 40) (L : Nat) (h40 : L ≤ 40) : fst l L + cl l L 256 ≤ 2 ^ 40 := by
 by_cases c : L = 0
 ·subst c
  rw [cl_zero]
  unfold fst
  omega
 ·have e1 := come_at l L 256 256 (by omega) (Nat.le_refl _)
  rw [← fst_need l L (by omega) h40, ← Nat.add_mul] at e1
  have m := need_mono (l := l) (P := come l L 256) (Q := fun _ => true) (fun _ _ => rfl) 256
  have t := Nat.two_pow_pos (40 - L)
  have : (fst l L + cl l L 256) * 1 ≤ (fst l L + cl l L 256) * 2 ^ (40 - L) := Nat.mul_le_mul_left _ t
  omega
theorem cl_mono (l : Nat → Nat) (L : Nat) : ∀ {a b : Nat}, a ≤ b → cl l L a ≤ cl l L b := by
 intro a b h
 obtain ⟨k, rfl⟩ : ∃ k, b = a + k := ⟨b - a, by omega⟩
 clear h
 induction k with
 | zero => exact Nat.le_refl _
 | succ k ih => exact Nat.le_trans ih (by show _ ≤ cl l L (a + k) + _; omega)
theorem cl_le (l : Nat → Nat) (L q : Nat) : cl l L q ≤ q := by
 induction q with
 | zero => exact Nat.le_refl _
 | succ q ih => unfold cl; split <;> omega
theorem pow39 (L : Nat) (h : 0 < L) : 2 ^ (40 - L) ≤ 549755813888 := by
 have e : (2 : Nat) ^ 39 = 549755813888 := by decide
 rw [← e]
 exact Nat.pow_le_pow_right (by decide) (by omega)
theorem need_le (l : Nat → Nat) (k : Nat) : need l (fun _ => true) k ≤ k * 549755813888 := by
 induction k with
 | zero => exact Nat.zero_le _
 | succ k ih =>
  rw [Nat.add_mul, Nat.one_mul]
  unfold need
  refine Nat.add_le_add ih ?_
  split
  ·rename_i h
   exact pow39 (l k) h.1
  ·exact Nat.zero_le _
def fitb (l : Nat → Nat) : Bool := decide (need l (fun _ => true) 256 = 1099511627776) || (decide ((used l 256).length = 1) && decide (need l (fun _ => true) 256 = 549755813888)) || decide ((used l 256).length = 0)
theorem need_none (l : Nat → Nat) (k : Nat) (h : (used l k).length = 0) : need l (fun _ => true) k = 0 := by
 have h2 := List.eq_nil_of_length_eq_zero h
 have : ∀ c, c < k → l c = 0 := fun c hc => by
  refine Nat.eq_zero_of_not_pos fun hp => ?_
  have := mem_used.2 ⟨hc, hp⟩
  rw [h2] at this
  cases this
 clear h h2
 induction k with
 | zero => rfl
 | succ k ih =>
  unfold need
  rw [ih (fun c hc => this c (by omega)), if_neg (by rw [this k (by omega)]; omega)]
theorem fit_need {l : Nat → Nat} (h : fitb l = true) : need l (fun _ => true) 256 ≤ 2 ^ 40 := by
 unfold fitb at h
 simp only [Bool.or_eq_true, Bool.and_eq_true, decide_eq_true_eq] at h
 rcases h with (h | h) | h
 ·omega
 ·omega
 ·rw [need_none l 256 h]; omega
theorem used_more (l : Nat → Nat) (q : Nat) : (used l (q + 1)).length = (used l q).length + (if 0 < l q then 1 else 0) := by
 rw [Hv.used_succ, List.length_append]
 split <;> rfl
theorem hlen_fit (cnt : Nat → Nat) (hB : ∀ c, cnt c ≤ 1048576) : fitb (hlen cnt 256) = true ∧ (∀ c, hlen cnt 256 c ≤ 40) ∧ (∀ c, c < 256 → (0 < hlen cnt 256 c ↔ 0 < cnt c)) := by
 by_cases h2 : 2 ≤ (used cnt 256).length
 ·have F := fine cnt 256 (by omega) hB h2
  refine ⟨?_, fun c => ?_, fun c hc => ?_⟩
  ·unfold fitb
   rw [Hv.need_fine F]
   simp
  ·by_cases g : c ∈ used cnt 256
   ·exact (F.some c g).2
   ·rw [F.none c g]; omega
  ·constructor
   ·intro h
    refine Nat.pos_of_ne_zero fun e => ?_
    have := F.none c (fun g => by have := (mem_used.1 g).2; omega)
    omega
   ·intro h
    exact (F.some c (mem_used.2 ⟨hc, h⟩)).1
 ·have iff : ∀ c, c < 256 → (0 < hlen cnt 256 c ↔ 0 < cnt c) := fun c hc => by
   constructor
   ·intro h
    refine Nat.pos_of_ne_zero fun e => ?_
    have := hlen_none cnt c (fun g => by have := (mem_used.1 g).2; omega)
    omega
   ·intro h
    have hm := mem_used.2 ⟨hc, h⟩
    have := List.length_pos_of_mem hm
    unfold hlen
    rw [if_pos (by omega), if_pos hm]
    omega
  have le1 : ∀ c, hlen cnt 256 c ≤ 1 := fun c => by
   by_cases g : c ∈ used cnt 256
   ·have := List.length_pos_of_mem g
    unfold hlen
    rw [if_pos (by omega), if_pos g]
    omega
   ·rw [hlen_none cnt c g]; omega
  have ul : used (hlen cnt 256) 256 = used cnt 256 := by
   unfold used
   refine List.filter_congr fun c hc => ?_
   have := iff c (List.mem_range.1 hc)
   rw [decide_eq_decide]
   exact this
  refine ⟨?_, fun c => by have := le1 c; omega, iff⟩
  unfold fitb
  rw [ul]
  by_cases h0 : (used cnt 256).length = 0
  ·simp [h0]
  ·have h1 : (used cnt 256).length = 1 := by omega
   have nn : need (hlen cnt 256) (fun _ => true) 256 = 549755813888 := by
    rw [Hv.need_used cnt (hlen cnt 256) 256 iff]
    obtain ⟨c, hc⟩ : ∃ c, used cnt 256 = [c] := List.length_eq_one_iff.1 h1
    rw [hc]
    have hm : c ∈ used cnt 256 := by rw [hc]; simp
    have e1 : hlen cnt 256 c = 1 := by
     unfold hlen
     rw [if_pos h1, if_pos hm]
    simp [e1]
   simp [nn, h1]
end Go.Proofs.YtcaalcjcpddhaaaGreat.Zz.Ka
namespace Go.Proofs.YtcaalcjcpddhaaaGreat.Zz
open Go.RowKit Num Hp Ka Hr
def bl2 (n : Nat) (a b : Nat → Value) : List Value := (List.range (n * 2)).map fun j => if j % 2 = 0 then a (j / 2) else b (j / 2)
theorem length_bl2 (n : Nat) (a b : Nat → Value) : (bl2 n a b).length = n * 2 := by simp [bl2]
theorem bl2_get (n : Nat) (a b : Nat → Value) (j : Nat) (h : j < n * 2) : (bl2 n a b)[j]? = some (if j % 2 = 0 then a (j / 2) else b (j / 2)) := by
 unfold bl2
 rw [List.getElem?_map, List.getElem?_range h]
 rfl
theorem bl2_fst (n : Nat) (a b : Nat → Value) (i : Nat) (h : i < n) : (bl2 n a b)[i * 2]? = some (a i) := by
 rw [bl2_get n a b (i * 2) (by omega), if_pos (by omega), show i * 2 / 2 = i by omega]
theorem bl2_snd (n : Nat) (a b : Nat → Value) (i : Nat) (h : i < n) : (bl2 n a b)[i * 2 + 1]? = some (b i) := by
 rw [bl2_get n a b (i * 2 + 1) (by omega), if_neg (by omega), show (i * 2 + 1) / 2 = i by omega]
theorem bl2_set (n : Nat) (a b a' b' : Nat → Value) (i : Nat) (h : i < n) (ha : ∀ j, j ≠ i → a' j = a j) (hb : ∀ j, j ≠ i → b' j = b j) : ((bl2 n a b).set (i * 2) (a' i)).set (i * 2 + 1) (b' i) = bl2 n a' b' := by
 refine List.ext_getElem? fun j => ?_
 by_cases c : j < n * 2
 ·rw [bl2_get n a' b' j c, List.getElem?_set, List.getElem?_set]
  by_cases c1 : i * 2 + 1 = j
  ·subst c1
   rw [if_pos rfl, List.length_set, length_bl2, if_pos c, if_neg (by omega), show (i * 2 + 1) / 2 = i by omega]
  ·rw [if_neg c1]
   by_cases c2 : i * 2 = j
   ·subst c2
    rw [if_pos rfl, length_bl2, if_pos c, if_pos (by omega), show i * 2 / 2 = i by omega]
   ·rw [if_neg c2, bl2_get n a b j c, ha (j / 2) (by omega), hb (j / 2) (by omega)]
 ·rw [List.getElem?_eq_none (by rw [List.length_set, List.length_set, length_bl2]; omega), List.getElem?_eq_none (by rw [length_bl2]; omega)]
theorem bl2_made (n : Nat) (x y : Value) : (madeCells #[x, y] (n * 2)).toList = bl2 n (fun _ => x) (fun _ => y) := by
 unfold madeCells bl2
 rw [Array.toList_map, Array.toList_range]
 refine List.map_congr_left fun j _ => ?_
 show #[x, y][j % 2]! = _
 rcases Nat.mod_two_eq_zero_or_one j with e | e
 ·rw [e]; rfl
 ·rw [e]; rfl
def cod (v : Nat → Nat) (c : Nat) : Nat := if 0 < v c then code v 256 c else 0
def cds (v : Nat → Nat) : List Value := bl2 256 (fun c => .int .i64 (v c : Nat)) (fun c => .int .u64 (cod v c : Nat))
def CO (w : World) (v : Nat → Nat) (e : Ending) (w' : World) : Prop := ∃ g, e = .returned (.tuple #[.slice (some ⟨g, 0, none⟩) 256 256, .int .i64 0]) ∧ Cel w' g (cds v) 137 ∧ w.heap.size ≤ g ∧ Below w.heap.size w w'
theorem CO.mk {w : World} {v : Nat → Nat} {e : Ending} {w' : World} (g : Nat) (h1 : e = .returned (.tuple #[.slice (some ⟨g, 0, none⟩) 256 256, .int .i64 0])) (h2 : Cel w' g (cds v) 137) (h3 : w.heap.size ≤ g) (h4 : Below w.heap.size w w') : CO w v e w' := ⟨g, h1, h2, h3, h4⟩
def lok (l : List Int) : Bool := win l 40 && fitb (cntOf l)
end Go.Proofs.YtcaalcjcpddhaaaGreat.Zz
namespace Go.Proofs.YtcaalcjcpddhaaaGreat.Zz
open Go.RowKit Num Hp Ka Hr
structure FI (v : Nat → Nat) (q s c z : Nat) : Prop where
 ec : c = (used v q).length
 es : s = need v (fun _ => true) q
 one : c = 1 → s = 2 ^ (40 - z) ∧ 0 < z ∧ z ≤ 40
 no : c = 0 → s = 0
theorem FI.put {v : Nat → Nat} {q s c z : Nat} (h : FI v q s c z) (hp : 0 < v q) (h40 : v q ≤ 40) : FI v (q + 1) (s + 2 ^ (40 - v q)) (c + 1) (v q) := by
 refine ⟨by rw [used_more, if_pos hp, h.ec], ?_, fun e => ⟨?_, hp, h40⟩, fun e => by omega⟩
 ·rw [need, if_pos ⟨hp, rfl⟩, h.es]
 ·rw [h.no (by omega), Nat.zero_add]
end Go.Proofs.YtcaalcjcpddhaaaGreat.Zz
namespace Go.Proofs.YtcaalcjcpddhaaaGreat.Zz
open Go.RowKit Num Hp Ka Hr Ht
end Go.Proofs.YtcaalcjcpddhaaaGreat.Zz
namespace Go.Proofs.YtcaalcjcpddhaaaGreat.Zz
open Go.RowKit Num Hp
structure TB where
 t : Hn.Tg
 g : Nat
 cap : Nat
instance : Inhabited TB := ⟨⟨⟨0, 0, []⟩, 0, 0⟩⟩
def tbi (L : List TB) (i : Nat) : TB := L.getD i default
def TR (w : World) (g : Nat) (L : List TB) : Prop := g < w.heap.size ∧ ∀ i, i < L.length → w.cell? ⟨g, i * 3, none⟩ = some (.int .i64 ((tbi L i).t.id : Nat)) ∧ w.cell? ⟨g, i * 3 + 1, none⟩ = some (.int .i64 ((tbi L i).t.wt : Nat))
theorem TR.keep {w w' : World} {g : Nat} {L : List TB} (h : TR w g L) (hb : Below w.heap.size w w') : TR w' g L :=
 ⟨Nat.lt_of_lt_of_le h.1 hb.size, fun i hi => ⟨(hb.cell (p := ⟨g, i * 3, none⟩) h.1).trans (h.2 i hi).1, (hb.cell (p := ⟨g, i * 3 + 1, none⟩) h.1).trans (h.2 i hi).2⟩⟩
end Go.Proofs.YtcaalcjcpddhaaaGreat.Zz
namespace Go.Proofs.YtcaalcjcpddhaaaGreat.Zz
open Go.RowKit Num Hp
theorem owns_cells {w : World} {base e size g cap n : Nat} {vs : List Value} (h : w.ownsRow base e size (.slice (some ⟨g, 0, none⟩) n cap) n vs) : g < w.heap.size ∧ ∀ j u, vs[j]? = some u → w.cell? ⟨g, j, none⟩ = some u := by
 obtain ⟨h1, ⟨h, _⟩ | ⟨g', cap', cur, e1, e2, hh, r1, r2, r3, r4⟩⟩ := h
 ·cases h
 ·simp only [Value.slice.injEq, Option.some.injEq, Addr.mk.injEq] at e1
  obtain ⟨⟨rfl, _, _⟩, _, rfl⟩ := e1
  refine ⟨(Array.getElem?_eq_some_iff.1 hh).1, fun j u hu => ?_⟩
  rw [cell_of_row w g j cur e (0, 0) hh]
  rw [← r4] at hu
  have hj : j < n * size := by
   have := (List.getElem?_eq_some_iff.1 hu).1
   rw [List.length_take] at this
   omega
  rw [List.getElem?_take_of_lt hj] at hu
  simpa using hu
end Go.Proofs.YtcaalcjcpddhaaaGreat.Zz
namespace Go.Proofs.YtcaalcjcpddhaaaGreat.Zz
open Go.RowKit Num Hp Hn Ho
theorem owns_keep {w w' : World} {base e size n : Nat} {v : Value} {vs : List Value} (h : w.ownsRow base e size v n vs) (hb : Below w.heap.size w w') : w'.ownsRow base e size v n vs := by
 obtain ⟨h1, h2 | ⟨g, cap, cur, e1, e2, hh, r⟩⟩ := h
 ·exact ⟨h1, .inl h2⟩
 ·exact ⟨h1, .inr ⟨g, cap, cur, e1, e2, (hb.block g ((Array.getElem?_eq_some_iff.1 hh).1)).trans hh, r⟩⟩
theorem le_sum {l : List Nat} {x : Nat} (h : x ∈ l) : x ≤ l.sum := by
 induction l with
 | nil => cases h
 | cons y l ih =>
  rw [List.sum_cons]
  rcases List.mem_cons.1 h with rfl | h
  ·omega
  ·have := ih h; omega
end Go.Proofs.YtcaalcjcpddhaaaGreat.Zz
namespace Go.Proofs.YtcaalcjcpddhaaaGreat.Zz
open Go.RowKit Num Hp Hn Ho
end Go.Proofs.YtcaalcjcpddhaaaGreat.Zz
