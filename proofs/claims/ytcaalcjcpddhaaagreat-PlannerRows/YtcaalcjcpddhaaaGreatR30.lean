/-
  An append to a row of the call's own, of whatever size its elements are; the contract of the document's without. Plain: what the document's Lengths keeps, round by round; rows that stay. The contract of the document's Lengths. The lengths of counts may be, and what their codes are. Plain: configurations, which may be, all of them, what they are called. The contracts of the document's samples, logs, in and Check. The contract of the document's Check. An append to a row of the call's own, of elements of whatever size: where the new row lies, and what stays. The contract of the document's All. All, as a row; the contract of the document's Number.
-/
import Derived.Test.YtcaalcjcpddhaaaGreatR29
import Derived.Test.YtcaalcjcpddhaaaGreatR28
import Derived.Test.YtcaalcjcpddhaaaGreatR26
import Derived.Deep.WholeRow
import Derived.Deep.Cut
import Derived.Deep.DeepCutAuto
import Derived.Deep.QuietTactic
import Derived.BigQuiet
import Derived.Test.YtcaalcjcpddhaaaGreatR25
import Derived.Laws.StructEq
namespace Go.Proofs.YtcaalcjcpddhaaaGreat.Zz
open Go.RowKit Num Hp
set_option linter.unusedVariables false
set_option linter.unusedSimpArgs false
set_option maxRecDepth 100000

theorem owns_cells {w : World} {base e size g cap n : Nat} {vs : List Value} (h : w.ownsRow base e size (.slice (some ⟨g, 0, none⟩) n cap) n vs) : g < w.heap.size ∧ ∀ j u, vs[j]? = some u → w.cell? ⟨g, j, none⟩ = some u := by
 obtain ⟨h1, ⟨h, _⟩ | ⟨g', cap', cur, e1, e2, hh, r1, r2, r3, r4⟩⟩ := h
 ·cases h
 ·simp only [Value.slice.injEq, Option.some.injEq, Addr.mk.injEq] at e1
  obtain ⟨⟨rfl, _, _⟩, _, rfl⟩ := e1
  refine ⟨(Array.getElem?_eq_some_iff.1 hh).1, fun j u hu => ?_⟩
  rw [cell_of_row w g j cur e (0, 0) hh]
  rw [← r4] at hu
  have hj : j < n * size := by
   have := (List.getElem?_eq_some_iff.1 hu).1
   rw [List.length_take] at this
   omega
  rw [List.getElem?_take_of_lt hj] at hu
  simpa using hu
end Go.Proofs.YtcaalcjcpddhaaaGreat.Zz

namespace Go.Proofs.YtcaalcjcpddhaaaGreat.Zz
open Go.RowKit Num Hp Hn Ho
set_option linter.unusedVariables false
set_option linter.unusedSimpArgs false
set_option maxRecDepth 100000

theorem owns_keep {w w' : World} {base e size n : Nat} {v : Value} {vs : List Value} (h : w.ownsRow base e size v n vs) (hb : Below w.heap.size w w') : w'.ownsRow base e size v n vs := by
 obtain ⟨h1, h2 | ⟨g, cap, cur, e1, e2, hh, r⟩⟩ := h
 ·exact ⟨h1, .inl h2⟩
 ·exact ⟨h1, .inr ⟨g, cap, cur, e1, e2, (hb.block g ((Array.getElem?_eq_some_iff.1 hh).1)).trans hh, r⟩⟩
structure TI (T : List Tg) (n : Nat) : Prop where
 wt : (T.map Tg.wt).sum ≤ 268435456
 sl : (T.map fun x => x.sy.length).sum ≤ 256
 sm : ∀ x ∈ T, ∀ c ∈ x.sy, c < 256
 ne : ∀ x ∈ T, 0 < x.sy.length
 ids : n + T.length ≤ 512
theorem le_sum {l : List Nat} {x : Nat} (h : x ∈ l) : x ≤ l.sum := by
 induction l with
 | nil => cases h
 | cons y l ih =>
  rw [List.sum_cons]
  rcases List.mem_cons.1 h with rfl | h
  ·omega
  ·have := ih h; omega
end Go.Proofs.YtcaalcjcpddhaaaGreat.Zz

namespace Go.Proofs.YtcaalcjcpddhaaaGreat.Zz
open Go.RowKit Num Hp Hn Ho
set_option linter.unusedVariables false
set_option linter.unusedSimpArgs false
set_option maxRecDepth 100000

end Go.Proofs.YtcaalcjcpddhaaaGreat.Zz

namespace Go.Proofs.YtcaalcjcpddhaaaGreat.Zz
open Go.RowKit Num Hp Ka Hr
set_option linter.unusedVariables false
set_option linter.unusedSimpArgs false
set_option maxRecDepth 100000

def lst (v : Nat → Nat) : List Int := (List.range 256).map fun c => (v c : Int)
theorem length_lst (v : Nat → Nat) : (lst v).length = 256 := by simp [lst]
theorem gi_lst (v : Nat → Nat) (c : Nat) (h : c < 256) : gi (lst v) c = (v c : Int) := by
 unfold gi lst
 rw [List.getD_eq_getElem?_getD, List.getElem?_map, List.getElem?_range h]
 rfl
structure Lok (v : Nat → Nat) : Prop where
 le : ∀ c, v c ≤ 40
 out : ∀ c, 256 ≤ c → v c = 0
 fit : fitb v = true
theorem cnt_lst {v : Nat → Nat} (h : ∀ c, 256 ≤ c → v c = 0) : cntOf (lst v) = v := by
 funext c
 unfold cntOf
 by_cases g : c < 256
 ·rw [gi_lst v c g, Int.toNat_natCast]
 ·have : gi (lst v) c = 0 := by unfold gi; rw [List.getD_eq_getElem?_getD, List.getElem?_eq_none (by rw [length_lst]; omega)]; rfl
  rw [this, h c (by omega)]
  rfl
theorem win_of {l : List Int} {top : Int} (h1 : l.length = 256) (h2 : ∀ i, i < l.length → 0 ≤ gi l i ∧ gi l i ≤ top) : win l top = true := by
 unfold win
 have : l.any (bad top) = false := any_false fun i hi => by
  have := h2 i hi
  unfold bad
  simp
  omega
 rw [this]
 simp [h1]
theorem lok_lst {v : Nat → Nat} (h : Lok v) : lok (lst v) = true := by
 unfold lok
 rw [win_of (length_lst v) (fun i hi => by rw [length_lst] at hi; rw [gi_lst v i hi]; have := h.le i; omega), cnt_lst h.out, h.fit]
 rfl
theorem lok_hlen (l : List Int) (h : win l 1048576 = true) : Lok (hlen (cntOf l) 256) := by
 obtain ⟨h1, h2⟩ := win_len h
 obtain ⟨f1, f2, _⟩ := hlen_fit (cntOf l) (cntI_le h2)
 exact ⟨f2, fun c hc => hlen_none _ c (fun g => by have := (mem_used.1 g).1; omega), f1⟩
theorem nd_hls {w : World} {g : Nat} {l : List Int} (h : Cel w g (ivh (hls l)) 3) : Nd w (some ⟨g, 0, none⟩) (lst (hlen (cntOf l) 256)) := by
 intro _
 refine ⟨g, 0, rfl, h.lt, fun i hi => ?_⟩
 rw [length_lst] at hi
 rw [Nat.zero_add, gi_lst _ _ hi, h.cell i (ivh_get _ i (by simp [hls]; omega))]
 unfold hls
 rw [List.getD_eq_getElem?_getD, List.getElem?_map, List.getElem?_range hi]
 rfl
theorem lok_v {l : List Int} (h : lok l = true) : (∀ c, cntOf l c ≤ 40) ∧ ∀ c, cod (cntOf l) c < 2 ^ cntOf l c := by
 unfold lok at h
 rw [Bool.and_eq_true] at h
 obtain ⟨hw, hf⟩ := h
 obtain ⟨h1, h2⟩ := win_len hw
 have hv : ∀ c, cntOf l c ≤ 40 := fun c => by
  unfold cntOf
  by_cases hc : c < l.length
  ·have := h2 c hc; omega
  ·unfold gi
   rw [List.getD_eq_getElem?_getD, List.getElem?_eq_none (by omega)]
   decide
 refine ⟨hv, fun c => ?_⟩
 unfold cod
 by_cases h0 : 0 < cntOf l c
 ·rw [if_pos h0]
  have hc : c < 256 := by
   by_cases hc : c < l.length
   ·omega
   ·unfold cntOf gi at h0
    rw [List.getD_eq_getElem?_getD, List.getElem?_eq_none (by omega)] at h0
    simp at h0
  exact Hr.code_lt _ _ h0 (hv c) hc (Ka.fit_need hf)
 ·rw [if_neg h0]
  exact Nat.two_pow_pos _
theorem win_more {l : List Int} (h : win l 8192 = true) : win l 1048576 = true := by
 obtain ⟨h1, h2⟩ := win_len h
 exact win_of h1 fun i hi => by have := h2 i hi; omega
end Go.Proofs.YtcaalcjcpddhaaaGreat.Zz

namespace Go.Proofs.YtcaalcjcpddhaaaGreat.Zz
set_option linter.unusedVariables false

namespace Co
abbrev Cf := Nat × Nat × Nat × Nat × Nat
def sam : List Nat := [1, 2, 4, 8, 16, 32, 64]
def lgs : List Nat := [4, 6, 8, 10, 12]
def inB (l : List Nat) (n : Nat) : Bool := l.any fun x => Nat.beq x n
def ok (c : Cf) : Bool := Nat.ble 1 c.1 && (Nat.ble c.1 4 && (Nat.ble 1 c.2.2.2.1 && (Nat.ble c.2.2.2.1 3 && (inB sam c.2.2.2.2 && bif Nat.beq c.1 4 then Nat.ble 1 c.2.1 && (Nat.ble c.2.1 3 && inB lgs c.2.2.1) else Nat.beq c.2.1 0 && Nat.beq c.2.2.1 0))))
def cat (t : Nat) : Cf := (t / 9984 + 1, t / 2496 % 4, t / 192 % 13, t / 64 % 3 + 1, t % 64 + 1)
def fr : Nat → Nat → List Cf
 | t, 0 => []
 | t, n + 1 => bif ok (cat t) then cat t :: fr (t + 1) n else fr (t + 1) n
def all : List Cf := ([(1, 0, 0), (2, 0, 0), (3, 0, 0)] ++ [1, 2, 3].flatMap fun i => lgs.map fun l => (4, i, l)).flatMap fun (s, i, l) => [1, 2, 3].flatMap fun k => sam.map fun m => (s, i, l, k, m)
theorem all_len : all.length = 378 := by decide +kernel
end Co
end Go.Proofs.YtcaalcjcpddhaaaGreat.Zz

namespace Go.Proofs.YtcaalcjcpddhaaaGreat.Zz
open Go.RowKit
set_option linter.unusedVariables false
set_option linter.unusedSimpArgs false
set_option maxRecDepth 100000

namespace Co
abbrev Zf := Int × Int × Int × Int × Int
def cv (z : Zf) : List Value := [.int .i64 z.1, .int .i64 z.2.1, .int .i64 z.2.2.1, .int .i64 z.2.2.2.1, .int .i64 z.2.2.2.2]
def inZ (l : List Nat) (n : Int) : Bool := decide (n ∈ toI l)
def okZ (z : Zf) : Bool := decide (1 ≤ z.1) && (decide (z.1 ≤ 4) && (decide (1 ≤ z.2.2.2.1) && (decide (z.2.2.2.1 ≤ 3) && (inZ sam z.2.2.2.2 && bif decide (z.1 = 4) then decide (1 ≤ z.2.1) && (decide (z.2.1 ≤ 3) && inZ lgs z.2.2.1) else decide (z.2.1 = 0) && decide (z.2.2.1 = 0)))))
end Co
end Go.Proofs.YtcaalcjcpddhaaaGreat.Zz

namespace Go.Proofs.YtcaalcjcpddhaaaGreat.Zz
open Go.RowKit
set_option linter.unusedVariables false
set_option linter.unusedSimpArgs false
set_option maxRecDepth 100000

end Go.Proofs.YtcaalcjcpddhaaaGreat.Zz

namespace Go.Proofs.YtcaalcjcpddhaaaGreat.Zz
open Go.RowKit Go.Deep
set_option linter.unusedVariables false
set_option maxRecDepth 100000
namespace Ag

theorem wp_append {o : Oper} {a : Act} {w : World} {K : Act → World → Prop} {Q : Exit → Act → World → Prop} (s x : Operand) (t : TypeId)
  (ho : o.op = .call { callee := .builtin .append, args := #[s, x], argTypes := #[t, t] })
  (base : Nat) (e : TypeId) (i : TypeInfo) (z : Value) (size bytes : Nat) (ht : Tryz.prog.underlying t = some (.slice e)) (hi : Tryz.prog.info? e = some i) (hz : i.zero = some z)
  (hsize : i.size = size) (hby : i.bytes = bytes) (hzs : z.cells.size = size) (hsz : 0 < size)
  (v : Value) (n : Nat) (vs : List Value) (hs : a.eval s = v) (hown : w.ownsRow base e size v n vs)
  (ad : Addr) (m c : Nat) (news : List Value) (hx : a.eval x = .slice (some ad) m c) (hl : news.length = m * size) (hm : 0 < m) (hsrc : ∀ j u, news[j]? = some u → w.cell? (ad.add j) = some u) (h1 : ∀ u ∈ news, u.oneCell' = true)
  (h63 : n + m ≤ maxLen) (hbytes : (n + m) * bytes ≤ 140737488355328) (hbase : base ≤ w.heap.size)
  (h : ∀ g cap w', w'.ownsRow base e size (.slice (some ⟨g, 0, none⟩) (n + m) cap) (n + m) (vs ++ news) → Below base w w' → (v.ownBlock = some g ∨ g = w.heap.size) → g < w'.heap.size → (∀ k, k < w.heap.size → v.ownBlock ≠ some k → w'.heap[k]? = w.heap[k]?) → w.heap.size ≤ w'.heap.size → K (a.put o.dst (.slice (some ⟨g, 0, none⟩) (n + m) cap)) w') :
  Oper.wp Tryz.prog o a w K Q := by
 refine wp_append_lies w s x t ho base e i z size bytes ht hi hz hsize hby hzs hsz v n vs hs hown ad m c news hx hl hsrc h1 hm h63 hbytes hbase w.heap.size rfl ?_
 intro g cap w' o1 o2 o3 o4
 refine h g cap w' o1 ?_ o3 o4 ?_ o2.size
 ·exact (Below.refl _ _).grown o2 hbase (fun k hk => (hown.lt k hk).1)
 ·intro k hk hne
  exact o2.block k hk (fun q => hne q.symm)
theorem wpList_append {ops : Array Oper} {rest : List Oper} {o : Oper} {a : Act} {w : World} {Q : Exit → Act → World → Prop} (hgd : o.guard = none) (s x : Operand) (t : TypeId)
  (ho : o.op = .call { callee := .builtin .append, args := #[s, x], argTypes := #[t, t] })
  (base : Nat) (e : TypeId) (i : TypeInfo) (z : Value) (size bytes : Nat) (ht : Tryz.prog.underlying t = some (.slice e)) (hi : Tryz.prog.info? e = some i) (hz : i.zero = some z)
  (hsize : i.size = size) (hby : i.bytes = bytes) (hzs : z.cells.size = size) (hsz : 0 < size)
  (v : Value) (n : Nat) (vs : List Value) (hs : a.eval s = v) (hown : w.ownsRow base e size v n vs)
  (ad : Addr) (m c : Nat) (news : List Value) (hx : a.eval x = .slice (some ad) m c) (hl : news.length = m * size) (hm : 0 < m) (hsrc : ∀ j u, news[j]? = some u → w.cell? (ad.add j) = some u) (h1 : ∀ u ∈ news, u.oneCell' = true)
  (h63 : n + m ≤ maxLen) (hbytes : (n + m) * bytes ≤ 140737488355328) (hbase : base ≤ w.heap.size)
  (h : ∀ g cap w', w'.ownsRow base e size (.slice (some ⟨g, 0, none⟩) (n + m) cap) (n + m) (vs ++ news) → Below base w w' → (v.ownBlock = some g ∨ g = w.heap.size) → g < w'.heap.size → (∀ k, k < w.heap.size → v.ownBlock ≠ some k → w'.heap[k]? = w.heap[k]?) → w.heap.size ≤ w'.heap.size → wpList Tryz.prog ops Q rest (a.put o.dst (.slice (some ⟨g, 0, none⟩) (n + m) cap)) w') :
  wpList Tryz.prog ops Q (o :: rest) a w :=
 wpList_plain hgd fun K hK => wp_append s x t ho base e i z size bytes ht hi hz hsize hby hzs hsz v n vs hs hown ad m c news hx hl hm hsrc h1 h63 hbytes hbase fun g cap w' a1 a2 a3 a4 a5 a6 => hK _ _ (h g cap w' a1 a2 a3 a4 a5 a6)
theorem owns_of {w w' : World} {base e size n : Nat} {v : Value} {vs : List Value} (h : w.ownsRow base e size v n vs) (hb : ∀ k, v.ownBlock = some k → w'.heap[k]? = w.heap[k]?) : w'.ownsRow base e size v n vs := by
 obtain ⟨h1, h | ⟨g, cap, cur, rfl, a1, a2, a3⟩⟩ := h
 ·exact ⟨h1, .inl h⟩
 ·exact ⟨h1, .inr ⟨g, cap, cur, rfl, a1, (hb g rfl).trans a2, a3⟩⟩
theorem owns_keep {w w' : World} {base e size n : Nat} {v : Value} {vs : List Value} (h : w.ownsRow base e size v n vs) (hb : Below w.heap.size w w') : w'.ownsRow base e size v n vs := owns_of h fun k hk => hb.block k (h.lt k hk).2
theorem owns_cells {w : World} {base e size n g cap : Nat} {vs : List Value} (h : w.ownsRow base e size (.slice (some ⟨g, 0, none⟩) n cap) n vs) : g < w.heap.size ∧ ∀ j u, vs[j]? = some u → w.cell? ⟨g, j, none⟩ = some u := by
 obtain ⟨h1, ⟨h, _⟩ | ⟨g', cap', cur, e1, e2, hh, r1, r2, r3, r4⟩⟩ := h
 ·cases h
 ·simp only [Value.slice.injEq, Option.some.injEq, Addr.mk.injEq] at e1
  obtain ⟨⟨rfl, _, _⟩, _, rfl⟩ := e1
  refine ⟨(Array.getElem?_eq_some_iff.1 hh).1, fun j u hu => ?_⟩
  unfold World.cell?
  rw [show w.heap[({ block := g, off := j, spot := none } : Addr).block]? = _ from hh]
  rw [← r4] at hu
  have hj : j < n * size := by
   have := (List.getElem?_eq_some_iff.1 hu).1
   rw [List.length_take] at this
   omega
  rw [List.getElem?_take_of_lt hj] at hu
  simpa using hu
theorem owns_frozen {w : World} {base e size n g cap : Nat} {vs : List Value} (h : w.ownsRow base e size (.slice (some ⟨g, 0, none⟩) n cap) n vs) (j : Nat) : w.frozen? ⟨g, j, none⟩ = false := by
 obtain ⟨h1, ⟨h, _⟩ | ⟨g', cap', cur, e1, e2, hh, r1, r2, r3, r4⟩⟩ := h
 ·cases h
 ·simp only [Value.slice.injEq, Option.some.injEq, Addr.mk.injEq] at e1
  obtain ⟨⟨rfl, _, _⟩, _, rfl⟩ := e1
  unfold World.frozen?
  rw [show w.heap[({ block := g, off := j, spot := none } : Addr).block]? = _ from hh]
  simp
end Ag
end Go.Proofs.YtcaalcjcpddhaaaGreat.Zz

namespace Go.Proofs.YtcaalcjcpddhaaaGreat.Zz
open Go.RowKit
set_option linter.unusedVariables false
set_option linter.unusedSimpArgs false
set_option maxRecDepth 100000

namespace Co
def toZ (c : Cf) : Zf := ((c.1 : Int), (c.2.1 : Int), (c.2.2.1 : Int), (c.2.2.2.1 : Int), (c.2.2.2.2 : Int))
def enc (l : List Cf) : List Value := l.flatMap fun c => cv (toZ c)
theorem enc_app (l m : List Cf) : enc (l ++ m) = enc l ++ enc m := by unfold enc; rw [List.flatMap_append]
end Co
def OA (w wr : World) (v : Value) (t : Nat) : Prop := wr.ownsRow w.heap.size 44 5 v (Co.fr 0 t).length (Co.enc (Co.fr 0 t)) ∧ Below w.heap.size w wr
end Go.Proofs.YtcaalcjcpddhaaaGreat.Zz

namespace Go.Proofs.YtcaalcjcpddhaaaGreat.Zz
open Go.RowKit
set_option linter.unusedVariables false
set_option linter.unusedSimpArgs false
set_option maxRecDepth 100000

namespace Co
theorem enc_get : ∀ (l : List Cf) (i : Nat) (c : Cf), l[i]? = some c → ∀ j u, (cv (toZ c))[j]? = some u → (enc l)[i * 5 + j]? = some u
 | d :: l, 0, c, h, j, u, hu => by
  simp only [List.getElem?_cons_zero, Option.some.injEq] at h
  subst h
  show (cv (toZ d) ++ enc l)[0 * 5 + j]? = _
  have hj := (List.getElem?_eq_some_iff.1 hu).1
  rw [Nat.zero_mul, Nat.zero_add, List.getElem?_append_left hj]
  exact hu
 | d :: l, i + 1, c, h, j, u, hu => by
  have := enc_get l i c (by simpa using h) j u hu
  show (cv (toZ d) ++ enc l)[(i + 1) * 5 + j]? = _
  rw [List.getElem?_append_right (by show 5 ≤ _; omega), show (i + 1) * 5 + j - (cv (toZ d)).length = i * 5 + j by show (i + 1) * 5 + j - 5 = _; omega]
  exact this
def az : List Zf := all.map toZ
theorem az_len : az.length = 378 := by unfold az; rw [List.length_map, all_len]
end Co
def AL (w : World) (g : Nat) : Prop := g < w.heap.size ∧ ∀ i c, Co.all[i]? = some c → ∀ j u, (Co.cv (Co.toZ c))[j]? = some u → w.cell? ⟨g, i * 5 + j, none⟩ = some u
theorem AL.keep {w w' : World} {g : Nat} (h : AL w g) (hb : Below w.heap.size w w') : AL w' g := ⟨Nat.lt_of_lt_of_le h.1 hb.size, fun i c hc j u hu => (hb.cell (p := ⟨g, i * 5 + j, none⟩) h.1).trans (h.2 i c hc j u hu)⟩
def AllQ (w : World) (e : Ending) (w' : World) : Prop := ∃ g cap, e = .returned (.slice (some ⟨g, 0, none⟩) 378 cap) ∧ AL w' g ∧ 378 ≤ cap ∧ w.heap.size ≤ g ∧ Below w.heap.size w w'
end Go.Proofs.YtcaalcjcpddhaaaGreat.Zz
