/-
  The lengths of counts may be, and what their codes are. Plain: configurations, which may be, all of them, what they are called. The contracts of the document's samples, logs, in and Check. The contract of the document's Check. An append to a row of the call's own, of elements of whatever size: where the new row lies, and what stays. The contract of the document's All. All, as a row; the contract of the document's Number. What configurations that may be are; the contracts of the document's shape and text. The contract of the document's nodes. The contract of the document's text. The contract of the document's Bits. The contracts of the landed parts, lowWidth, width, kindSteps, isWeight and Row.
-/
import Derived.Test.YtcaalcjcpddhaaaGreatS06
import Derived.Deep.QuietTactic
import Derived.Laws.StructEq
set_option linter.unusedVariables false
set_option linter.unusedSimpArgs false
set_option maxRecDepth 100000
namespace Go.Proofs.YtcaalcjcpddhaaaGreat.Zz
open Go.RowKit Num Hp Ka Hr
def lst (v : Nat → Nat) : List Int := (List.range 256).map fun c => (v c : Int)
theorem length_lst (v : Nat → Nat) : (lst v).length = 256 := by simp [lst]
theorem gi_lst (v : Nat → Nat) (c : Nat) (h : c < 256) : gi (lst v) c = (v c : Int) := by
 unfold gi lst
 rw [List.getD_eq_getElem?_getD, List.getElem?_map, List.getElem?_range h]
 rfl
structure Lok (v : Nat → Nat) : Prop where
 le : ∀ c, v c ≤ 40
 out : ∀ c, 256 ≤ c → v c = 0
 fit : fitb v = true
theorem cnt_lst {v : Nat → Nat} (h : ∀ c, 256 ≤ c → v c = 0) : cntOf (lst v) = v := by
 funext c
 unfold cntOf
 by_cases g : c < 256
 ·rw [gi_lst v c g, Int.toNat_natCast]
 ·have : gi (lst v) c = 0 := by unfold gi; rw [List.getD_eq_getElem?_getD, List.getElem?_eq_none (by rw [length_lst]; omega)]; rfl
  rw [this, h c (by omega)]
  rfl
theorem win_of {l : List Int} {top : Int} (h1 : l.length = 256) (h2 : ∀ i, i < l.length → 0 ≤ gi l i ∧ gi l i ≤ top) : win l top = true := by
 unfold win
 have : l.any (bad top) = false := any_false fun i hi => by
  have := h2 i hi
  unfold bad
  simp
  omega
 rw [this]
 simp [h1]
theorem lok_lst {v : Nat → Nat} (h : Lok v) : lok (lst v) = true := by
 unfold lok
 rw [win_of (length_lst v) (fun i hi => by rw [length_lst] at hi; rw [gi_lst v i hi]; have := h.le i; omega), cnt_lst h.out, h.fit]
 rfl
theorem lok_hlen (l : List Int) (h : win l 1048576 = true) : Lok (hlen (cntOf l) 256) := by
 obtain ⟨h1, h2⟩ := win_len h
 obtain ⟨f1, f2, _⟩ := hlen_fit (cntOf l) (cntI_le h2)
 exact ⟨f2, fun c hc => hlen_none _ c (fun g => by have := (mem_used.1 g).1; omega), f1⟩
theorem nd_hls {w : World} {g : Nat} {l : List Int} (h : Cel w g (ivh (hls l)) 3) : Nd w (some ⟨g, 0, none⟩) (lst (hlen (cntOf l) 256)) := by
 intro _
 refine ⟨g, 0, rfl, h.lt, fun i hi => ?_⟩
 rw [length_lst] at hi
 rw [Nat.zero_add, gi_lst _ _ hi, h.cell i (ivh_get _ i (by simp [hls]; omega))]
 unfold hls
 rw [List.getD_eq_getElem?_getD, List.getElem?_map, List.getElem?_range hi]
 rfl
theorem lok_v {l : List Int} (h : lok l = true) : (∀ c, cntOf l c ≤ 40) ∧ ∀ c, cod (cntOf l) c < 2 ^ cntOf l c := by
 unfold lok at h
 rw [Bool.and_eq_true] at h
 obtain ⟨hw, hf⟩ := h
 obtain ⟨h1, h2⟩ := win_len hw
 have hv : ∀ c, cntOf l c ≤ 40 := fun c => by
  unfold cntOf
  by_cases hc : c < l.length
  ·have := h2 c hc; omega
  ·unfold gi
   rw [List.getD_eq_getElem?_getD, List.getElem?_eq_none (by omega)]
   decide
 refine ⟨hv, fun c => ?_⟩
 unfold cod
 by_cases h0 : 0 < cntOf l c
 ·rw [if_pos h0]
  have hc : c < 256 := by
   by_cases hc : c < l.length
   ·omega
   ·unfold cntOf gi at h0
    rw [List.getD_eq_getElem?_getD, List.getElem?_eq_none (by omega)] at h0
    simp at h0
  exact Hr.code_lt _ _ h0 (hv c) hc (Ka.fit_need hf)
 ·rw [if_neg h0]
  exact Nat.two_pow_pos _
theorem win_more {l : List Int} (h : win l 8192 = true) : win l 1048576 = true := by
 obtain ⟨h1, h2⟩ := win_len h
 exact win_of h1 fun i hi => by have := h2 i hi; omega
end Go.Proofs.YtcaalcjcpddhaaaGreat.Zz
namespace Go.Proofs.YtcaalcjcpddhaaaGreat.Zz
namespace Co
abbrev Cf := Nat × Nat × Nat × Nat × Nat
def sam : List Nat := [1, 2, 4, 8, 16, 32, 64]
def lgs : List Nat := [4, 6, 8, 10, 12]
def inB (l : List Nat) (n : Nat) : Bool := l.any fun x => Nat.beq x n
def ok (c : Cf) : Bool := Nat.ble 1 c.1 && (Nat.ble c.1 4 && (Nat.ble 1 c.2.2.2.1 && (Nat.ble c.2.2.2.1 3 && (inB sam c.2.2.2.2 && bif Nat.beq c.1 4 then Nat.ble 1 c.2.1 && (Nat.ble c.2.1 3 && inB lgs c.2.2.1) else Nat.beq c.2.1 0 && Nat.beq c.2.2.1 0))))
def cat (t : Nat) : Cf := (t / 9984 + 1, t / 2496 % 4, t / 192 % 13, t / 64 % 3 + 1, t % 64 + 1)
def fr : Nat → Nat → List Cf
 | t, 0 => []
 | t, n + 1 => bif ok (cat t) then cat t :: fr (t + 1) n else fr (t + 1) n
def all : List Cf := ([(1, 0, 0), (2, 0, 0), (3, 0, 0)] ++ [1, 2, 3].flatMap fun i => lgs.map fun l => (4, i, l)).flatMap fun (s, i, l) => [1, 2, 3].flatMap fun k => sam.map fun m => (s, i, l, k, m)
theorem all_len : all.length = 378 := by decide +kernel
end Co
end Go.Proofs.YtcaalcjcpddhaaaGreat.Zz
namespace Go.Proofs.YtcaalcjcpddhaaaGreat.Zz
open Go.RowKit
namespace Co
abbrev Zf := Int × Int × Int × Int × Int
def cv (z : Zf) : List Value := [.int .i64 z.1, .int .i64 z.2.1, .int .i64 z.2.2.1, .int .i64 z.2.2.2.1, .int .i64 z.2.2.2.2]
def inZ (l : List Nat) (n : Int) : Bool := decide (n ∈ toI l)
def okZ (z : Zf) : Bool := decide (1 ≤ z.1) && (decide (z.1 ≤ 4) && (decide (1 ≤ z.2.2.2.1) && (decide (z.2.2.2.1 ≤ 3) && (inZ sam z.2.2.2.2 && bif decide (z.1 = 4) then decide (1 ≤ z.2.1) && (decide (z.2.1 ≤ 3) && inZ lgs z.2.2.1) else decide (z.2.1 = 0) && decide (z.2.2.1 = 0)))))
end Co
end Go.Proofs.YtcaalcjcpddhaaaGreat.Zz
namespace Go.Proofs.YtcaalcjcpddhaaaGreat.Zz
open Go.RowKit
end Go.Proofs.YtcaalcjcpddhaaaGreat.Zz
namespace Go.Proofs.YtcaalcjcpddhaaaGreat.Zz
open Go.RowKit Go.Deep
namespace Ag
theorem wp_append {o : Oper} {a : Act} {w : World} {K : Act → World → Prop} {Q : Exit → Act → World → Prop} (s x : Operand) (t : TypeId)
  (ho : o.op = .call { callee := .builtin .append, args := #[s, x], argTypes := #[t, t] })
  (base : Nat) (e : TypeId) (i : TypeInfo) (z : Value) (size bytes : Nat) (ht : Tryz.prog.underlying t = some (.slice e)) (hi : Tryz.prog.info? e = some i) (hz : i.zero = some z)
  (hsize : i.size = size) (hby : i.bytes = bytes) (hzs : z.cells.size = size) (hsz : 0 < size)
  (v : Value) (n : Nat) (vs : List Value) (hs : a.eval s = v) (hown : w.ownsRow base e size v n vs)
  (ad : Addr) (m c : Nat) (news : List Value) (hx : a.eval x = .slice (some ad) m c) (hl : news.length = m * size) (hm : 0 < m) (hsrc : ∀ j u, news[j]? = some u → w.cell? (ad.add j) = some u) (h1 : ∀ u ∈ news, u.oneCell' = true)
  (h63 : n + m ≤ maxLen) (hbytes : (n + m) * bytes ≤ 140737488355328) (hbase : base ≤ w.heap.size)
  (h : ∀ g cap w', w'.ownsRow base e size (.slice (some ⟨g, 0, none⟩) (n + m) cap) (n + m) (vs ++ news) → Below base w w' → (v.ownBlock = some g ∨ g = w.heap.size) → g < w'.heap.size → (∀ k, k < w.heap.size → v.ownBlock ≠ some k → w'.heap[k]? = w.heap[k]?) → w.heap.size ≤ w'.heap.size → K (a.put o.dst (.slice (some ⟨g, 0, none⟩) (n + m) cap)) w') :
  Oper.wp Tryz.prog o a w K Q := by
 refine wp_append_lies w s x t ho base e i z size bytes ht hi hz hsize hby hzs hsz v n vs hs hown ad m c news hx hl hsrc h1 hm h63 hbytes hbase w.heap.size rfl ?_
 intro g cap w' o1 o2 o3 o4
 refine h g cap w' o1 ?_ o3 o4 ?_ o2.size
 ·exact (Below.refl _ _).grown o2 hbase (fun k hk => (hown.lt k hk).1)
 ·intro k hk hne
  exact o2.block k hk (fun q => hne q.symm)
theorem wpList_append {ops : Array Oper} {rest : List Oper} {o : Oper} {a : Act} {w : World} {Q : Exit → Act → World → Prop} (hgd : o.guard = none) (s x : Operand) (t : TypeId)
  (ho : o.op = .call { callee := .builtin .append, args := #[s, x], argTypes := #[t, t] })
  (base : Nat) (e : TypeId) (i : TypeInfo) (z : Value) (size bytes : Nat) (ht : Tryz.prog.underlying t = some (.slice e)) (hi : Tryz.prog.info? e = some i) (hz : i.zero = some z)
  (hsize : i.size = size) (hby : i.bytes = bytes) (hzs : z.cells.size = size) (hsz : 0 < size)
  (v : Value) (n : Nat) (vs : List Value) (hs : a.eval s = v) (hown : w.ownsRow base e size v n vs)
  (ad : Addr) (m c : Nat) (news : List Value) (hx : a.eval x = .slice (some ad) m c) (hl : news.length = m * size) (hm : 0 < m) (hsrc : ∀ j u, news[j]? = some u → w.cell? (ad.add j) = some u) (h1 : ∀ u ∈ news, u.oneCell' = true)
  (h63 : n + m ≤ maxLen) (hbytes : (n + m) * bytes ≤ 140737488355328) (hbase : base ≤ w.heap.size)
  (h : ∀ g cap w', w'.ownsRow base e size (.slice (some ⟨g, 0, none⟩) (n + m) cap) (n + m) (vs ++ news) → Below base w w' → (v.ownBlock = some g ∨ g = w.heap.size) → g < w'.heap.size → (∀ k, k < w.heap.size → v.ownBlock ≠ some k → w'.heap[k]? = w.heap[k]?) → w.heap.size ≤ w'.heap.size → wpList Tryz.prog ops Q rest (a.put o.dst (.slice (some ⟨g, 0, none⟩) (n + m) cap)) w') :
  wpList Tryz.prog ops Q (o :: rest) a w :=
 wpList_plain hgd fun K hK => wp_append s x t ho base e i z size bytes ht hi hz hsize hby hzs hsz v n vs hs hown ad m c news hx hl hm hsrc h1 h63 hbytes hbase fun g cap w' a1 a2 a3 a4 a5 a6 => hK _ _ (h g cap w' a1 a2 a3 a4 a5 a6)
theorem owns_of {w w' : World} {base e size n : Nat} {v : Value} {vs : List Value} (h : w.ownsRow base e size v n vs) (hb : ∀ k, v.ownBlock = some k → w'.heap[k]? = w.heap[k]?) : w'.ownsRow base e size v n vs := by
 obtain ⟨h1, h | ⟨g, cap, cur, rfl, a1, a2, a3⟩⟩ := h
 ·exact ⟨h1, .inl h⟩
 ·exact ⟨h1, .inr ⟨g, cap, cur, rfl, a1, (hb g rfl).trans a2, a3⟩⟩
theorem owns_keep {w w' : World} {base e size n : Nat} {v : Value} {vs : List Value} (h : w.ownsRow base e size v n vs) (hb : Below w.heap.size w w') : w'.ownsRow base e size v n vs := owns_of h fun k hk => hb.block k (h.lt k hk).2
theorem owns_cells {w : World} {base e size n g cap : Nat} {vs : List Value} (h : w.ownsRow base e size (.slice (some ⟨g, 0, none⟩) n cap) n vs) : g < w.heap.size ∧ ∀ j u, vs[j]? = some u → w.cell? ⟨g, j, none⟩ = some u := by
 obtain ⟨h1, ⟨h, _⟩ | ⟨g', cap', cur, e1, e2, hh, r1, r2, r3, r4⟩⟩ := h
 ·cases h
 ·simp only [Value.slice.injEq, Option.some.injEq, Addr.mk.injEq] at e1
  obtain ⟨⟨rfl, _, _⟩, _, rfl⟩ := e1
  refine ⟨(Array.getElem?_eq_some_iff.1 hh).1, fun j u hu => ?_⟩
  unfold World.cell?
  rw [show w.heap[({ block := g, off := j, spot := none } : Addr).block]? = _ from hh]
  rw [← r4] at hu
  have hj : j < n * size := by
   have := (List.getElem?_eq_some_iff.1 hu).1
   rw [List.length_take] at this
   omega
  rw [List.getElem?_take_of_lt hj] at hu
  simpa using hu
theorem owns_frozen {w : World} {base e size n g cap : Nat} {vs : List Value} (h : w.ownsRow base e size (.slice (some ⟨g, 0, none⟩) n cap) n vs) (j : Nat) : w.frozen? ⟨g, j, none⟩ = false := by
 obtain ⟨h1, ⟨h, _⟩ | ⟨g', cap', cur, e1, e2, hh, r1, r2, r3, r4⟩⟩ := h
 ·cases h
 ·simp only [Value.slice.injEq, Option.some.injEq, Addr.mk.injEq] at e1
  obtain ⟨⟨rfl, _, _⟩, _, rfl⟩ := e1
  unfold World.frozen?
  rw [show w.heap[({ block := g, off := j, spot := none } : Addr).block]? = _ from hh]
  simp
end Ag
end Go.Proofs.YtcaalcjcpddhaaaGreat.Zz
namespace Go.Proofs.YtcaalcjcpddhaaaGreat.Zz
open Go.RowKit
namespace Co
def toZ (c : Cf) : Zf := ((c.1 : Int), (c.2.1 : Int), (c.2.2.1 : Int), (c.2.2.2.1 : Int), (c.2.2.2.2 : Int))
theorem fr_snoc : ∀ (n a : Nat), fr a (n + 1) = fr a n ++ bif ok (cat (a + n)) then [cat (a + n)] else []
 | 0, a => by
  show (bif ok (cat a) then cat a :: fr (a + 1) 0 else fr (a + 1) 0) = _
  rw [Nat.add_zero]
  cases ok (cat a) <;> rfl
 | n + 1, a => by
  have ih := fr_snoc n (a + 1)
  rw [show a + 1 + n = a + (n + 1) by omega] at ih
  show (bif ok (cat a) then cat a :: fr (a + 1) (n + 1) else fr (a + 1) (n + 1)) = (bif ok (cat a) then cat a :: fr (a + 1) n else fr (a + 1) n) ++ _
  rw [ih]
  cases ok (cat a) <;> rfl
def enc (l : List Cf) : List Value := l.flatMap fun c => cv (toZ c)
theorem enc_app (l m : List Cf) : enc (l ++ m) = enc l ++ enc m := by unfold enc; rw [List.flatMap_append]
end Co
def OA (w wr : World) (v : Value) (t : Nat) : Prop := wr.ownsRow w.heap.size 44 5 v (Co.fr 0 t).length (Co.enc (Co.fr 0 t)) ∧ Below w.heap.size w wr
theorem OA.skip {w wr : World} {v : Value} {t : Nat} (h : OA w wr v t) (ho : Co.ok (Co.cat t) = false) {w2 : World} (hb : Below wr.heap.size wr w2) : OA w w2 v (t + 1) := by
 refine ⟨?_, h.2.trans (hb.mono h.2.size)⟩
 rw [Co.fr_snoc, Nat.zero_add, ho]
 show w2.ownsRow _ _ _ _ (Co.fr 0 t ++ []).length (Co.enc (Co.fr 0 t ++ []))
 rw [List.append_nil]
 exact Ag.owns_keep h.1 hb
end Go.Proofs.YtcaalcjcpddhaaaGreat.Zz
namespace Go.Proofs.YtcaalcjcpddhaaaGreat.Zz
open Go.RowKit
namespace Co
theorem enc_get : ∀ (l : List Cf) (i : Nat) (c : Cf), l[i]? = some c → ∀ j u, (cv (toZ c))[j]? = some u → (enc l)[i * 5 + j]? = some u
 | d :: l, 0, c, h, j, u, hu => by
  simp only [List.getElem?_cons_zero, Option.some.injEq] at h
  subst h
  show (cv (toZ d) ++ enc l)[0 * 5 + j]? = _
  have hj := (List.getElem?_eq_some_iff.1 hu).1
  rw [Nat.zero_mul, Nat.zero_add, List.getElem?_append_left hj]
  exact hu
 | d :: l, i + 1, c, h, j, u, hu => by
  have := enc_get l i c (by simpa using h) j u hu
  show (cv (toZ d) ++ enc l)[(i + 1) * 5 + j]? = _
  rw [List.getElem?_append_right (by show 5 ≤ _; omega), show (i + 1) * 5 + j - (cv (toZ d)).length = i * 5 + j by show (i + 1) * 5 + j - 5 = _; omega]
  exact this
def az : List Zf := all.map toZ
theorem az_len : az.length = 378 := by unfold az; rw [List.length_map, all_len]
end Co
def AL (w : World) (g : Nat) : Prop := g < w.heap.size ∧ ∀ i c, Co.all[i]? = some c → ∀ j u, (Co.cv (Co.toZ c))[j]? = some u → w.cell? ⟨g, i * 5 + j, none⟩ = some u
theorem AL.keep {w w' : World} {g : Nat} (h : AL w g) (hb : Below w.heap.size w w') : AL w' g := ⟨Nat.lt_of_lt_of_le h.1 hb.size, fun i c hc j u hu => (hb.cell (p := ⟨g, i * 5 + j, none⟩) h.1).trans (h.2 i c hc j u hu)⟩
def AllQ (w : World) (e : Ending) (w' : World) : Prop := ∃ g cap, e = .returned (.slice (some ⟨g, 0, none⟩) 378 cap) ∧ AL w' g ∧ 378 ≤ cap ∧ w.heap.size ≤ g ∧ Below w.heap.size w w'
theorem AL.at {w : World} {g : Nat} (h : AL w g) (i : Nat) (hi : i < 378) : ∃ x1 x2 x3 x4 x5 : Int, Co.az[i]? = some (x1, x2, x3, x4, x5) ∧ w.cell? ⟨g, i * 5, none⟩ = some (.int .i64 x1) ∧ w.cell? ⟨g, i * 5 + 1, none⟩ = some (.int .i64 x2) ∧ w.cell? ⟨g, i * 5 + 2, none⟩ = some (.int .i64 x3) ∧ w.cell? ⟨g, i * 5 + 3, none⟩ = some (.int .i64 x4) ∧ w.cell? ⟨g, i * 5 + 4, none⟩ = some (.int .i64 x5) := by
 obtain ⟨c, hc⟩ : ∃ c, Co.all[i]? = some c := ⟨_, List.getElem?_eq_getElem (by rw [Co.all_len]; exact hi)⟩
 have hz : Co.az[i]? = some (Co.toZ c) := by unfold Co.az; rw [List.getElem?_map, hc]; rfl
 exact ⟨_, _, _, _, _, hz, h.2 i c hc 0 _ rfl, h.2 i c hc 1 _ rfl, h.2 i c hc 2 _ rfl, h.2 i c hc 3 _ rfl, h.2 i c hc 4 _ rfl⟩
end Go.Proofs.YtcaalcjcpddhaaaGreat.Zz
namespace Go.Proofs.YtcaalcjcpddhaaaGreat.Zz
open Go.RowKit Num Hp
namespace Pn
structure CfI (s i g k m : Int) : Prop where
 k1 : 1 ≤ k
 k3 : k ≤ 3
 m1 : ∃ M : Nat, m = M ∧ 1 ≤ M ∧ M ≤ 64
 sh : (s = 1 ∨ s = 2 ∨ s = 3) ∨ (s = 4 ∧ 1 ≤ i ∧ i ≤ 3 ∧ ∃ G : Nat, g = G ∧ 4 ≤ G ∧ G ≤ 12)
theorem inZ_has {l : List Nat} {n : Int} (h : Co.inZ l n = true) : ∃ a, a ∈ l ∧ n = (a : Int) := by
 unfold Co.inZ at h
 have := of_decide_eq_true h
 unfold toI at this
 obtain ⟨a, h1, h2⟩ := List.mem_map.1 this
 exact ⟨a, h1, h2.symm⟩
theorem CfI.of {s i g k m : Int} (h : Co.okZ (s, i, g, k, m) = true) : CfI s i g k m := by
 unfold Co.okZ at h
 simp only [Bool.and_eq_true, decide_eq_true_eq] at h
 obtain ⟨h1, h2, h3, h4, h5, h6⟩ := h
 obtain ⟨M, hM, rfl⟩ := inZ_has h5
 refine ⟨h3, h4, ⟨M, rfl, ?_, ?_⟩, ?_⟩
 ·unfold Co.sam at hM; simp at hM; omega
 ·unfold Co.sam at hM; simp at hM; omega
 ·by_cases c : s = 4
  ·subst c
   simp only [decide_true, cond_true, Bool.and_eq_true, decide_eq_true_eq] at h6
   obtain ⟨h7, h8, h9⟩ := h6
   obtain ⟨G, hG, rfl⟩ := inZ_has h9
   refine .inr ⟨rfl, h7, h8, G, rfl, ?_, ?_⟩
   ·unfold Co.lgs at hG; simp at hG; omega
   ·unfold Co.lgs at hG; simp at hG; omega
  ·exact .inl (by omega)
def cst (l : List Int) : Nat := costv l (lst (hlen (cntOf l) 256))
theorem tot_le {f g : Nat → Nat} (h : ∀ i, f i ≤ g i) : ∀ q, Hv.tot f q ≤ Hv.tot g q
 | 0 => Nat.le_refl _
 | q + 1 => by
  have := tot_le h q
  have := h q
  rw [Hv.tot, Hv.tot]
  omega
theorem tot_mul (f : Nat → Nat) (c : Nat) : ∀ q, Hv.tot (fun i => f i * c) q = Hv.tot f q * c
 | 0 => by simp [Hv.tot]
 | q + 1 => by rw [Hv.tot, Hv.tot, tot_mul f c q, Nat.add_mul]
theorem cst_le {l : List Int} (hw : win l 8192 = true) (ht : Hv.tot (cntOf l) 256 ≤ 8192) : cst l ≤ 327680 := by
 unfold cst costv
 split
 ·have hL := lok_hlen l (win_more hw)
  rw [cnt_lst hL.out]
  have := tot_le (f := fun i => cntOf l i * hlen (cntOf l) 256 i) (g := fun i => cntOf l i * 40) (fun i => Nat.mul_le_mul_left _ (hL.le i)) 256
  rw [tot_mul] at this
  omega
 ·omega
def shp (s : Int) (l : List Int) (n : Nat) : Nat := if s = 2 then (if n = 0 then 1 else max 1 (up (cst l) n)) else 8
theorem shp_le (s : Int) {l : List Int} {n : Nat} (hw : win l 8192 = true) (ht : Hv.tot (cntOf l) 256 ≤ 8192) : shp s l n ≤ 327680 := by
 unfold shp
 split
 ·split
  ·omega
  ·have := up_le (cst l) n (by omega)
   have := cst_le hw ht
   omega
 ·omega
theorem shp_pos (s : Int) (l : List Int) (n : Nat) : 1 ≤ shp s l n := by
 unfold shp
 split
 ·split <;> omega
 ·omega
end Pn
end Go.Proofs.YtcaalcjcpddhaaaGreat.Zz
namespace Go.Proofs.YtcaalcjcpddhaaaGreat.Zz
open Go.RowKit Num Hp
end Go.Proofs.YtcaalcjcpddhaaaGreat.Zz
namespace Go.Proofs.YtcaalcjcpddhaaaGreat.Zz
open Go.RowKit Num Hp
namespace Pn
def bst (i k : Int) (z n : Nat) : Nat := 4096 * up n z + n / z * blk i k z + (if n % z = 0 then 0 else blk i k (n % z))
def ndv (k : Int) (l : List Int) : Nat := 1536 + nds (hlen (cntOf l) 256) (cod (hlen (cntOf l) 256)) (cntOf l) k 40
def txt (s i g k : Int) (l : List Int) : Nat := if s = 1 then rws k (cntOf l) (Hv.tot (cntOf l) 256) 8 else if s = 3 then rws k (cntOf l) (Hv.tot (cntOf l) 256) 8 + 256 else if s = 2 then ndv k l else bst i k (2 ^ g.toNat) (Hv.tot (cntOf l) 256)
theorem rws_le (k : Int) (v : Nat → Nat) {n : Nat} (hn : n = Hv.tot v 256) (h8 : n ≤ 8192) : ∀ q, rws k v n q ≤ q * 700000
 | 0 => Nat.zero_le _
 | q + 1 => by
  have := rws_le k v hn h8 q
  have h1 := os_le v (7 - q) 256
  have h2 := row_le k (n := n) (m := os v (7 - q) 256) (by omega) (by omega)
  unfold rws at *
  rw [Hv.tot]
  omega
theorem ndv_le (k : Int) {l : List Int} (ht : Hv.tot (cntOf l) 256 ≤ 8192) : ndv k l ≤ 7168001536 := by
 have := nds_le (v := hlen (cntOf l) 256) (k := cod (hlen (cntOf l) 256)) (n := cntOf l) k ht 40
 unfold ndv
 omega
theorem bst_le (i k : Int) {z n : Nat} (hz : 16 ≤ z) (hz2 : z ≤ 4096) (hn : n ≤ 8192) : bst i k z n ≤ 1700000000000 := by
 have h1 := up_le n z (by omega)
 have h2 := blk_le i k (s := z) (by omega)
 have h3 : n / z ≤ n := Nat.div_le_self _ _
 have h4 : n % z < z := Nat.mod_lt _ (by omega)
 have h5 := blk_le i k (s := n % z) (by omega)
 have h6 := Nat.mul_le_mul h3 h2
 unfold bst
 split <;> omega
theorem txt_le {s i g k m : Int} (hc : CfI s i g k m) {l : List Int} (ht : Hv.tot (cntOf l) 256 ≤ 8192) : txt s i g k l ≤ 1700000000000 := by
 have h1 := rws_le k (cntOf l) rfl ht 8
 have h2 := ndv_le k ht
 unfold txt
 split
 ·omega
 ·split
  ·omega
  ·split
   ·omega
   ·rcases hc.sh with h | ⟨_, _, _, G, rfl, g1, g2⟩
    ·omega
    ·have e1 : 2 ^ 4 ≤ 2 ^ G := Nat.pow_le_pow_right (by decide) g1
     have e2 : 2 ^ G ≤ 2 ^ 12 := Nat.pow_le_pow_right (by decide) g2
     rw [Int.toNat_natCast]
     exact bst_le i k (by omega) (by omega) ht
end Pn
end Go.Proofs.YtcaalcjcpddhaaaGreat.Zz
namespace Go.Proofs.YtcaalcjcpddhaaaGreat.Zz
open Go.RowKit Num Hp
namespace Pn
def bl (x : Nat) : Nat := max 1 (Go.bitLen x)
theorem bl_le {x : Nat} (h : x ≤ 8192) : bl x ≤ 14 := by
  have := Num.len_le x 14 (by have : (2 : Nat) ^ 14 = 16384 := by decide
                              omega)
  unfold bl
  omega
def btN (s i g k : Int) (l : List Int) (n M : Nat) : Nat := txt s i g k l + 8256 + row k (n + 1) (n / M + 1) + (n / M + 1) * bl (n / M) + (n / M + 1) * bl n
def bitsN (z : Co.Zf) (l : List Int) : Nat := if (okT l && Co.okZ z) = true then btN z.1 z.2.1 z.2.2.1 z.2.2.2.1 l (Hv.tot (cntOf l) 256) z.2.2.2.2.toNat else 0
theorem okT_parts {l : List Int} (h : okT l = true) : win l 8192 = true ∧ Hv.tot (cntOf l) 256 ≤ 8192 := by
 unfold okT at h
 rw [Bool.and_eq_true] at h
 exact ⟨h.1, of_decide_eq_true h.2⟩
theorem max_or (L : Nat) : ((L : Int) ≤ 1 ∧ max 1 L = 1) ∨ (¬ (L : Int) ≤ 1 ∧ max 1 L = L) := by omega
theorem btN_le {s i g k m : Int} (hc : CfI s i g k m) {l : List Int} {n M : Nat} (ht : Hv.tot (cntOf l) 256 ≤ 8192) (hn : n ≤ 8192) : btN s i g k l n M ≤ 1700001000000 := by
 have h1 := txt_le hc ht
 have h2 : n / M ≤ n := Nat.div_le_self _ _
 have h3 := row_le k (n := n + 1) (m := n / M + 1) (by omega) (by omega)
 have h4 := Nat.mul_le_mul (show n / M + 1 ≤ 8193 by omega) (bl_le (x := n / M) (by omega))
 have h5 := Nat.mul_le_mul (show n / M + 1 ≤ 8193 by omega) (bl_le (x := n) (by omega))
 unfold btN
 omega
end Pn
end Go.Proofs.YtcaalcjcpddhaaaGreat.Zz
namespace Go.Proofs.YtcaalcjcpddhaaaGreat.Zz
open Go.RowKit Num Hp
theorem pparts_c (n b : Nat) (hb : 0 < b) (hn : n ≤ 1099511627776) (hb2 : b ≤ 1099511627776) (w : World) :
  Calls Tryz.prog 19 #[.int .i64 (n : Int), .int .i64 (b : Int)] w fun e w' => e = .returned (.int .i64 (Pn.up n b : Nat)) ∧ w' = w := by
 obtain ⟨k, hk⟩ : ∃ k : Nat, n + b = k + 1 := ⟨n + b - 1, by omega⟩
 have e : Hid (Pn.up n b = k / b) := by show _ = _; unfold Pn.up; rw [hk]; rfl
 have e1 : (n : Int) + (b : Int) = (k : Int) + 1 := by omega
 have e2 : ((b : Int) == 0) = false := by simp; omega
 have hb3 : ¬ (b : Int) = 0 := by omega
 have hk2 : k ≤ 2199023255552 := by omega
 have hkb : k / b ≤ k := Nat.div_le_self _ _
 have ed := wq k b _ rfl (by omega)
 generalize k / b = d at *
 clear hk
 go_enter Tryz.func19, Tryz.ntmps19
 go_wp2
 go_ret
 rw [e.out]
 exact ⟨congrArg (fun x => Ending.returned (.int .i64 x)) ed, rfl⟩
theorem plow_c (n m : Nat) (hm : m ≤ n) (hn : n ≤ 1048576) (w : World) :
  Calls Tryz.prog 20 #[.int .i64 (n : Int), .int .i64 (m : Int)] w fun e w' => e = .returned (.int .i64 (Pn.fw n m : Nat)) ∧ w' = w := by
 by_cases h0 : m = 0
 ·subst h0
  go_enter Tryz.func20, Tryz.ntmps20
  go_wp2
  go_ret
  exact ⟨rfl, rfl⟩
 ·obtain ⟨q, hq⟩ : ∃ q, q = n / m := ⟨_, rfl⟩
  have hqn : q ≤ n := by rw [hq]; exact Nat.div_le_self _ _
  have hq1 : 1 ≤ q := by rw [hq]; exact Nat.div_pos hm (by omega)
  obtain ⟨v, hv⟩ : ∃ v, Go.bitLen q = v + 1 := by
   have := (Go.bitLen_spec q).1
   refine ⟨Go.bitLen q - 1, ?_⟩
   by_cases c : Go.bitLen q = 0
   ·rw [c] at this; simp at this; omega
   ·omega
  have hv2 : Hid (Pn.fw n m = v) := by show Pn.fw n m = v; unfold Pn.fw; rw [if_pos (by omega), ← hq, hv]; rfl
  have hv3 : v ≤ 20 := by rw [← hv2.out]; exact Pn.fw_le hn
  have LL : Hid (∀ w0, Calls Tryz.prog 44 #[.int .u64 (q : Int)] w0 fun e w' => e = .returned (.int .i64 ((v : Int) + 1)) ∧ w' = w0) := fun w0 => by
   have := len_c (q : Int) (by omega) (by omega) w0
   have e : lenI (q : Int) = (v : Int) + 1 := by unfold lenI; rw [Int.toNat_natCast, hv]; rfl
   rw [e] at this
   exact this
  have ed : wrap64 ((n : Int) / (m : Int)) = (q : Int) := by
   have : (n : Int) / (m : Int) = ((n / m : Nat) : Int) := rfl
   rw [this, ← hq]
   unfold wrap64
   omega
  have e2 : ((m : Int) == 0) = false := by simp; omega
  have hm0 : (0 : Int) < (m : Int) := by omega
  rw [hv2.out]
  clear hv hq h0 hv2
  go_enter Tryz.func20, Tryz.ntmps20
  go_wp2_with fail
  refine (LL.out _).mono ?_
  rintro e w1 ⟨rfl, h1⟩
  go_wp2
  go_ret
  exact ⟨by go_num, by subst h1; rfl⟩
theorem pwidth_c (x : Nat) (hx : x ≤ 8192) (w : World) :
  Calls Tryz.prog 86 #[.int .i64 (x : Int)] w fun e w' => e = .returned (.int .i64 (Pn.bl x : Nat)) ∧ w' = w := by
 have LL : Hid (∀ w0, Calls Tryz.prog 44 #[.int .u64 (x : Int)] w0 fun e w' => e = .returned (.int .i64 (Go.bitLen x : Nat)) ∧ w' = w0) := fun w0 => by
  have := len_c (x : Int) (by omega) (by omega) w0
  have e : lenI (x : Int) = (Go.bitLen x : Int) := by unfold lenI; rw [Int.toNat_natCast]
  rw [e] at this
  exact this
 have E : Hid (Pn.bl x = max 1 (Go.bitLen x)) := rfl
 rcases Pn.max_or (Go.bitLen x) with ⟨c1, c2⟩ | ⟨c1, c2⟩
 ·rw [c2] at E
  rw [E.out]
  generalize Go.bitLen x = b at *
  clear E c2
  go_enter Tryz.func86, Tryz.ntmps86
  go_wp2_with fail
  refine (LL.out _).mono ?_
  rintro e w1 ⟨rfl, rfl⟩
  go_wp2
  go_ret
  exact ⟨rfl, rfl⟩
 ·rw [c2] at E
  rw [E.out]
  generalize Go.bitLen x = b at *
  clear E c2
  go_enter Tryz.func86, Tryz.ntmps86
  go_wp2_with fail
  refine (LL.out _).mono ?_
  rintro e w1 ⟨rfl, rfl⟩
  go_wp2
  go_ret
  exact ⟨rfl, rfl⟩
theorem pweight_c (x : Int) (w : World) :
  Calls Tryz.prog 24 #[.int .i64 x] w fun e w' => e = .returned (.bool (decide (0 ≤ x) && decide (x ≤ 65536))) ∧ w' = w := by
 by_cases h1 : 0 ≤ x
 ·by_cases h2 : x ≤ 65536
  ·have e : Hid ((decide (0 ≤ x) && decide (x ≤ 65536)) = true) := by show _ = _; rw [decide_eq_true h1, decide_eq_true h2]; rfl
   rw [e.out]
   go_enter Tryz.func24, Tryz.ntmps24
   go_wp2
   go_ret
   exact ⟨rfl, rfl⟩
  ·have e : Hid ((decide (0 ≤ x) && decide (x ≤ 65536)) = false) := by show _ = _; rw [decide_eq_false h2]; simp
   rw [e.out]
   go_enter Tryz.func24, Tryz.ntmps24
   go_wp2
   go_ret
   exact ⟨rfl, rfl⟩
 ·have e : Hid ((decide (0 ≤ x) && decide (x ≤ 65536)) = false) := by show _ = _; rw [decide_eq_false h1]; rfl
  rw [e.out]
  go_enter Tryz.func24, Tryz.ntmps24
  go_wp2
  go_ret
  exact ⟨rfl, rfl⟩
set_option maxHeartbeats 4000000 in
theorem prow0_c (k n m : Int) (w : World) :
  Calls Tryz.prog 7 #[.int .i64 k, .int .i64 n, .int .i64 m] w fun e w' => e = .returned (.int .i64 (Pn.rowI k n m : Nat)) ∧ w' = w := by
 by_cases h : 0 ≤ n ∧ n ≤ 1048576 ∧ 0 ≤ m ∧ m ≤ n
 ·obtain ⟨h1, h2, h3, h4⟩ := h
  obtain ⟨N, rfl⟩ := Int.eq_ofNat_of_zero_le h1
  obtain ⟨M, rfl⟩ := Int.eq_ofNat_of_zero_le h3
  have hN : N ≤ 1048576 := by omega
  have hM : M ≤ N := by omega
  rw [rowI_in hN hM]
  have n1 : ¬ (N : Int) < 0 := by omega
  have n2 : ¬ (1048576 : Int) < (N : Int) := by omega
  have n3 : ¬ (M : Int) < 0 := by omega
  have n4 : ¬ (N : Int) < (M : Int) := by omega
  by_cases k1 : k = 1
  ·subst k1
   have U := hide fun w0 => pparts_c N 64 (by omega) (by omega) (by omega) w0
   have hu := Pn.up_le N 64 (by omega)
   have e : Hid (Pn.row 1 N M = N + 32 * (N / 512 + 1) + 16 * Pn.up N 64) := by show _ = _; unfold Pn.row; rw [if_pos rfl]
   generalize Pn.up N 64 = u at *
   go_enter Tryz.func7, Tryz.ntmps7
   go_wp2_with fail
   refine (U.out _).mono ?_
   rintro e w1 ⟨rfl, rfl⟩
   go_wp2
   go_ret
   rw [e.out]
   exact ⟨by go_num, rfl⟩
  ·have k1z : (k == 1) = false := by simp; omega
   by_cases k2 : k = 2
   ·subst k2
    have U := hide fun w0 => pparts_c N 15 (by omega) (by omega) (by omega) w0
    have hu := Pn.up_le N 15 (by omega)
    have e : Hid (Pn.row 2 N M = 17 * Pn.up N 15 + 64 * max 1 (Pn.up (Pn.up N 15) 8)) := by show _ = _; unfold Pn.row; rw [if_neg (by decide), if_pos rfl]
    generalize Pn.up N 15 = u at *
    have U2 := hide fun w0 => pparts_c u 8 (by omega) (by omega) (by omega) w0
    have hu2 := Pn.up_le u 8 (by omega)
    generalize Pn.up u 8 = u2 at *
    by_cases c1 : u2 ≤ 1
    ·have c1z : (u2 : Int) ≤ 1 := by omega
     rw [show max 1 u2 = 1 by omega] at e
     go_enter Tryz.func7, Tryz.ntmps7
     go_wp2_with fail
     refine (U.out _).mono ?_
     rintro e w1 ⟨rfl, rfl⟩
     go_wp2_with fail
     refine (U2.out _).mono ?_
     rintro e w1 ⟨rfl, rfl⟩
     go_wp2
     go_ret
     rw [e.out]
     exact ⟨by go_num, rfl⟩
    ·have c1z : ¬ (u2 : Int) ≤ 1 := by omega
     rw [show max 1 u2 = u2 by omega] at e
     go_enter Tryz.func7, Tryz.ntmps7
     go_wp2_with fail
     refine (U.out _).mono ?_
     rintro e w1 ⟨rfl, rfl⟩
     go_wp2_with fail
     refine (U2.out _).mono ?_
     rintro e w1 ⟨rfl, rfl⟩
     go_wp2
     go_ret
     rw [e.out]
     exact ⟨by go_num, rfl⟩
   ·have k2z : (k == 2) = false := by simp; omega
    by_cases k3 : k = 3
    ·subst k3
     have U := hide fun w0 => plow_c N M hM hN w0
     have e : Hid (Pn.row 3 N M = Pn.fano N M) := by show _ = _; unfold Pn.row; rw [if_neg (by decide), if_neg (by decide), if_pos rfl]
     have hv3 := Pn.fw_le (n := N) (m := M) hN
     have f : Hid (∀ v, v = Pn.fw N M → Pn.fano N M = M * v + M + N / 2 ^ v + 65) := fun v hv => by subst hv; rfl
     obtain ⟨v, hv⟩ : ∃ v, Hid (v = Pn.fw N M) := ⟨_, rfl⟩
     have f1 := f.out v hv.out
     rw [← hv.out] at U hv3
     have HF := hide f1
     clear f f1 hv
     obtain ⟨s, hs⟩ : ∃ s, s = N / 2 ^ v := ⟨_, rfl⟩
     have hs2 : s ≤ N := by rw [hs]; exact Nat.div_le_self _ _
     have es : (N : Int) / 2 ^ v = (s : Int) := by
      rw [hs, Int.natCast_ediv, Int.natCast_pow]; rfl
     rw [← hs] at HF
     have hmv : M * v ≤ M * 20 := Nat.mul_le_mul_left M hv3
     have ep : (M : Int) * (v : Int) = ((M * v : Nat) : Int) := by rw [Int.natCast_mul]
     rw [e.out, HF.out]
     generalize M * v = p at *
     clear hs HF e
     go_enter Tryz.func7, Tryz.ntmps7
     go_wp2_with fail
     refine (U.out _).mono ?_
     rintro e w1 ⟨rfl, rfl⟩
     go_wp2
     go_ret
     exact ⟨by go_num, rfl⟩
    ·have k3z : (k == 3) = false := by simp; omega
     have e : Hid (Pn.row k N M = 0) := by show _ = _; unfold Pn.row; rw [if_neg k1, if_neg k2, if_neg k3]
     rw [e.out]
     go_enter Tryz.func7, Tryz.ntmps7
     go_wp2
     go_ret
     exact ⟨rfl, rfl⟩
 ·rw [rowI_out h]
  by_cases n1 : n < 0
  ·clear h
   go_enter Tryz.func7, Tryz.ntmps7
   go_wp2
   go_ret
   exact ⟨rfl, rfl⟩
  ·by_cases n2 : (1048576 : Int) < n
   ·clear h
    go_enter Tryz.func7, Tryz.ntmps7
    go_wp2
    go_ret
    exact ⟨rfl, rfl⟩
   ·by_cases n3 : m < 0
    ·clear h
     go_enter Tryz.func7, Tryz.ntmps7
     go_wp2
     go_ret
     exact ⟨rfl, rfl⟩
    ·have n4 : n < m := by omega
     clear h
     go_enter Tryz.func7, Tryz.ntmps7
     go_wp2
     go_ret
     exact ⟨rfl, rfl⟩
theorem prow_c (k n m : Int) (w : World) :
  Calls Tryz.prog 7 #[.int .i64 k, .int .i64 n, .int .i64 m] w fun e w' => e = .returned (.int .i64 (Pn.rowI k n m : Nat)) ∧ Below w.heap.size w w' := by
 refine (prow0_c k n m w).mono ?_
 rintro e w' ⟨h1, rfl⟩
 exact ⟨h1, Below.refl _ _⟩
theorem pkind_c (k : Int) (h1 : 1 ≤ k) (h3 : k ≤ 3) (w : World) :
  Calls Tryz.prog 60 #[.int .i64 k] w fun e w' => e = .returned (.int .i64 ((if k = 1 then 1 else if k = 2 then 4 else 3 : Nat) : Nat)) ∧ w' = w := by
 obtain rfl | rfl | rfl : k = 1 ∨ k = 2 ∨ k = 3 := by omega
 all_goals
  go_enter Tryz.func60, Tryz.ntmps60
  go_wp2
  go_ret
  exact ⟨rfl, rfl⟩
end Go.Proofs.YtcaalcjcpddhaaaGreat.Zz
