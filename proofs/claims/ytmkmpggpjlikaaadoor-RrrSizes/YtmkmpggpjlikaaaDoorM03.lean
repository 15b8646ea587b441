/-
  Appends to a row of the call's own, out of whatever source (nothing among them): as a step of a list of operations, and of a region that draws its order. Blocks of cells that may be written, whole: what they hold, what a store makes of them, what stays; numbers in memory. Plain arithmetic of binomials: ways, the place of a word among those of its class, the word of a place. Nothing of the program is in here. Plain arithmetic of rows of bits in blocks of fifteen: each block's class and offset, the offsets one behind the other, and the way back. Nothing of the program is in here. The contracts of the document's block and low, and of the law that two rows of numbers are one. An argument of the type api.Bits, opened: its number, its words, where they lie. Plain arithmetic of rows of bits with counts beside them. Nothing of the program is in here. Numbers in memory (a slice of ints that reads as a list), boxes of four cells, and an argument of the type api.Plain, opened. The contract of Same, the law that two rows are one. The contracts of the document's Numbers and Same. The contracts of the document's Same of rows of numbers, and of rows in blocks.
-/
import Derived.Test.YtmkmpggpjlikaaaDoorRows
import Derived.WalkKit
import Derived.OwnWalk
import Derived.Deep.AppendLies
import Derived.WalkSmall
import Derived.Test.YtmkmpggpjlikaaaDoorM00
import Derived.Test.YtmkmpggpjlikaaaDoorM01
import Derived.Test.YtmkmpggpjlikaaaDoorM02
import Derived.ProofKit
import Derived.OpenShut
import Derived.Lib.SmallJoins
import Derived.Deep.Strs
import Derived.Deep.QuietTactic
import Derived.BigQuiet
namespace Go.Proofs.YtmkmpggpjlikaaaDoor
open Go.RowKit
namespace Ap
theorem owns_below {w w' : World} {base e n : Nat} {v : Value} {vs : List Value} (h : w.ownsRow base e 1 v n vs) (hb : Below w.heap.size w w') : w'.ownsRow base e 1 v n vs := by
  obtain ⟨h1, h2 | ⟨g, cap, cur, e1, e2, hh, r⟩⟩ := h
  · exact ⟨h1, .inl h2⟩
  · exact ⟨h1, .inr ⟨g, cap, cur, e1, e2, (hb.block g ((Array.getElem?_eq_some_iff.1 hh).1)).trans hh, r⟩⟩
theorem owns_shape {w : World} {base e n : Nat} {v : Value} {vs : List Value} (h : w.ownsRow base e 1 v n vs) : ∃ ao cap, v = .slice ao n cap ∧ n ≤ cap ∧ (∀ k, v.ownBlock = some k → base ≤ k ∧ k < w.heap.size) := by
  have hl := h.lt
  obtain ⟨h1, ⟨rfl, rfl⟩ | ⟨g, cap, cur, rfl, e2, hh, r, _⟩⟩ := h
  · exact ⟨none, 0, rfl, Nat.le_refl _, hl⟩
  · exact ⟨some ⟨g, 0, none⟩, cap, rfl, r, hl⟩
theorem run_append_zero (w : World) (base : Nat) (t ty e : TypeId) (i : TypeInfo) (size : Nat) (ht : Tryd.prog.underlying t = some (.slice e)) (hi : Tryd.prog.info? e = some i)
    (v : Value) (n : Nat) (vs : List Value) (hown : w.ownsRow base e size v n vs) (xa : Option Addr) (c : Nat) :
    (Builtin.append_ #[t, t] ty #[v, .slice xa 0 c]).run Tryd.prog w = .ok v w := by
  have hc := fun ad : Addr => run_firstCells_some (P := Tryd.prog) w i.size 0 ad 0 c [] (by simp) (by simp)
  rcases hown.2 with ⟨rfl, rfl⟩ | ⟨g, cap, cur, rfl, _, _, hnc, _⟩
  · cases xa with
    | none => simp [Builtin.append_, run_underlying ht, sizeOf, typeInfo, hi, Builtin.lenOf, Builtin.firstCells]
    | some ad => simp [Builtin.append_, run_underlying ht, sizeOf, typeInfo, hi, Builtin.lenOf, hc]
  · cases xa with
    | none => simp [Builtin.append_, run_underlying ht, sizeOf, typeInfo, hi, Builtin.lenOf, Builtin.firstCells, hnc, storeCells]
    | some ad => simp [Builtin.append_, run_underlying ht, sizeOf, typeInfo, hi, Builtin.lenOf, hc, hnc, storeCells]

theorem step_append_u {ops : Array Oper} {o : Oper} {a : Act} {w : World} {K : Act → World → Prop} {Q : Exit → Act → World → Prop} {E : Prop} (hgd : o.guard = none) (s x : Operand) (t : TypeId)
    (ho : o.op = .call { callee := .builtin .append, args := #[s, x], argTypes := #[t, t] })
    (base : Nat) (e : TypeId) (i : TypeInfo) (z : Value) (bytes : Nat) (ht : Tryd.prog.underlying t = some (.slice e)) (hi : Tryd.prog.info? e = some i) (hz : i.zero = some z)
    (hsize : i.size = 1) (hby : i.bytes = bytes) (hzs : z.cells.size = 1)
    (v : Value) (n : Nat) (vs : List Value) (hs : a.eval s = v) (hown : w.ownsRow base e 1 v n vs)
    (xa : Option Addr) (m c : Nat) (news : List Value) (hx : a.eval x = .slice xa m c) (hl : news.length = m) (hsrc : 0 < m → ∃ ad, xa = some ad ∧ ∀ j u, news[j]? = some u → w.cell? (ad.add j) = some u) (h1 : ∀ u ∈ news, u.oneCell' = true)
    (h63 : n + m ≤ maxLen) (hbytes : (n + m) * bytes ≤ 140737488355328) (hbase : base ≤ w.heap.size)
    (h : ∀ ao cap w', w'.ownsRow base e 1 (.slice ao (n + m) cap) (n + m) (vs ++ news) → n + m ≤ cap → Below base w w' → (∀ k, (Value.slice ao (n + m) cap).ownBlock = some k → (v.ownBlock = some k ∨ k = w.heap.size) ∧ k < w'.heap.size) → (∀ k, k < w.heap.size → v.ownBlock ≠ some k → w'.heap[k]? = w.heap[k]?) → w.heap.size ≤ w'.heap.size → K (a.put o.dst (.slice ao (n + m) cap)) w') :
    if Region.wanted o (yielded ops a.tmps) = true then Oper.wp Tryd.prog o a w K Q else E := by
  have hw : Region.wanted o (yielded ops a.tmps) = true := by simp [Region.wanted, hgd]
  rw [if_pos hw]
  by_cases hm : m = 0
  · subst hm
    have hn : news = [] := List.eq_nil_of_length_eq_zero hl
    subst hn
    have hr := run_append_zero w base t o.type e i 1 ht hi v n vs hown xa c
    obtain ⟨ao, cap, rfl, hc, hk⟩ := owns_shape hown
    unfold Oper.wp execOp
    simp only [ho, resolve, invoke, builtin, Sem.run_bind, Sem.run_pure, Result.andThen_ok, List.map_toArray, List.map_cons, List.map_nil, hs, hx, hr]
    refine h ao cap w (by simpa using hown) hc (Below.refl _ _) (fun k e => ⟨.inl e, (hk k e).2⟩) (fun _ _ _ => rfl) (Nat.le_refl _)
  · obtain ⟨ad, rfl, hn⟩ := hsrc (by omega)
    refine wp_append_lies w s x t ho base e i z 1 bytes ht hi hz hsize hby hzs (by decide) v n vs hs hown ad m c news hx (by omega) hn h1 (by omega) h63 hbytes hbase w.heap.size rfl ?_
    intro g cap w' o1 o2 o3 o4
    refine h (some ⟨g, 0, none⟩) cap w' o1 ?_ ?_ ?_ ?_ o2.size
    · obtain ⟨_, h | ⟨g', cap', cur, e', _, hh, hle, _⟩⟩ := o1
      · simp at h
      · simp only [Value.slice.injEq] at e'
        omega
    · exact (Below.refl _ _).grown o2 hbase (fun k hk => (hown.lt k hk).1)
    · intro k hk
      simp only [Value.ownBlock, Option.some.injEq] at hk
      subst hk
      exact ⟨o3, o4⟩
    · intro k hk hne
      exact o2.block k hk (fun q => hne q.symm)

/-- An append to a row of the call's own, out of whatever source (nothing among them). -/
theorem wpList_append_u {ops : Array Oper} {rest : List Oper} {o : Oper} {a : Act} {w : World} {Q : Exit → Act → World → Prop} (hgd : o.guard = none) (s x : Operand) (t : TypeId)
    (ho : o.op = .call { callee := .builtin .append, args := #[s, x], argTypes := #[t, t] })
    (base : Nat) (e : TypeId) (i : TypeInfo) (z : Value) (bytes : Nat) (ht : Tryd.prog.underlying t = some (.slice e)) (hi : Tryd.prog.info? e = some i) (hz : i.zero = some z)
    (hsize : i.size = 1) (hby : i.bytes = bytes) (hzs : z.cells.size = 1)
    (v : Value) (n : Nat) (vs : List Value) (hs : a.eval s = v) (hown : w.ownsRow base e 1 v n vs)
    (xa : Option Addr) (m c : Nat) (news : List Value) (hx : a.eval x = .slice xa m c) (hl : news.length = m) (hsrc : 0 < m → ∃ ad, xa = some ad ∧ ∀ j u, news[j]? = some u → w.cell? (ad.add j) = some u) (h1 : ∀ u ∈ news, u.oneCell' = true)
    (h63 : n + m ≤ maxLen) (hbytes : (n + m) * bytes ≤ 140737488355328) (hbase : base ≤ w.heap.size)
    (h : ∀ ao cap w', w'.ownsRow base e 1 (.slice ao (n + m) cap) (n + m) (vs ++ news) → n + m ≤ cap → Below base w w' → wpList Tryd.prog ops Q rest (a.put o.dst (.slice ao (n + m) cap)) w') : wpList Tryd.prog ops Q (o :: rest) a w :=
  wpList_plain hgd fun K hK => by
    have hw : Region.wanted o (yielded ops a.tmps) = true := by simp [Region.wanted, hgd]
    have := step_append_u (ops := ops) (o := o) (a := a) (w := w) (K := K) (Q := Q) (E := True) hgd s x t ho base e i z bytes ht hi hz hsize hby hzs v n vs hs hown xa m c news hx hl hsrc h1 h63 hbytes hbase (fun ao cap w' h1 h2 h3 _ _ _ => hK _ _ (h ao cap w' h1 h2 h3))
    rw [if_pos hw] at this
    exact this

theorem owns_alloc {w : World} {base e n : Nat} {v : Value} {vs : List Value} (h : w.ownsRow base e 1 v n vs) (o : Obj) : (w.alloc o).ownsRow base e 1 v n vs := h.alloc o
/-- Two rows that lie in blocks of their own. -/
def Apart (u v : Value) : Prop := ∀ k, u.ownBlock = some k → v.ownBlock ≠ some k
theorem Apart.symm {u v : Value} (h : Apart u v) : Apart v u := fun k hk hu => h k hu hk
theorem apart_nil (v : Value) : Apart v (.slice none 0 0) := fun k _ h => by cases h
/-- A row stays where another one grows. -/
theorem owns_other {w w' : World} {base e n : Nat} {v u : Value} {vs : List Value} (h : w.ownsRow base e 1 v n vs) (hkeep : ∀ k, k < w.heap.size → u.ownBlock ≠ some k → w'.heap[k]? = w.heap[k]?) (ha : Apart v u) : w'.ownsRow base e 1 v n vs := by
  have hl := h.lt
  obtain ⟨h1, h2 | ⟨g, cap, cur, e1, e2, hh, r⟩⟩ := h
  · exact ⟨h1, .inl h2⟩
  · subst e1
    exact ⟨h1, .inr ⟨g, cap, cur, rfl, e2, (hkeep g (hl g rfl).2 (ha g rfl)).trans hh, r⟩⟩
theorem apart_new {w w' : World} {base e n : Nat} {v u u' : Value} {vs : List Value} (h : w.ownsRow base e 1 v n vs) (hn : ∀ k, u'.ownBlock = some k → (u.ownBlock = some k ∨ k = w.heap.size) ∧ k < w'.heap.size) (ha : Apart v u) : Apart v u' := by
  intro k hk hu
  rcases (hn k hu).1 with c | c
  · exact ha k hk c
  · have := (h.lt k hk).2
    omega
/-- As wpList_append_u, and it tells what stays. -/
theorem wpList_append_x {ops : Array Oper} {rest : List Oper} {o : Oper} {a : Act} {w : World} {Q : Exit → Act → World → Prop} (hgd : o.guard = none) (s x : Operand) (t : TypeId)
    (ho : o.op = .call { callee := .builtin .append, args := #[s, x], argTypes := #[t, t] })
    (base : Nat) (e : TypeId) (i : TypeInfo) (z : Value) (bytes : Nat) (ht : Tryd.prog.underlying t = some (.slice e)) (hi : Tryd.prog.info? e = some i) (hz : i.zero = some z)
    (hsize : i.size = 1) (hby : i.bytes = bytes) (hzs : z.cells.size = 1)
    (v : Value) (n : Nat) (vs : List Value) (hs : a.eval s = v) (hown : w.ownsRow base e 1 v n vs)
    (xa : Option Addr) (m c : Nat) (news : List Value) (hx : a.eval x = .slice xa m c) (hl : news.length = m) (hsrc : 0 < m → ∃ ad, xa = some ad ∧ ∀ j u, news[j]? = some u → w.cell? (ad.add j) = some u) (h1 : ∀ u ∈ news, u.oneCell' = true)
    (h63 : n + m ≤ maxLen) (hbytes : (n + m) * bytes ≤ 140737488355328) (hbase : base ≤ w.heap.size)
    (h : ∀ ao cap w', w'.ownsRow base e 1 (.slice ao (n + m) cap) (n + m) (vs ++ news) → n + m ≤ cap → Below base w w' → (∀ k, (Value.slice ao (n + m) cap).ownBlock = some k → (v.ownBlock = some k ∨ k = w.heap.size) ∧ k < w'.heap.size) → (∀ k, k < w.heap.size → v.ownBlock ≠ some k → w'.heap[k]? = w.heap[k]?) → w.heap.size ≤ w'.heap.size → wpList Tryd.prog ops Q rest (a.put o.dst (.slice ao (n + m) cap)) w') : wpList Tryd.prog ops Q (o :: rest) a w :=
  wpList_plain hgd fun K hK => by
    have hw : Region.wanted o (yielded ops a.tmps) = true := by simp [Region.wanted, hgd]
    have := step_append_u (ops := ops) (o := o) (a := a) (w := w) (K := K) (Q := Q) (E := True) hgd s x t ho base e i z bytes ht hi hz hsize hby hzs v n vs hs hown xa m c news hx hl hsrc h1 h63 hbytes hbase (fun ao cap w' h1 h2 h3 h4 h5 h6 => hK _ _ (h ao cap w' h1 h2 h3 h4 h5 h6))
    rw [if_pos hw] at this
    exact this
end Ap
end Go.Proofs.YtmkmpggpjlikaaaDoor

namespace Go.Proofs.YtmkmpggpjlikaaaDoor
open Go.RowKit
set_option linter.unusedVariables false

/-- Block b holds just these cells, and may be written. -/
def Cel (w : World) (b : Nat) (cs : List Value) (T : TypeId) : Prop := w.heap[b]? = some (.cells cs.toArray T (0, 0))
theorem Cel.lt {w : World} {b : Nat} {cs : List Value} {T : TypeId} (h : Cel w b cs T) : b < w.heap.size := (Array.getElem?_eq_some_iff.1 h).1
theorem Cel.cell {w : World} {b : Nat} {cs : List Value} {T : TypeId} (h : Cel w b cs T) (i : Nat) {v : Value} (hv : cs[i]? = some v) : w.cell? ⟨b, i, none⟩ = some v := by
  unfold World.cell?
  rw [show w.heap[({ block := b, off := i, spot := none } : Addr).block]? = _ from h]
  simpa using hv
theorem Cel.frozen {w : World} {b : Nat} {cs : List Value} {T : TypeId} (h : Cel w b cs T) (i : Nat) : w.frozen? ⟨b, i, none⟩ = false := by
  unfold World.frozen?
  rw [show w.heap[({ block := b, off := i, spot := none } : Addr).block]? = _ from h]
  simp
theorem Cel.set {w : World} {b : Nat} {cs : List Value} {T : TypeId} (h : Cel w b cs T) (i : Nat) (v : Value) : Cel (w.setCell ⟨b, i, none⟩ v) b (cs.set i v) T := by
  unfold Cel at h ⊢
  simp only [World.setCell, Array.getElem?_modify]
  rw [if_pos trivial, h]
  simp
theorem Cel.other {w : World} {b : Nat} {cs : List Value} {T : TypeId} (h : Cel w b cs T) {a : Addr} (ha : b ≠ a.block) (v : Value) : Cel (w.setCell a v) b cs T := (Below.heap_setCell w a v b ha).trans h
theorem Cel.keep {w w' : World} {b base : Nat} {cs : List Value} {T : TypeId} (h : Cel w b cs T) (hb : Below base w w') (hlt : b < base) : Cel w' b cs T := (hb.block b hlt).trans h
theorem Cel.kept {w w' : World} {b : Nat} {cs : List Value} {T : TypeId} (h : Cel w b cs T) (hb : Below w.heap.size w w') : Cel w' b cs T := h.keep hb h.lt
theorem Cel.drew {w : World} {b : Nat} {cs : List Value} {T : TypeId} (h : Cel w b cs T) : Cel w.drew b cs T := h
theorem Cel.new (w : World) (cs : List Value) (T : TypeId) : Cel (w.alloc (.cells cs.toArray T)) w.heap.size cs T := by
  show (w.heap.push (.cells cs.toArray T))[w.heap.size]? = _
  simp
theorem Cel.new2 (w : World) (o : Obj) (cs : List Value) (T : TypeId) : Cel ((w.alloc o).alloc (.cells cs.toArray T)) (w.heap.size + 1) cs T := by
  have := Cel.new (w.alloc o) cs T
  simpa using this
theorem Cel.alloc {w : World} {b : Nat} {cs : List Value} {T : TypeId} (h : Cel w b cs T) (o : Obj) : Cel (w.alloc o) b cs T := h.kept ((Below.refl _ _).alloc (Nat.le_refl _) _)
end Go.Proofs.YtmkmpggpjlikaaaDoor

namespace Go.Proofs.YtmkmpggpjlikaaaDoor
open Num
namespace Bn

def ch : Nat → Nat → Nat
  | _, 0 => 1
  | 0, _ + 1 => 0
  | n + 1, k + 1 => ch n k + ch n (k + 1)
theorem ch_zero (n : Nat) : ch n 0 = 1 := by cases n <;> rfl
theorem ch_succ (n k : Nat) : ch (n + 1) (k + 1) = ch n k + ch n (k + 1) := rfl
theorem ch_out : ∀ n k, n < k → ch n k = 0 := by
  intro n
  induction n with
  | zero => intro k h; match k, h with | k + 1, _ => rfl
  | succ n ih => intro k h; match k, h with | k + 1, h => rw [ch_succ, ih k (by omega), ih (k + 1) (by omega)]
theorem ch_self : ∀ n, ch n n = 1 := by
  intro n
  induction n with
  | zero => rfl
  | succ n ih => rw [ch_succ, ih, ch_out n (n + 1) (by omega)]
theorem ch_pos : ∀ n k, k ≤ n → 0 < ch n k := by
  intro n
  induction n with
  | zero => intro k h; obtain rfl : k = 0 := by omega
            exact Nat.one_pos
  | succ n ih =>
    intro k h
    match k, h with
    | 0, _ => rw [ch_zero]; exact Nat.one_pos
    | k + 1, h => rw [ch_succ]; have := ih k (by omega); omega
theorem ch_le : ∀ n k, ch n k ≤ 2 ^ n := by
  intro n
  induction n with
  | zero => intro k; match k with | 0 => exact Nat.le_refl _ | k + 1 => exact Nat.zero_le _
  | succ n ih =>
    intro k
    match k with
    | 0 => rw [ch_zero]; exact Nat.one_le_two_pow
    | k + 1 => rw [ch_succ, Nat.pow_succ]; have := ih k; have := ih (k + 1); omega
theorem ch_mono (n k : Nat) : ch n k ≤ ch (n + 1) k := by
  match k with
  | 0 => rw [ch_zero, ch_zero]; exact Nat.le_refl _
  | k + 1 => rw [ch_succ]; omega
theorem ch_symm : ∀ n k, k ≤ n → ch n k = ch n (n - k) := by
  intro n
  induction n with
  | zero => intro k h; obtain rfl : k = 0 := by omega
            rfl
  | succ n ih =>
    intro k h
    match k, h with
    | 0, _ => rw [ch_zero, Nat.sub_zero, ch_self]
    | k + 1, h =>
      by_cases c : k = n
      · subst c; rw [ch_self, Nat.sub_self, ch_zero]
      · have e : n + 1 - (k + 1) = (n - (k + 1)) + 1 := by omega
        rw [ch_succ, e, ch_succ, ← ih (k + 1) (by omega), show n - (k + 1) + 1 = n - k by omega, ← ih k (by omega)]
        omega
/-- The ways of fewer than k things together. -/
def sumTo (n : Nat) : Nat → Nat
  | 0 => 0
  | k + 1 => sumTo n k + ch n k
theorem sum_step (n : Nat) : ∀ k, sumTo (n + 1) (k + 1) = sumTo n k + sumTo n (k + 1) := by
  intro k
  induction k with
  | zero => simp [sumTo, ch_zero]
  | succ k ih =>
    rw [sumTo, ih, ch_succ]
    simp only [sumTo]
    omega
theorem sum_all : ∀ n, sumTo n (n + 1) = 2 ^ n := by
  intro n
  induction n with
  | zero => rfl
  | succ n ih =>
    have e : sumTo n (n + 2) = sumTo n (n + 1) + ch n (n + 1) := rfl
    rw [sum_step, e, ch_out n (n + 1) (by omega), ih, Nat.pow_succ]
    omega
theorem sum_mono (n : Nat) : ∀ d k, sumTo n k ≤ sumTo n (k + d) := by
  intro d
  induction d with
  | zero => intro k; exact Nat.le_refl _
  | succ d ih => intro k; have := ih k; rw [show k + (d + 1) = k + d + 1 by omega, sumTo]; omega
theorem sum_le (n k : Nat) (h : k ≤ n + 1) : sumTo n k ≤ 2 ^ n := by
  rw [← sum_all n]
  have := sum_mono n (n + 1 - k) k
  rw [show k + (n + 1 - k) = n + 1 by omega] at this
  exact this

/-- How many words of n bits and of the class of x are less than the lowest n bits of x. -/
def off (x : Nat) : Nat → Nat
  | 0 => 0
  | n + 1 => off x n + if x / 2 ^ n % 2 = 1 then ch n (cnt x (n + 1)) else 0
theorem off_lt (x : Nat) : ∀ n, off x n < ch n (cnt x n) := by
  intro n
  induction n with
  | zero => exact Nat.one_pos
  | succ n ih =>
    rw [off]
    by_cases hb : x / 2 ^ n % 2 = 1
    · rw [if_pos hb]
      have e : cnt x (n + 1) = cnt x n + 1 := by rw [cnt, hb]
      rw [e, ch_succ]
      omega
    · rw [if_neg hb]
      have e : cnt x (n + 1) = cnt x n := by rw [cnt]; omega
      rw [e]
      have := ch_mono n (cnt x n)
      omega
theorem off_mod (x m : Nat) : ∀ n, n ≤ m → off (x % 2 ^ m) n = off x n := by
  intro n
  induction n with
  | zero => intro _; rfl
  | succ n ih =>
    intro h
    rw [off, off, ih (by omega), bit_mod x m n (by omega), cnt_mod x m (n + 1) h]
def blk : Nat → Nat → Nat → Nat
  | 0, _, _ => 0
  | i + 1, k, o => if k = 0 then 0 else if ch i k ≤ o then 2 ^ i + blk i (k - 1) (o - ch i k) else blk i k o
theorem blk_zero (n o : Nat) : blk n 0 o = 0 := by
  cases n with
  | zero => rfl
  | succ n => rw [blk, if_pos rfl]
theorem blk_hi (i k o : Nat) (hk : k ≠ 0) (h : ch i k ≤ o) : blk (i + 1) k o = 2 ^ i + blk i (k - 1) (o - ch i k) := by rw [blk, if_neg hk, if_pos h]
theorem blk_lo (i k o : Nat) (hk : k ≠ 0) (h : ¬ ch i k ≤ o) : blk (i + 1) k o = blk i k o := by rw [blk, if_neg hk, if_neg h]
theorem blk_lt : ∀ n k o, blk n k o < 2 ^ n := by
  intro n
  induction n with
  | zero => intro k o; exact Nat.one_pos
  | succ n ih =>
    intro k o
    have p : 2 ^ (n + 1) = 2 ^ n + 2 ^ n := by rw [Nat.pow_succ]; omega
    by_cases hk : k = 0
    · subst hk; rw [blk_zero]; exact Nat.two_pow_pos _
    · by_cases h : ch n k ≤ o
      · rw [blk_hi n k o hk h]; have := ih (k - 1) (o - ch n k); omega
      · rw [blk_lo n k o hk h]; have := ih k o; omega
theorem mod_bit (x n : Nat) : x % 2 ^ (n + 1) = x % 2 ^ n + 2 ^ n * (x / 2 ^ n % 2) := by rw [Nat.mod_pow_succ]
theorem blk_off (x : Nat) : ∀ n, blk n (cnt x n) (off x n) = x % 2 ^ n := by
  intro n
  induction n with
  | zero => simp [blk, Nat.mod_one]
  | succ n ih =>
    rw [mod_bit]
    by_cases hb : x / 2 ^ n % 2 = 1
    · have e : cnt x (n + 1) = cnt x n + 1 := by rw [cnt, hb]
      have eo : off x (n + 1) = off x n + ch n (cnt x n + 1) := by rw [off, if_pos hb, e]
      rw [e, eo, blk_hi _ _ _ (by omega) (by omega), hb, Nat.add_sub_cancel, Nat.add_sub_cancel, ih]
      omega
    · have e : cnt x (n + 1) = cnt x n := by rw [cnt]; omega
      have eo : off x (n + 1) = off x n := by rw [off, if_neg hb, Nat.add_zero]
      have h0 : x / 2 ^ n % 2 = 0 := by omega
      rw [e, eo, h0, Nat.mul_zero]
      show _ = x % 2 ^ n
      by_cases hk : cnt x n = 0
      · rw [← ih, hk, blk_zero, blk_zero]
      · have := off_lt x n
        rw [blk_lo _ _ _ hk (by omega), ih]
theorem off_order : ∀ n a b, cnt a n = cnt b n → a % 2 ^ n < b % 2 ^ n → off a n < off b n := by
  intro n
  induction n with
  | zero => intro a b _ h; simp [Nat.mod_one] at h
  | succ n ih =>
    intro a b hc h
    rw [mod_bit, mod_bit b] at h
    have la := Nat.mod_lt a (Nat.two_pow_pos n)
    have lb := Nat.mod_lt b (Nat.two_pow_pos n)
    have oa := off_lt a n
    by_cases ha : a / 2 ^ n % 2 = 1
    · by_cases hb : b / 2 ^ n % 2 = 1
      · have ea : cnt a (n + 1) = cnt a n + 1 := by rw [cnt, ha]
        have eb : cnt b (n + 1) = cnt b n + 1 := by rw [cnt, hb]
        rw [off, off, if_pos ha, if_pos hb, hc]
        rw [ha, hb] at h
        have := ih a b (by omega) (by omega)
        omega
      · have hb0 : b / 2 ^ n % 2 = 0 := by omega
        rw [ha, hb0] at h
        omega
    · have ha0 : a / 2 ^ n % 2 = 0 := by omega
      have ea : cnt a (n + 1) = cnt a n := by rw [cnt]; omega
      by_cases hb : b / 2 ^ n % 2 = 1
      · rw [off, off, if_neg ha, if_pos hb, ← hc, ea]
        omega
      · have hb0 : b / 2 ^ n % 2 = 0 := by omega
        have eb : cnt b (n + 1) = cnt b n := by rw [cnt]; omega
        rw [off, off, if_neg ha, if_neg hb]
        rw [ha0, hb0] at h
        have := ih a b (by omega) (by omega)
        omega
theorem off_same (n a b : Nat) (hc : cnt a n = cnt b n) (h : off a n = off b n) : a % 2 ^ n = b % 2 ^ n := by
  rw [← blk_off a n, ← blk_off b n, hc, h]
theorem off_of (n a b : Nat) (h : a % 2 ^ n = b % 2 ^ n) : off a n = off b n := by
  rw [← off_mod a n n (Nat.le_refl _), ← off_mod b n n (Nat.le_refl _), h]
theorem off_lt_iff (n a b : Nat) (hc : cnt a n = cnt b n) : (a % 2 ^ n < b % 2 ^ n) ↔ off a n < off b n := by
  constructor
  · exact off_order n a b hc
  · intro h
    rcases Nat.lt_trichotomy (a % 2 ^ n) (b % 2 ^ n) with c | c | c
    · exact c
    · have := off_of n a b c; omega
    · have := off_order n b a hc.symm c; omega
theorem blk_first : ∀ n k, k ≤ n → blk n k 0 = 2 ^ k - 1 := by
  intro n
  induction n with
  | zero => intro k h; obtain rfl : k = 0 := by omega
            rfl
  | succ n ih =>
    intro k h
    by_cases hk : k = 0
    · subst hk; rw [blk_zero]
    · by_cases c : k = n + 1
      · subst c
        have z := ch_out n (n + 1) (by omega)
        have p := Nat.two_pow_pos n
        rw [blk_hi _ _ _ hk (by omega), Nat.add_sub_cancel, Nat.zero_sub, ih n (Nat.le_refl _), Nat.pow_succ]
        omega
      · have := ch_pos n k (by omega)
        rw [blk_lo _ _ _ hk (by omega), ih k (by omega)]
theorem blk_last : ∀ n k, k ≤ n → blk n k (ch n k - 1) = (2 ^ k - 1) * 2 ^ (n - k) := by
  intro n
  induction n with
  | zero => intro k h; obtain rfl : k = 0 := by omega
            rfl
  | succ n ih =>
    intro k h
    match k, h with
    | 0, _ => rw [blk_zero]; simp
    | k + 1, h =>
      have p := ch_pos n k (by omega)
      rw [blk_hi _ _ _ (by omega) (by rw [ch_succ]; omega), ch_succ, Nat.add_sub_cancel, show ch n k + ch n (k + 1) - 1 - ch n (k + 1) = ch n k - 1 by omega, ih k (by omega), show n + 1 - (k + 1) = n - k by omega]
      have e : 2 ^ n = 2 ^ k * 2 ^ (n - k) := by rw [← Nat.pow_add, show k + (n - k) = n by omega]
      have q := Nat.two_pow_pos k
      rw [e, Nat.pow_succ, show 2 ^ k * 2 - 1 = 2 ^ k + (2 ^ k - 1) by omega, Nat.add_mul]
theorem ch62 (n k : Nat) (h : n ≤ 62) : ch n k ≤ 4611686018427387904 := by
  have := ch_le n k
  have : 2 ^ n ≤ 2 ^ 62 := Nat.pow_le_pow_right (by decide) h
  omega

/-- What Choose answers. -/
def chN (n k : Int) : Nat := if n < 0 ∨ 62 < n ∨ k < 0 ∨ n < k then 0 else ch n.toNat k.toNat
def wdN (n k : Int) : Nat := if chN n k = 0 then 0 else Go.bitLen (chN n k - 1)
def ofK (x : Nat) (n : Int) : Nat := if n < 0 ∨ 62 < n then 0 else cnt x n.toNat
def ofO (x : Nat) (n : Int) : Nat := if n < 0 ∨ 62 < n then 0 else off x n.toNat
def bkX (n k : Int) (o : Nat) : Nat := if chN n k ≤ o then 0 else blk n.toNat k.toNat o
def bkB (n k : Int) (o : Nat) : Bool := decide (o < chN n k)
theorem chN_in (n k : Nat) (h : n ≤ 62) : chN n k = ch n k := by
  unfold chN
  by_cases c : n < k
  · rw [if_pos (by omega), ch_out n k c]
  · rw [if_neg (by omega), Int.toNat_natCast, Int.toNat_natCast]
theorem chN_le (n k : Int) : chN n k ≤ 4611686018427387904 := by
  unfold chN
  split
  · omega
  · exact ch62 _ _ (by omega)
theorem wd_le (n k : Int) : wdN n k ≤ 62 := by
  unfold wdN
  split
  · omega
  · have := chN_le n k
    exact len_le _ 62 (by omega)
theorem lt_len (x : Nat) (h : x < 18446744073709551616) : x < 2 ^ Go.bitLen x := by
  by_cases h0 : x = 0
  · subst h0; exact Nat.two_pow_pos _
  · obtain ⟨p, hp, h1, _, hd, _⟩ := long (x : Int) (by omega) (by omega) (by omega)
    unfold lenI at hp
    rw [Int.toNat_natCast] at hp
    have hp2 : Go.bitLen x = p := by omega
    rw [hp2]
    have e : x / 2 ^ (p - 1) = 1 := by
      rw [shr_nat _ _ (by omega), Int.toNat_natCast] at hd
      omega
    have e2 : 2 ^ p = 2 ^ (p - 1) * 2 := by
      obtain ⟨m, rfl⟩ : ∃ m, p = m + 1 := ⟨p - 1, by omega⟩
      rw [Nat.add_sub_cancel, Nat.pow_succ]
    have q := Nat.two_pow_pos (p - 1)
    have := Nat.lt_mul_div_succ x q
    rw [e] at this
    omega
theorem len_top (x : Nat) (h : x < 18446744073709551616) (h0 : 0 < Go.bitLen x) : x / 2 ^ (Go.bitLen x - 1) = 1 := by
  have hx : x ≠ 0 := by
    intro e; subst e
    have := len_le 0 0 (by decide)
    omega
  obtain ⟨p, hp, h1, _, hd, _⟩ := long (x : Int) (by omega) (by omega) (by omega)
  unfold lenI at hp
  rw [Int.toNat_natCast] at hp
  have hp2 : Go.bitLen x = p := by omega
  rw [hp2]
  rw [shr_nat _ _ (by omega), Int.toNat_natCast] at hd
  omega
theorem len_mono (x y : Nat) (h : x ≤ y) (hy : y < 18446744073709551616) : Go.bitLen x ≤ Go.bitLen y := len_le _ _ (Nat.lt_of_le_of_lt h (lt_len y hy))
end Bn
end Go.Proofs.YtmkmpggpjlikaaaDoor

namespace Go.Proofs.YtmkmpggpjlikaaaDoor
open Num Bn
namespace Bit
set_option linter.unusedVariables false

/-- How many blocks N bits have. -/
def nb (N : Nat) : Nat := (N + 14) / 15
/-- Block i of the bits f. -/
def blv (N : Nat) (f : Nat → Bool) (i : Nat) : Nat := numOf 15 fun k => decide (15 * i + k < N) && f (15 * i + k)
def bcl (N : Nat) (f : Nat → Bool) (i : Nat) : Nat := cnt (blv N f i) 15
def bof (N : Nat) (f : Nat → Bool) (i : Nat) : Nat := off (blv N f i) 15
/-- How many bits an offset of class k has. -/
def kwd (k : Nat) : Nat := Go.bitLen (ch 15 k - 1)
def bwd (N : Nat) (f : Nat → Bool) (i : Nat) : Nat := kwd (bcl N f i)
/-- Where the offset of block i begins. -/
def bat (N : Nat) (f : Nat → Bool) : Nat → Nat
  | 0 => 0
  | i + 1 => bat N f i + bwd N f i
/-- How many bits are 1 ahead of block i. -/
def bon (N : Nat) (f : Nat → Bool) : Nat → Nat
  | 0 => 0
  | i + 1 => bon N f i + bcl N f i
def bits (x n : Nat) : List Bool := (List.range n).map x.testBit
/-- The offsets of the first i blocks. -/
def bofP (N : Nat) (f : Nat → Bool) : Nat → List Bool
  | 0 => []
  | i + 1 => bofP N f i ++ bits (bof N f i) (bwd N f i)
def bclP (N : Nat) (f : Nat → Bool) (i : Nat) : List Nat := (List.range i).map (bcl N f)

theorem length_bits (x n : Nat) : (bits x n).length = n := by simp [bits]
theorem length_bofP (N : Nat) (f : Nat → Bool) (i : Nat) : (bofP N f i).length = bat N f i := by
  induction i with
  | zero => rfl
  | succ i ih => rw [bofP, List.length_append, ih, length_bits, bat]
theorem length_bclP (N : Nat) (f : Nat → Bool) (i : Nat) : (bclP N f i).length = i := by simp [bclP]
theorem bcl_le (N : Nat) (f : Nat → Bool) (i : Nat) : bcl N f i ≤ 15 := cnt_le _ _
theorem kwd_le (k : Nat) : kwd k ≤ 15 := len_le _ 15 (by
  have := ch_le 15 k
  have p : (2 : Nat) ^ 15 = 32768 := by decide
  omega)
theorem bwd_le (N : Nat) (f : Nat → Bool) (i : Nat) : bwd N f i ≤ 15 := kwd_le _
theorem kwd_le13 (k : Nat) (h : k ≤ 15) : kwd k ≤ 13 := by
  match k, h with
  | 0, _ | 1, _ | 2, _ | 3, _ | 4, _ | 5, _ | 6, _ | 7, _ | 8, _ | 9, _ | 10, _ | 11, _ | 12, _ | 13, _ | 14, _ | 15, _ => decide +kernel
theorem bat_le (N : Nat) (f : Nat → Bool) (i : Nat) : bat N f i ≤ 13 * i := by
  induction i with
  | zero => exact Nat.le_refl _
  | succ i ih => have := kwd_le13 (bcl N f i) (bcl_le N f i); rw [bat, bwd]; omega
theorem bon_le (N : Nat) (f : Nat → Bool) (i : Nat) : bon N f i ≤ 15 * i := by
  induction i with
  | zero => exact Nat.le_refl _
  | succ i ih => have := bcl_le N f i; rw [bon]; omega
theorem bof_lt (N : Nat) (f : Nat → Bool) (i : Nat) : bof N f i < ch 15 (bcl N f i) := off_lt _ _
theorem bof_fit (N : Nat) (f : Nat → Bool) (i : Nat) : bof N f i < 2 ^ bwd N f i := by
  have h := bof_lt N f i
  have c := ch62 15 (bcl N f i) (by decide)
  have := lt_len (ch 15 (bcl N f i) - 1) (by omega)
  unfold bwd kwd
  omega
theorem num_bits (x n : Nat) (h : x < 2 ^ n) : numOf n x.testBit = x := by
  refine (eq_numOf n x _ fun k => ?_).symm
  by_cases c : k < n
  · simp [c]
  · have : x < 2 ^ k := Nat.lt_of_lt_of_le h (Nat.pow_le_pow_right (by decide) (by omega))
    rw [Nat.testBit_lt_two_pow this]
    simp [c]

/-- What is read at the place of offset i. -/
theorem bofP_get (N : Nat) (f : Nat → Bool) : ∀ n i t, i < n → t < bwd N f i → (bofP N f n)[bat N f i + t]? = some ((bof N f i).testBit t) := by
  intro n
  induction n with
  | zero => intro i t h; omega
  | succ n ih =>
    intro i t hi ht
    rw [bofP]
    by_cases c : i < n
    · have := ih i t c ht
      have hl := (List.getElem?_eq_some_iff.1 this).1
      rw [List.getElem?_append_left hl, this]
    · obtain rfl : i = n := by omega
      rw [List.getElem?_append_right (by rw [length_bofP]; omega), length_bofP, Nat.add_sub_cancel_left]
      unfold bits
      rw [List.getElem?_map, List.getElem?_range ht]
      rfl

/-- One block more of bits that are read back. -/
def addB (N : Nat) (out : List Bool) (b : Nat) : List Bool := out ++ bits b (min 15 (N - out.length))
/-- The way back: from the classes, and the offsets that lie one behind the other in the row (M, ys). -/
def decG (N : Nat) (M : Int) (ys : List Nat) : List Nat → Nat → List Bool → Option (List Bool)
  | [], _, out => some out
  | k :: l, at_, out =>
    if slcE M ys at_ (wdN 15 k) = 0 ∧ bkB 15 k (slcX M ys at_ (wdN 15 k)) = true then decG N M ys l (at_ + wdN 15 k) (addB N out (bkX 15 k (slcX M ys at_ (wdN 15 k)))) else none

theorem wdN_k (k : Nat) (h : k ≤ 15) : wdN 15 k = kwd k := by
  unfold wdN kwd
  have e : chN (15 : Int) (k : Int) = ch 15 k := chN_in 15 k (by decide)
  have := ch_pos 15 k h
  rw [e, if_neg (by omega)]
theorem blv_lt (N : Nat) (f : Nat → Bool) (i : Nat) : blv N f i < 2 ^ 15 := numOf_lt _ _
theorem bk_back (N : Nat) (f : Nat → Bool) (i : Nat) : bkB 15 (bcl N f i) (bof N f i) = true ∧ bkX 15 (bcl N f i) (bof N f i) = blv N f i := by
  have e : chN (15 : Int) (bcl N f i : Int) = ch 15 (bcl N f i) := chN_in 15 _ (by decide)
  have h := bof_lt N f i
  unfold bkB bkX
  rw [e, if_neg (by omega)]
  refine ⟨by simpa using h, ?_⟩
  have := blk_off (blv N f i) 15
  rw [show ((15 : Int).toNat) = 15 from rfl, Int.toNat_natCast]
  unfold bcl bof
  rw [this, Nat.mod_eq_of_lt (blv_lt N f i)]
theorem addB_step (N : Nat) (f : Nat → Bool) (i : Nat) : addB N ((List.range (min (15 * i) N)).map f) (blv N f i) = (List.range (min (15 * (i + 1)) N)).map f := by
  unfold addB
  have e : min (15 * (i + 1)) N = min (15 * i) N + min 15 (N - min (15 * i) N) := by omega
  rw [e, List.range_add, List.map_append, List.length_map, List.length_range]
  congr 1
  unfold bits
  rw [List.map_map]
  refine List.map_congr_left fun t ht => ?_
  have ht := List.mem_range.1 ht
  simp only [Function.comp]
  unfold blv
  rw [testBit_numOf]
  have a1 : t < 15 := by omega
  have a2 : min (15 * i) N = 15 * i := by omega
  have a3 : 15 * i + t < N := by omega
  rw [a2]
  simp [a1, a3]

/-- What a row's offsets read as, each at its place. -/
def Reads (N : Nat) (f : Nat → Bool) (M : Int) (ys : List Nat) : Prop := ∀ i, i < nb N → slcE M ys (bat N f i) (wdN 15 (bcl N f i)) = 0 ∧ slcX M ys (bat N f i) (wdN 15 (bcl N f i)) = bof N f i
theorem dec_enc (N : Nat) (f : Nat → Bool) (M : Int) (ys : List Nat) (h : Reads N f M ys) : ∀ d i, i + d = nb N → decG N M ys ((List.range' i d).map (bcl N f)) (bat N f i) ((List.range (min (15 * i) N)).map f) = some ((List.range N).map f) := by
  intro d
  induction d with
  | zero =>
    intro i hi
    have : min (15 * i) N = N := by unfold nb at hi; omega
    rw [this]
    rfl
  | succ d ih =>
    intro i hi
    obtain ⟨h1, h2⟩ := h i (by omega)
    obtain ⟨b1, b2⟩ := bk_back N f i
    rw [List.range'_succ, List.map_cons, decG, h2, if_pos ⟨h1, b1⟩, b2, addB_step]
    have e : bat N f i + wdN 15 (bcl N f i) = bat N f (i + 1) := by rw [wdN_k _ (bcl_le N f i)]; rfl
    rw [e]
    exact ih (i + 1) (by omega)
/-- The offsets, laid by From, read as they must. -/
theorem reads_row (N : Nat) (f : Nat → Bool) (hN : N ≤ 1048576) : Reads N f (bat N f (nb N)) (rowOf (bat N f (nb N)) fun j => (bofP N f (nb N)).getD j false) := by
  intro i hi
  have hb := bat_le N f (nb N)
  have hb2 : bat N f (nb N) ≤ 1048576 := by unfold nb at hb ⊢; omega
  have hw := bwd_le N f i
  have mono : ∀ d j, bat N f j ≤ bat N f (j + d) := by
    intro d
    induction d with
    | zero => intro j; exact Nat.le_refl _
    | succ d ih => intro j; have := ih j; rw [show j + (d + 1) = j + d + 1 by omega, bat]; omega
  have hm : bat N f (i + 1) ≤ bat N f (nb N) := by
    have := mono (nb N - (i + 1)) (i + 1)
    rw [show i + 1 + (nb N - (i + 1)) = nb N by omega] at this
    exact this
  rw [bat] at hm
  have ck := chk_rowOf (bat N f (nb N)) (fun j => (bofP N f (nb N)).getD j false) hb2
  rw [wdN_k _ (bcl_le N f i), show kwd (bcl N f i) = bwd N f i from rfl]
  have e0 : slcE (bat N f (nb N)) (rowOf (bat N f (nb N)) fun j => (bofP N f (nb N)).getD j false) (bat N f i) (bwd N f i) = 0 := by
    unfold slcE
    rw [if_neg (by rw [ck]; simp; omega), if_neg (by omega)]
  refine ⟨e0, ?_⟩
  unfold slcX
  rw [if_pos e0, Int.toNat_natCast, Int.toNat_natCast, ← num_bits (bof N f i) (bwd N f i) (bof_fit N f i)]
  rw [num_bits (bof N f i) (bwd N f i) (bof_fit N f i)]
  refine (eq_numOf _ _ _ fun k => ?_).symm
  by_cases c : k < bwd N f i
  · rw [bitAt_rowOf, List.getD_eq_getElem?_getD, bofP_get N f (nb N) i k hi c]
    simp [c, show bat N f i + k < bat N f (nb N) by omega]
  · have : bof N f i < 2 ^ k := Nat.lt_of_lt_of_le (bof_fit N f i) (Nat.pow_le_pow_right (by decide) (by omega))
    rw [Nat.testBit_lt_two_pow this]
    simp [c]
end Bit
end Go.Proofs.YtmkmpggpjlikaaaDoor

namespace Go.Proofs.YtmkmpggpjlikaaaDoor
open Go.RowKit Num Bit
set_option linter.unusedVariables false
set_option linter.unusedSimpArgs false
set_option maxRecDepth 100000

theorem numOf_more (f : Nat → Bool) (q : Nat) : ∀ d, (∀ k, q ≤ k → f k = false) → numOf (q + d) f = numOf q f := by
  intro d
  induction d with
  | zero => intro _; rfl
  | succ d ih =>
    intro h
    rw [show q + (d + 1) = q + d + 1 by omega, numOf, ih h, h (q + d) (by omega)]
    simp
def bkf (N : Nat) (xs : List Nat) (at_ : Nat) (k : Nat) : Bool := decide (at_ + k < N) && bitAt xs (at_ + k)
theorem or_step (f : Nat → Bool) (q : Nat) : numOf q f ||| 2 ^ q = numOf q f + 2 ^ q := by
  have := Nat.two_pow_add_eq_or_of_lt (numOf_lt q f) 1
  rw [Nat.mul_one] at this
  rw [Nat.or_comm, ← this, Nat.add_comm]

theorem Tryd.info4 : (Tryd.prog.info? 4).map (fun i => (i.zero, i.size, i.bytes)) = some (some (.bool false), 1, 1) := by kernel_rfl
def bvl (l : List Bool) : List Value := l.map fun b => Value.bool b
theorem bvl_snoc (x q : Nat) : bvl (Bit.bits x q) ++ [.bool (x.testBit q)] = bvl (Bit.bits x (q + 1)) := by
  unfold bvl Bit.bits
  rw [List.range_succ, List.map_append, List.map_append]
  rfl
theorem test_end (x q : Nat) : (((x : Int) / 2 ^ q).tmod 2 == 1) = x.testBit q := by
  rw [bit_test, shr_cast]
  have : ((x / 2 ^ q : Nat) : Int).tmod 2 = ((x / 2 ^ q % 2 : Nat) : Int) := by generalize x / 2 ^ q = z; rw [Int.tmod_eq_emod_of_nonneg (by omega)]; omega
  rw [this, Bool.eq_iff_iff, beq_iff_eq, decide_eq_true_eq]
  omega

end Go.Proofs.YtmkmpggpjlikaaaDoor

namespace Go.Proofs.YtmkmpggpjlikaaaDoor
open Go.ChangeShapes Go.WideShapes Go.ChangeAt Go.RowKit Go.Joins Num Bit
set_option maxRecDepth 100000

theorem own : ownKnob Tryd.prog.godebug = none := by kernel_rfl
theorem laidOut : laidOutB Tryd.prog = true := by kernel_rfl
theorem Tryd.cells24 : Tryd.prog.cellsOf 24 = 2 := by kernel_rfl
theorem Tryd.cells46 : Tryd.prog.cellsOf 46 = 1 := by kernel_rfl

theorem cell_lt {w : World} {b o : Nat} {s : Option Nat} {v : Value} (h : w.cell? ⟨b, o, s⟩ = some v) : b < w.heap.size ∧ s = none := by
  unfold World.cell? at h
  simp only at h
  split at h
  · rename_i hh
    refine ⟨(Array.getElem?_eq_some_iff.1 hh).1, ?_⟩
    cases s with
    | none => rfl
    | some x => simp at h
  · simp at h

theorem wd_of (w : World) (a : Addr) (len : Nat) (zs : List Int) (hl : len ≤ zs.length) (hc : ∀ i, i < zs.length → w.cell? (a.add i) = some (.int .u64 (zs.getD i 0))) (hw : ∀ n ∈ zs, (Lit.int .u64 n).wf = true) :
    ∃ xs : List Nat, xs.length = len ∧ Wd w (some a) xs ∧ Fit xs := by
  have hb : ∀ i, i < zs.length → 0 ≤ zs.getD i 0 ∧ zs.getD i 0 < 18446744073709551616 := by
    intro i hi
    have : zs.getD i 0 = zs[i] := by rw [List.getD_eq_getElem?_getD, List.getElem?_eq_getElem hi]; rfl
    rw [this]
    exact u64_wf _ (hw _ (List.getElem_mem hi))
  have hg : ∀ i, i < len → (gt ((zs.take len).map Int.toNat) i : Int) = zs.getD i 0 := by
    intro i hi
    have h := hb i (by omega)
    unfold gt
    rw [List.getD_eq_getElem?_getD, List.getElem?_map, List.getElem?_take_of_lt hi, List.getElem?_eq_getElem (by omega : i < zs.length)]
    rw [List.getD_eq_getElem?_getD, List.getElem?_eq_getElem (by omega : i < zs.length)] at h ⊢
    simp only [Option.map_some, Option.getD_some] at h ⊢
    omega
  refine ⟨(zs.take len).map Int.toNat, by simp; omega, ?_, ?_⟩
  · intro h0
    obtain ⟨b, off, s⟩ := a
    have h00 : 0 < zs.length := by simp at h0; omega
    have c0 := hc 0 h00
    have k := cell_lt (show w.cell? ⟨b, off, s⟩ = _ from c0)
    obtain ⟨k1, rfl⟩ := k
    refine ⟨b, off, rfl, k1, fun i hi => ?_⟩
    have hi2 : i < len := by simp at hi; omega
    have ci := hc i (by omega)
    rw [hg i hi2, ← ci]
    unfold Addr.add
    split
    · subst_vars; rfl
    · rfl
  · intro i
    by_cases hi : i < len
    · have h := hb i (by omega)
      have e := hg i hi
      omega
    · rw [gt_out _ _ (by simp; omega)]; decide

/-- WHAT A WALK IS TOLD OF AN ARGUMENT OF THE TYPE api.Bits. -/
def IsBits (w : World) (v : Value) (N : Int) (ao : Option Addr) (xs : List Nat) (cap : Nat) : Prop :=
  v = .agg #[.int .i64 N, .slice ao xs.length cap] ∧ (-9223372036854775808 ≤ N ∧ N ≤ 9223372036854775807) ∧ Wd w ao xs ∧ Fit xs ∧ xs.length ≤ cap

theorem open_bits {H : Type} {enc : TypeId × Value → H} {W : World} {base : Nat} {v : Value} {d : DataW H} {p : List MemPlace} (hv : Value.okWide Tryd.prog W .any base 24 v) (h : DataW.Trod enc Tryd.prog W 0 (fun _ => true) true 24 v d p) :
    ∃ N ao xs cap, IsBits W v N ao xs cap := by
  obtain ⟨c0, c1, y0, y1, m, rfl, rfl, rfl, hy0, hy1⟩ := open_agg2 Tryd.underlying24 (by kernel_rfl) Tryd.cells24 hv h
  obtain ⟨a, e0, _, wa⟩ := DataW.trod_int Tryd.underlying3 hy0
  simp at e0
  subst e0
  rcases open_ints Tryd.underlying22 Tryd.underlying46 Tryd.cells46 hy1 with ⟨hcs, _⟩ | ⟨x, l, c, zs, hcs, _, hl, hm, hz, _, hcell, hwz⟩
  · simp at hcs
    subst hcs
    exact ⟨a, none, [], 0, rfl, i64_wf a wa, fun h => absurd h (by simp), fun i => by unfold gt; simp, by simp⟩
  · simp at hcs
    subst hcs
    have hz2 : zs.length = c := by simpa using hz
    obtain ⟨xs, hx1, hx2, hx3⟩ := wd_of W x l zs (by omega) hcell hwz
    subst hx1
    exact ⟨a, some x, xs, c, rfl, i64_wf a wa, hx2, hx3, hl⟩
end Go.Proofs.YtmkmpggpjlikaaaDoor

namespace Go.Proofs.YtmkmpggpjlikaaaDoor
open Num
namespace Bit
set_option linter.unusedVariables false

def gi (l : List Int) (i : Nat) : Int := l.getD i 0
theorem gi_get (l : List Int) (i : Nat) (h : i < l.length) : l[i]? = some (gi l i) := by
  unfold gi
  rw [List.getD_eq_getElem?_getD, List.getElem?_eq_getElem h]; rfl
theorem gi_map (f : Nat → Int) (n i : Nat) (h : i < n) : gi ((List.range n).map f) i = f i := by
  unfold gi
  rw [List.getD_eq_getElem?_getD, List.getElem?_map, List.getElem?_range h]; rfl
theorem gi_ext {l m : List Int} (hl : l.length = m.length) (h : ∀ i, i < l.length → gi l i = gi m i) : l = m := by
  refine List.ext_getElem? fun i => ?_
  by_cases c : i < l.length
  · rw [gi_get l i c, gi_get m i (by omega), h i c]
  · rw [List.getElem?_eq_none (by omega), List.getElem?_eq_none (by omega)]

def supI (N : Int) (xs : List Nat) (i : Nat) : Int := onesI N xs (512 * (i : Int))
def subI (N : Int) (xs : List Nat) (j : Nat) : Int := onesI N xs (64 * (j : Int)) - supI N xs (j / 8)
def supP (N : Int) (xs : List Nat) (q : Nat) : List Int := (List.range q).map (supI N xs)
def subP (N : Int) (xs : List Nat) (q : Nat) : List Int := (List.range q).map (subI N xs)
def supL (N : Int) (xs : List Nat) : List Int := supP N xs (N.toNat / 512 + 1)
def subL (N : Int) (xs : List Nat) : List Int := subP N xs xs.length
theorem length_supP (N : Int) (xs : List Nat) (q : Nat) : (supP N xs q).length = q := by simp [supP]
theorem length_subP (N : Int) (xs : List Nat) (q : Nat) : (subP N xs q).length = q := by simp [subP]
theorem length_supL (N : Int) (xs : List Nat) : (supL N xs).length = N.toNat / 512 + 1 := length_supP _ _ _
theorem length_subL (N : Int) (xs : List Nat) : (subL N xs).length = xs.length := length_subP _ _ _
theorem gi_supP (N : Int) (xs : List Nat) (q i : Nat) (h : i < q) : gi (supP N xs q) i = supI N xs i := gi_map _ _ _ h
theorem gi_subP (N : Int) (xs : List Nat) (q i : Nat) (h : i < q) : gi (subP N xs q) i = subI N xs i := gi_map _ _ _ h
theorem onesI_bound (N : Int) (xs : List Nat) (n : Int) : 0 ≤ onesI N xs n ∧ onesI N xs n ≤ 1048576 := by
  unfold onesI
  cases h : chk N xs with
  | false => simp
  | true =>
    obtain ⟨h0, h1, _, _⟩ := chk_out N xs h
    have := cntB_le xs (min n N).toNat
    simp only [if_true]
    omega
theorem supI_bound (N : Int) (xs : List Nat) (i : Nat) : 0 ≤ supI N xs i ∧ supI N xs i ≤ 1048576 := onesI_bound _ _ _
theorem subI_bound (N : Int) (xs : List Nat) (i : Nat) : -1048576 ≤ subI N xs i ∧ subI N xs i ≤ 1048576 := by
  have a := onesI_bound N xs (64 * (i : Int))
  have b := supI_bound N xs (i / 8)
  unfold subI
  omega

/-- Whether one may be. -/
def pchk (N : Int) (xs : List Nat) (su sb : List Int) : Bool := chk N xs && (decide (su = supL N xs) && decide (sb = subL N xs))
def pbN (N : Int) (xs : List Nat) : Int := if chk N xs then N else 0
def pbX (N : Int) (xs : List Nat) : List Nat := if chk N xs then xs else []
def pbS (N : Int) (xs : List Nat) : List Int := if chk N xs then supL N xs else []
def pbT (N : Int) (xs : List Nat) : List Int := if chk N xs then subL N xs else []
def pbE (N : Int) (xs : List Nat) : Int := if chk N xs then 0 else 2
def piN (N : Int) (xs : List Nat) (su sb : List Int) : Int := if pchk N xs su sb then N else 0
def piX (N : Int) (xs : List Nat) (su sb : List Int) : List Nat := if pchk N xs su sb then xs else []
def paE (N : Int) (xs : List Nat) (su sb : List Int) (i : Int) : Int := if pchk N xs su sb then getE N xs i else 2
def paB (N : Int) (xs : List Nat) (su sb : List Int) (i : Int) : Bool := pchk N xs su sb && getB N xs i
/-- How many of the first i bits are bit. -/
def cB (xs : List Nat) (bit : Bool) (i : Nat) : Nat := if bit then cntB xs i else i - cntB xs i
def prE (N : Int) (xs : List Nat) (su sb : List Int) (i : Int) : Int := if pchk N xs su sb then (if i < 0 ∨ N < i then 3 else 0) else 2
def prN (N : Int) (xs : List Nat) (su sb : List Int) (bit : Bool) (i : Int) : Int := if prE N xs su sb i = 0 then (cB xs bit i.toNat : Int) else 0
/-- Is there, at place i, the bit that has k such ahead? -/
def here (xs : List Nat) (bit : Bool) (k : Int) (i : Nat) : Bool := (bitAt xs i == bit) && decide ((cB xs bit i : Int) = k)
def pselO (N : Int) (xs : List Nat) (bit : Bool) (k : Int) : Option Nat := (List.range N.toNat).find? (here xs bit k)
def psE (N : Int) (xs : List Nat) (su sb : List Int) (bit : Bool) (k : Int) : Int := if pchk N xs su sb then (if (pselO N xs bit k).isSome then 0 else 3) else 2
def psX (N : Int) (xs : List Nat) (su sb : List Int) (bit : Bool) (k : Int) : Int := if pchk N xs su sb then ((pselO N xs bit k).getD 0 : Int) else 0
def pzN (N : Int) (xs : List Nat) (su sb : List Int) : Int := if pchk N xs su sb then N + 32 * (su.length : Int) + 16 * (sb.length : Int) else 0

theorem pchk_out (N : Int) (xs : List Nat) (su sb : List Int) (h : pchk N xs su sb = true) : chk N xs = true ∧ su = supL N xs ∧ sb = subL N xs := by
  unfold pchk at h
  simp only [Bool.and_eq_true, decide_eq_true_eq] at h
  exact ⟨h.1, h.2.1, h.2.2⟩
theorem pchk_of (N : Int) (xs : List Nat) (h : chk N xs = true) : pchk N xs (supL N xs) (subL N xs) = true := by
  unfold pchk
  simp [h]
theorem cB_le (xs : List Nat) (bit : Bool) (i : Nat) : cB xs bit i ≤ i := by
  unfold cB
  have := cntB_le xs i
  split <;> omega
theorem cB_succ (xs : List Nat) (bit : Bool) (i : Nat) : cB xs bit (i + 1) = cB xs bit i + if bitAt xs i = bit then 1 else 0 := by
  have := cntB_le xs i
  unfold cB
  cases bit with
  | true => simp only [if_true, cntB]
  | false =>
    simp only [cntB]
    cases h : bitAt xs i <;> simp <;> omega
theorem cB_mono (xs : List Nat) (bit : Bool) (i d : Nat) : cB xs bit i ≤ cB xs bit (i + d) := by
  induction d with
  | zero => exact Nat.le_refl _
  | succ d ih => have := cB_succ xs bit (i + d); rw [show i + (d + 1) = i + d + 1 by omega]; omega
theorem here_one (xs : List Nat) (bit : Bool) (k : Int) (i j : Nat) (hi : here xs bit k i = true) (hj : here xs bit k j = true) : i = j := by
  unfold here at hi hj
  simp only [Bool.and_eq_true, beq_iff_eq, decide_eq_true_eq] at hi hj
  rcases Nat.lt_trichotomy i j with c | c | c
  · have a := cB_succ xs bit i
    rw [if_pos hi.1] at a
    have b := cB_mono xs bit (i + 1) (j - (i + 1))
    rw [show i + 1 + (j - (i + 1)) = j by omega] at b
    omega
  · exact c
  · have a := cB_succ xs bit j
    rw [if_pos hj.1] at a
    have b := cB_mono xs bit (j + 1) (i - (j + 1))
    rw [show j + 1 + (i - (j + 1)) = i by omega] at b
    omega
theorem psel_some (N : Int) (xs : List Nat) (bit : Bool) (k : Int) (i : Nat) (hi : i < N.toNat) (h : here xs bit k i = true) : pselO N xs bit k = some i := by
  unfold pselO
  cases hf : (List.range N.toNat).find? (here xs bit k) with
  | none =>
    rw [List.find?_eq_none] at hf
    exact absurd h (by simpa using hf i (List.mem_range.2 hi))
  | some j =>
    have := List.find?_some hf
    rw [here_one xs bit k i j h this]
theorem psel_none (N : Int) (xs : List Nat) (bit : Bool) (k : Int) (h : ∀ i, i < N.toNat → here xs bit k i = false) : pselO N xs bit k = none := by
  unfold pselO
  rw [List.find?_eq_none]
  intro i hi
  have := h i (List.mem_range.1 hi)
  simp [this]
theorem psel_spec (N : Int) (xs : List Nat) (bit : Bool) (k : Int) (i : Nat) (h : pselO N xs bit k = some i) : i < N.toNat ∧ bitAt xs i = bit ∧ (cB xs bit i : Int) = k := by
  unfold pselO at h
  have a := List.find?_some h
  have b := List.mem_range.1 (List.mem_of_find?_eq_some h)
  unfold here at a
  simp only [Bool.and_eq_true, beq_iff_eq, decide_eq_true_eq] at a
  exact ⟨b, a.1, a.2⟩
/-- There is a place just where k counts. -/
theorem psel_iff (N : Int) (xs : List Nat) (bit : Bool) (k : Int) : (pselO N xs bit k).isSome = true ↔ 0 ≤ k ∧ k < (cB xs bit N.toNat : Int) := by
  constructor
  · intro h
    obtain ⟨i, hi⟩ := Option.isSome_iff_exists.1 h
    obtain ⟨h1, h2, h3⟩ := psel_spec N xs bit k i hi
    have a := cB_succ xs bit i
    rw [if_pos h2] at a
    have b := cB_mono xs bit (i + 1) (N.toNat - (i + 1))
    rw [show i + 1 + (N.toNat - (i + 1)) = N.toNat by omega] at b
    omega
  · rintro ⟨h0, h1⟩
    obtain ⟨m, rfl⟩ := Int.eq_ofNat_of_zero_le h0
    have key : ∀ n, m < cB xs bit n → ∃ i, i < n ∧ here xs bit m i = true := by
      intro n
      induction n with
      | zero => intro h; have := cB_le xs bit 0; omega
      | succ n ih =>
        intro h
        rw [cB_succ] at h
        by_cases c : m < cB xs bit n
        · obtain ⟨i, hi, hh⟩ := ih c
          exact ⟨i, by omega, hh⟩
        · by_cases hb : bitAt xs n = bit
          · rw [if_pos hb] at h
            refine ⟨n, by omega, ?_⟩
            unfold here
            simp only [Bool.and_eq_true, beq_iff_eq, decide_eq_true_eq]
            exact ⟨hb, by omega⟩
          · rw [if_neg hb] at h; omega
    obtain ⟨i, hi, hh⟩ := key N.toNat (by omega)
    rw [psel_some N xs bit m i hi hh]
    rfl
end Bit
end Go.Proofs.YtmkmpggpjlikaaaDoor

namespace Go.Proofs.YtmkmpggpjlikaaaDoor
open Go.ChangeShapes Go.WideShapes Go.ChangeAt Go.RowKit Go.Joins Go.Deep Num Bit
set_option linter.unusedVariables false
set_option maxRecDepth 100000

/-- A slice of ints that reads as a list. -/
def Nd (w : World) (ao : Option Addr) (l : List Int) : Prop :=
  0 < l.length → ∃ b off, ao = some ⟨b, off, none⟩ ∧ b < w.heap.size ∧ ∀ i, i < l.length → w.cell? ⟨b, off + i, none⟩ = some (.int .i64 (gi l i))
theorem Nd.keep {w w' : World} {ao : Option Addr} {l : List Int} (h : Nd w ao l) (hb : Below w.heap.size w w') : Nd w' ao l := by
  intro hi
  obtain ⟨b, off, e, hlt, hc⟩ := h hi
  exact ⟨b, off, e, Nat.lt_of_lt_of_le hlt hb.size, fun i hi => (hb.cell (p := ⟨b, off + i, none⟩) hlt).trans (hc i hi)⟩
theorem nd0 (w : World) (ao : Option Addr) : Nd w ao [] := fun h => absurd h (by simp)
theorem wd0' (w : World) (ao : Option Addr) : Wd w ao [] := fun h => absurd h (by simp)
def FitI (l : List Int) : Prop := ∀ i, -9223372036854775808 ≤ gi l i ∧ gi l i ≤ 9223372036854775807

theorem Tryd.cells3 : Tryd.prog.cellsOf 3 = 1 := by kernel_rfl
theorem Tryd.cells29 : Tryd.prog.cellsOf 29 = 1 := by kernel_rfl
theorem Tryd.cells22 : Tryd.prog.cellsOf 22 = 1 := by kernel_rfl
theorem Tryd.info3 : (Tryd.prog.info? 3).map (fun i => (i.zero, i.size, i.bytes)) = some (some (.int .i64 0), 1, 8) := by kernel_rfl

theorem nd_of (w : World) (a : Addr) (len : Nat) (zs : List Int) (hl : len ≤ zs.length) (hc : ∀ i, i < zs.length → w.cell? (a.add i) = some (.int .i64 (zs.getD i 0))) (hw : ∀ n ∈ zs, (Lit.int .i64 n).wf = true) :
    ∃ l : List Int, l.length = len ∧ Nd w (some a) l ∧ FitI l := by
  have hlen : (zs.take len).length = len := by simp; omega
  have hg : ∀ i, i < len → gi (zs.take len) i = zs.getD i 0 := by
    intro i hi
    unfold gi
    rw [List.getD_eq_getElem?_getD, List.getD_eq_getElem?_getD, List.getElem?_take_of_lt hi]
  refine ⟨zs.take len, hlen, ?_, ?_⟩
  · intro h0
    obtain ⟨b, off, s⟩ := a
    have c0 := hc 0 (by omega)
    obtain ⟨k1, rfl⟩ := cell_lt (show w.cell? ⟨b, off, s⟩ = _ from c0)
    refine ⟨b, off, rfl, k1, fun i hi => ?_⟩
    have ci := hc i (by omega)
    rw [hg i (by omega), ← ci]
    unfold Addr.add
    split
    · subst_vars; rfl
    · rfl
  · intro i
    by_cases c : i < len
    · rw [hg i c]
      have : zs.getD i 0 = zs[i] := by rw [List.getD_eq_getElem?_getD, List.getElem?_eq_getElem (by omega)]; rfl
      rw [this]
      exact i64_wf _ (hw _ (List.getElem_mem (by omega)))
    · unfold gi
      rw [List.getD_eq_getElem?_getD, List.getElem?_eq_none (by omega)]
      decide
theorem open_is {H : Type} {enc : TypeId × Value → H} {W : World} {n : Nat} {c : Value} {y : DataW H × List MemPlace} (h : DataW.trod enc Tryd.prog W 0 (fun _ => true) true n 29 [c] = some y) :
    ∃ ao l cap, c = .slice ao (List.length l) cap ∧ Nd W ao l ∧ FitI l ∧ l.length ≤ cap := by
  rcases open_ints Tryd.underlying29 Tryd.underlying3 Tryd.cells3 h with ⟨hcs, _⟩ | ⟨x, l, cp, zs, hcs, _, hl, hm, hz, _, hcell, hwz⟩
  · simp at hcs
    subst hcs
    exact ⟨none, [], 0, rfl, nd0 _ _, fun i => by unfold gi; simp, by simp⟩
  · simp at hcs
    subst hcs
    have hz2 : zs.length = cp := by simpa using hz
    obtain ⟨xs, hx1, hx2, hx3⟩ := nd_of W x l zs (by omega) hcell hwz
    subst hx1
    exact ⟨some x, xs, cp, rfl, hx2, hx3, hl⟩
theorem array4 {cs : Array Value} (h : cs.size = 4) : ∃ a b c d, cs = #[a, b, c, d] := by
  obtain ⟨l⟩ := cs
  match l, h with
  | [a, b, c, d], _ => exact ⟨a, b, c, d, rfl⟩

end Go.Proofs.YtmkmpggpjlikaaaDoor

namespace Go.Proofs.YtmkmpggpjlikaaaDoor
open Go.RowKit Num Bit

theorem same_end {xs ys : List Nat} (hl : xs.length = ys.length) (k : Nat) (hk : ¬ k < xs.length) (h : ∀ j, j < k → gt xs j = gt ys j) : xs = ys :=
  list_ext xs ys hl fun i hi => h i (by omega)

theorem same_c (N : Int) (ao : Option Addr) (xs : List Nat) (cap : Nat) (M : Int) (bo : Option Addr) (ys : List Nat) (dap : Nat) (w : World) (hx : Wd w ao xs) (hy : Wd w bo ys) (hl : xs.length ≤ 1048576) :
    Calls Tryd.prog 13 #[.agg #[.int .i64 N, .slice ao xs.length cap], .agg #[.int .i64 M, .slice bo ys.length dap]] w fun e w' => e = .returned (.bool (decide (N = M) && decide (xs = ys))) ∧ Below w.heap.size w w' := by
  by_cases h1 : N = M
  · subst h1
    by_cases h2 : xs.length = ys.length
    · have h1' : (N != N) = false := by simp
      have h2' : ((xs.length : Int) != (ys.length : Int)) = false := by simp [h2]
      have H2 : Hid (xs.length = ys.length) := h2
      have h3 : xs.length ≤ ys.length := by omega
      clear h2
      go_enter Tryd.func13, Tryd.ntmps13
      go_wp2
      go_loopw [5] (fun i wr => ∃ k : Nat, k ≤ xs.length ∧ i = .int .i64 k ∧ Hid (∀ j, j < k → gt xs j = gt ys j) ∧ wr.cell? ⟨w.heap.size, 1, none⟩ = some (.slice ao xs.length cap) ∧ wr.cell? ⟨w.heap.size + 1, 1, none⟩ = some (.slice bo ys.length dap) ∧ Below w.heap.size w wr) (fun i _ => xs.length - (intOf i).toNat)
      case atStart => exact ⟨0, by omega, rfl, fun j hj => absurd hj (by omega), by simp, by simp, ((Below.refl _ _).alloc (Nat.le_refl _) _).alloc (by simp) _⟩
      case round =>
        obtain ⟨k, hk, rfl, H, c1, d1, hw⟩ := hrel
        by_cases hlt : k < xs.length
        · obtain ⟨b, off, rfl, hb, hc⟩ := hx (by omega)
          obtain ⟨d, off2, rfl, hd, hc2⟩ := hy (by omega)
          have e1 := (hw.cell (p := ⟨b, off + k, none⟩) hb).trans (hc k hlt)
          have e2 := (hw.cell (p := ⟨d, off2 + k, none⟩) hd).trans (hc2 k (by omega))
          have hlt2 : k < ys.length := by omega
          have hlt3 : (k : Int) < (xs.length : Int) := by omega
          have hlt4 : (k : Int) < (ys.length : Int) := by omega
          clear hc hc2
          go_wp2
          go_quiet (fail)
          go_wp2
          · have hne : ((gt xs k : Int) != (gt ys k : Int)) = true := by assumption
            go_ret
            refine ⟨ret_bool ?_, below_drewN hw _⟩
            have : ¬ xs = ys := fun e => by subst e; simp at hne
            simp [this]
          · have heq : ((gt xs k : Int) != (gt ys k : Int)) = false := by assumption
            refine ⟨⟨k + 1, by omega, by go_num, ?_, c1, d1, below_drewN hw _⟩, by simp only [intOf]; omega⟩
            intro j hj
            by_cases e : j = k
            · subst e; have h2 : (gt xs j : Int) = (gt ys j : Int) := by simpa using heq
              omega
            · exact H.out j (by omega)
        · go_wp2
          go_ret
          exact ⟨ret_bool (by simp [same_end H2.out k hlt H.out]), by assumption⟩
    · have h1' : (N != N) = false := by simp
      have h2' : ((xs.length : Int) != (ys.length : Int)) = true := by simp; omega
      have R : Hid (false = (decide (N = N) && decide (xs = ys))) := by
        have : ¬ xs = ys := fun e => h2 (by rw [e])
        simp [this, Hid]
      clear h2
      go_enter Tryd.func13, Tryd.ntmps13
      go_wp2
      go_ret
      exact ⟨ret_bool R.out, ((Below.refl _ _).alloc (Nat.le_refl _) _).alloc (by simp) _⟩
  · have h1' : (N != M) = true := by simpa using h1
    have R : Hid (false = (decide (N = M) && decide (xs = ys))) := by simp [h1, Hid]
    clear h1
    go_enter Tryd.func13, Tryd.ntmps13
    go_wp2
    go_ret
    exact ⟨ret_bool R.out, ((Below.refl _ _).alloc (Nat.le_refl _) _).alloc (by simp) _⟩

end Go.Proofs.YtmkmpggpjlikaaaDoor

namespace Go.Proofs.YtmkmpggpjlikaaaDoor
open Go.RowKit Num Bit
set_option linter.unusedVariables false
set_option linter.unusedSimpArgs false
set_option maxRecDepth 100000

end Go.Proofs.YtmkmpggpjlikaaaDoor

namespace Go.Proofs.YtmkmpggpjlikaaaDoor
open Go.RowKit Num Bit
set_option linter.unusedVariables false
set_option linter.unusedSimpArgs false
set_option maxRecDepth 100000

end Go.Proofs.YtmkmpggpjlikaaaDoor
