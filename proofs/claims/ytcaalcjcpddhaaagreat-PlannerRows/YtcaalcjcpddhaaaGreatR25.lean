/-
  Memory of layers 17 and 18: bytes and numbers in slices, blocks of one's own, what stays of them, arguments opened, bytes as a string. Plain: the order of ends is one alone, and there is one; bytes as a string, compared.
-/
import Derived.Test.YtcaalcjcpddhaaaGreatRows
import Derived.Test.YtcaalcjcpddhaaaGreatR24
import Derived.Laws.BitsAllLaws
import Derived.Laws.BitsLemmas
import Derived.WalkKit
import Derived.WalkSpells
import Derived.WalkLawsBesides
import Derived.WalkSmall
import Derived.ProofKit
import Derived.OpenShut
import Derived.OwnWalk
import Derived.Lib.SmallJoins
import Derived.Lib.SlBytesConst
import Derived.Laws.BytesArg
import Derived.Laws.Rows
import Derived.Laws.Tables
import Derived.Deep.AppendLies
import Derived.Deep.Strs
namespace Go.Proofs.YtcaalcjcpddhaaaGreat.Zz
open Go.ChangeShapes Go.WideShapes Go.ChangeAt Go.RowKit Go.Joins Go.Deep
set_option linter.unusedVariables false
set_option linter.unusedSimpArgs false
set_option maxRecDepth 100000

theorem hide {p : Prop} (h : p) : Hid p := h
theorem ret_bool {a b : Bool} (h : a = b) : Ending.returned (.bool a) = .returned (.bool b) := by rw [h]
theorem ret_int {k : IntKind} {a b : Int} (h : a = b) : Ending.returned (.int k a) = .returned (.int k b) := by rw [h]
theorem ret_pair {a b c d : Value} (h : a = b) (h2 : c = d) : Ending.returned (.tuple #[a, c]) = .returned (.tuple #[b, d]) := by rw [h, h2]
theorem i64_wf (x : Int) (h : (Lit.int .i64 x).wf = true) : -9223372036854775808 ≤ x ∧ x ≤ 9223372036854775807 := by
 simp only [Lit.wf, IntKind.min, IntKind.max, IntKind.signed, IntKind.bits, Bool.and_eq_true, decide_eq_true_eq] at h
 simp at h
 omega
def gt (xs : List Nat) (i : Nat) : Nat := xs.getD i 0
theorem gt_out (xs : List Nat) (i : Nat) (h : xs.length ≤ i) : gt xs i = 0 := by
 unfold gt
 rw [List.getD_eq_getElem?_getD, List.getElem?_eq_none h]; rfl
theorem gt_get (xs : List Nat) (i : Nat) (h : i < xs.length) : xs[i]? = some (gt xs i) := by
 unfold gt
 rw [List.getD_eq_getElem?_getD, List.getElem?_eq_getElem h]; rfl
def Bd (w : World) (ao : Option Addr) (xs : List Nat) : Prop :=
 0 < xs.length → ∃ b off, ao = some ⟨b, off, none⟩ ∧ b < w.heap.size ∧ ∀ i, i < xs.length → w.cell? ⟨b, off + i, none⟩ = some (.int .u8 (gt xs i))
theorem below_alloc (w : World) (o : Obj) : Below w.heap.size w (w.alloc o) := (Below.refl _ _).alloc (Nat.le_refl _) _
theorem own : ownKnob Tryz.prog.godebug = none := by kernel_rfl
theorem laidOut : laidOutB Tryz.prog = true := by kernel_rfl
theorem cell_lt {w : World} {b o : Nat} {s : Option Nat} {v : Value} (h : w.cell? ⟨b, o, s⟩ = some v) : b < w.heap.size ∧ s = none := by
 unfold World.cell? at h
 simp only at h
 split at h
 ·rename_i hh
  refine ⟨(Array.getElem?_eq_some_iff.1 hh).1, ?_⟩
  cases s with
  | none => rfl
  | some x => simp at h
 ·simp at h
theorem owns_below {w w' : World} {base e n : Nat} {v : Value} {vs : List Value} (h : w.ownsRow base e 1 v n vs) (hb : Below w.heap.size w w') : w'.ownsRow base e 1 v n vs := by
 obtain ⟨h1, h2 | ⟨g, cap, cur, e1, e2, hh, r⟩⟩ := h
 ·exact ⟨h1, .inl h2⟩
 ·exact ⟨h1, .inr ⟨g, cap, cur, e1, e2, (hb.block g ((Array.getElem?_eq_some_iff.1 hh).1)).trans hh, r⟩⟩
theorem owns_shape {w : World} {base e n : Nat} {v : Value} {vs : List Value} (h : w.ownsRow base e 1 v n vs) : ∃ ao cap, v = .slice ao n cap ∧ n ≤ cap ∧ (∀ k, v.ownBlock = some k → base ≤ k ∧ k < w.heap.size) := by
 have hl := h.lt
 obtain ⟨h1, ⟨rfl, rfl⟩ | ⟨g, cap, cur, rfl, e2, hh, r, _⟩⟩ := h
 ·exact ⟨none, 0, rfl, Nat.le_refl _, hl⟩
 ·exact ⟨some ⟨g, 0, none⟩, cap, rfl, r, hl⟩
def gi (l : List Int) (i : Nat) : Int := l.getD i 0
theorem gi_get (l : List Int) (i : Nat) (h : i < l.length) : l[i]? = some (gi l i) := by
 unfold gi
 rw [List.getD_eq_getElem?_getD, List.getElem?_eq_getElem h]; rfl
theorem gi_ext {l m : List Int} (h : l.length = m.length) (hg : ∀ i, i < l.length → gi l i = gi m i) : l = m := by
 refine List.ext_getElem? fun i => ?_
 by_cases c : i < l.length
 ·rw [gi_get l i c, gi_get m i (by omega), hg i c]
 ·rw [List.getElem?_eq_none (by omega), List.getElem?_eq_none (by omega)]
def Nd (w : World) (ao : Option Addr) (l : List Int) : Prop :=
 0 < l.length → ∃ b off, ao = some ⟨b, off, none⟩ ∧ b < w.heap.size ∧ ∀ i, i < l.length → w.cell? ⟨b, off + i, none⟩ = some (.int .i64 (gi l i))
theorem Nd.keep {w w' : World} {ao : Option Addr} {l : List Int} (h : Nd w ao l) (hb : Below w.heap.size w w') : Nd w' ao l := by
 intro hi
 obtain ⟨b, off, e, hlt, hc⟩ := h hi
 exact ⟨b, off, e, Nat.lt_of_lt_of_le hlt hb.size, fun i hi => (hb.cell (p := ⟨b, off + i, none⟩) hlt).trans (hc i hi)⟩
theorem nd0 (w : World) (ao : Option Addr) : Nd w ao [] := fun h => absurd h (by simp)
def FitI (l : List Int) : Prop := ∀ i, -9223372036854775808 ≤ gi l i ∧ gi l i ≤ 9223372036854775807
theorem Tryz.info3 : (Tryz.prog.info? 3).map (fun i => (i.zero, i.size, i.bytes)) = some (some (.int .i64 0), 1, 8) := by kernel_rfl
def Cel (w : World) (b : Nat) (cs : List Value) (T : TypeId) : Prop := w.heap[b]? = some (.cells cs.toArray T (0, 0))
theorem Cel.lt {w : World} {b : Nat} {cs : List Value} {T : TypeId} (h : Cel w b cs T) : b < w.heap.size := (Array.getElem?_eq_some_iff.1 h).1
theorem Cel.cell {w : World} {b : Nat} {cs : List Value} {T : TypeId} (h : Cel w b cs T) (i : Nat) {v : Value} (hv : cs[i]? = some v) : w.cell? ⟨b, i, none⟩ = some v := by
 unfold World.cell?
 rw [show w.heap[({ block := b, off := i, spot := none } : Addr).block]? = _ from h]
 simpa using hv
theorem Cel.frozen {w : World} {b : Nat} {cs : List Value} {T : TypeId} (h : Cel w b cs T) (i : Nat) : w.frozen? ⟨b, i, none⟩ = false := by
 unfold World.frozen?
 rw [show w.heap[({ block := b, off := i, spot := none } : Addr).block]? = _ from h]
 simp
theorem Cel.set {w : World} {b : Nat} {cs : List Value} {T : TypeId} (h : Cel w b cs T) (i : Nat) (v : Value) : Cel (w.setCell ⟨b, i, none⟩ v) b (cs.set i v) T := by
 unfold Cel at h ⊢
 simp only [World.setCell, Array.getElem?_modify]
 rw [if_pos trivial, h]
 simp
theorem Cel.other {w : World} {b : Nat} {cs : List Value} {T : TypeId} (h : Cel w b cs T) {a : Addr} (ha : b ≠ a.block) (v : Value) : Cel (w.setCell a v) b cs T := (Below.heap_setCell w a v b ha).trans h
theorem Cel.keep {w w' : World} {b base : Nat} {cs : List Value} {T : TypeId} (h : Cel w b cs T) (hb : Below base w w') (hlt : b < base) : Cel w' b cs T := (hb.block b hlt).trans h
theorem Cel.kept {w w' : World} {b : Nat} {cs : List Value} {T : TypeId} (h : Cel w b cs T) (hb : Below w.heap.size w w') : Cel w' b cs T := h.keep hb h.lt
theorem Cel.drew {w : World} {b : Nat} {cs : List Value} {T : TypeId} (h : Cel w b cs T) : Cel w.drew b cs T := h
theorem Cel.new (w : World) (cs : List Value) (T : TypeId) : Cel (w.alloc (.cells cs.toArray T)) w.heap.size cs T := by
 show (w.heap.push (.cells cs.toArray T))[w.heap.size]? = _
 simp
theorem Cel.new2 (w : World) (o : Obj) (cs : List Value) (T : TypeId) : Cel ((w.alloc o).alloc (.cells cs.toArray T)) (w.heap.size + 1) cs T := by
 have := Cel.new (w.alloc o) cs T
 simpa using this
theorem Cel.alloc {w : World} {b : Nat} {cs : List Value} {T : TypeId} (h : Cel w b cs T) (o : Obj) : Cel (w.alloc o) b cs T := h.kept ((Below.refl _ _).alloc (Nat.le_refl _) _)
structure Only (g : Nat) (w w' : World) : Prop where
 os : w'.os = w.os
 tape : w'.tape = w.tape
 output : w'.output = w.output
 size : w'.heap.size = w.heap.size
 block : ∀ k, k ≠ g → w'.heap[k]? = w.heap[k]?
theorem Only.refl (g : Nat) (w : World) : Only g w w := ⟨rfl, rfl, rfl, rfl, fun _ _ => rfl⟩
theorem Only.trans {g : Nat} {a b c : World} (h : Only g a b) (k : Only g b c) : Only g a c := ⟨k.os.trans h.os, k.tape.trans h.tape, k.output.trans h.output, k.size.trans h.size, fun i hi => (k.block i hi).trans (h.block i hi)⟩
theorem Only.below {g base : Nat} {w w' : World} (h : Only g w w') (hb : base ≤ g) : Below base w w' := ⟨h.os, h.tape, h.output, by rw [h.size]; exact Nat.le_refl _, fun k hk => h.block k (by omega)⟩
theorem Only.set {g : Nat} {a w : World} (h : Only g a w) (i : Nat) (v : Value) : Only g a (w.setCell ⟨g, i, none⟩ v) :=
 ⟨h.os, h.tape, h.output, by rw [show (w.setCell ⟨g, i, none⟩ v).heap.size = w.heap.size by simp [World.setCell]]; exact h.size, fun k hk => (Below.heap_setCell w ⟨g, i, none⟩ v k hk).trans (h.block k hk)⟩
theorem Only.row (g : Nat) (w : World) (cs : Array Value) : Only g w (w.setRow g cs) := by
 refine ⟨rfl, rfl, rfl, ?_, fun k hk => ?_⟩
 ·simp [World.setRow]
 ·simp only [World.setRow, Array.getElem?_modify]
  rw [if_neg (by omega)]
theorem Only.cell {g : Nat} {w w' : World} (h : Only g w w') {p : Addr} (hp : p.block ≠ g) : w'.cell? p = w.cell? p := World.cell?_of_block (w := w) (h.block p.block hp)
theorem Only.cel {g b : Nat} {w w' : World} {cs : List Value} {T : TypeId} (h : Only g w w') (hc : Cel w b cs T) (hb : b ≠ g) : Cel w' b cs T := (h.block b hb).trans hc
theorem Only.owns {g base e n : Nat} {w w' : World} {v : Value} {vs : List Value} (h : Only g w w') (ho : w.ownsRow base e 1 v n vs) (hg : g < base) : w'.ownsRow base e 1 v n vs := by
 obtain ⟨h1, h2 | ⟨b, cap, cur, e1, e2, hh, r⟩⟩ := ho
 ·exact ⟨h1, .inl h2⟩
 ·exact ⟨h1, .inr ⟨b, cap, cur, e1, e2, (h.block b (by omega)).trans hh, r⟩⟩
theorem store_cel {ops : Array Oper} {rest : List Oper} {d : Option Tmp} {ty T : TypeId} {ps : String} {af : Array Edge} {a : Act} {w : World} {Q : Exit → Act → World → Prop} {x y : Operand}
  (g : Nat) (old cs : List Value) (hx : a.eval x = .pointer (some ⟨g, 0, none⟩)) (hy : a.eval y = .agg cs.toArray) (hc : Cel w g old T) (lo : old.length = cs.length) (hi : (Tryz.prog.info? T).map (·.size) = some cs.length) (h1 : cs.toArray.all (·.oneCell') = true)
  (h : ∀ w1, Cel w1 g cs T → Only g w w1 → wpList Tryz.prog ops Q rest (a.put d undef) w1) :
  wpList Tryz.prog ops Q (⟨d, .store T x y, ty, ps, af, none⟩ :: rest) a w :=
 wpList_store_row rfl _ x y rfl g _ hx hy _ _ hc (by simpa using hi) (by simpa using lo) h1 (h _ (setRow_heap w g _ _ _ _ hc) (Only.row g w _))
theorem load_cel {ops : Array Oper} {rest : List Oper} {d : Option Tmp} {ty T : TypeId} {ps : String} {af : Array Edge} {a : Act} {w : World} {Q : Exit → Act → World → Prop} {x : Operand}
  (g : Nat) (cs : List Value) {fs : Array Field} (hx : a.eval x = .pointer (some ⟨g, 0, none⟩)) (hc : Cel w g cs T) (hu : Tryz.prog.underlying T = some (.struct fs)) (hi : (Tryz.prog.info? T).map (·.size) = some cs.length)
  (h : wpList Tryz.prog ops Q rest (a.put d (.agg cs.toArray)) w) :
  wpList Tryz.prog ops Q (⟨d, .load T x, ty, ps, af, none⟩ :: rest) a w :=
 wpList_load_row rfl _ x rfl g hx _ _ _ _ hc hu rfl (by simpa using hi) h
theorem result_cel {fn : Func} {p : Tmp} {T : TypeId} {w : World} {tmps : Array Value} {u : Tmp} (h : fn.results = #[.cell p T, .tmp u]) (g : Nat) (cs : List Value) {fs : Array Field} (hp : tmps.getD p undef = .pointer (some ⟨g, 0, none⟩)) (hc : Cel w g cs T) (hu : Tryz.prog.underlying T = some (.struct fs)) (hi : (Tryz.prog.info? T).map (·.size) = some cs.length) :
  (results fn tmps).run Tryz.prog w = .ok (.tuple #[.agg cs.toArray, tmps.getD u undef]) w := by
 have hp' : tmps[p]?.getD undef = .pointer (some ⟨g, 0, none⟩) := by simpa using hp
 have hl := run_loadVar_row (P := Tryz.prog) w g T T cs.toArray (0, 0) _ hc hu rfl (by simpa using hi)
 simp [results, h, hp', asAddr, hl]
namespace Ap
theorem owns_below {w w' : World} {base e n : Nat} {v : Value} {vs : List Value} (h : w.ownsRow base e 1 v n vs) (hb : Below w.heap.size w w') : w'.ownsRow base e 1 v n vs := by
 obtain ⟨h1, h2 | ⟨g, cap, cur, e1, e2, hh, r⟩⟩ := h
 ·exact ⟨h1, .inl h2⟩
 ·exact ⟨h1, .inr ⟨g, cap, cur, e1, e2, (hb.block g ((Array.getElem?_eq_some_iff.1 hh).1)).trans hh, r⟩⟩
theorem owns_shape {w : World} {base e n : Nat} {v : Value} {vs : List Value} (h : w.ownsRow base e 1 v n vs) : ∃ ao cap, v = .slice ao n cap ∧ n ≤ cap ∧ (∀ k, v.ownBlock = some k → base ≤ k ∧ k < w.heap.size) := by
 have hl := h.lt
 obtain ⟨h1, ⟨rfl, rfl⟩ | ⟨g, cap, cur, rfl, e2, hh, r, _⟩⟩ := h
 ·exact ⟨none, 0, rfl, Nat.le_refl _, hl⟩
 ·exact ⟨some ⟨g, 0, none⟩, cap, rfl, r, hl⟩
theorem run_append_zero (w : World) (base : Nat) (t ty e : TypeId) (i : TypeInfo) (size : Nat) (ht : Tryz.prog.underlying t = some (.slice e)) (hi : Tryz.prog.info? e = some i)
  (v : Value) (n : Nat) (vs : List Value) (hown : w.ownsRow base e size v n vs) (xa : Option Addr) (c : Nat) :
  (Builtin.append_ #[t, t] ty #[v, .slice xa 0 c]).run Tryz.prog w = .ok v w := by
 have hc := fun ad : Addr => run_firstCells_some (P := Tryz.prog) w i.size 0 ad 0 c [] (by simp) (by simp)
 rcases hown.2 with ⟨rfl, rfl⟩ | ⟨g, cap, cur, rfl, _, _, hnc, _⟩
 ·cases xa with
  | none => simp [Builtin.append_, run_underlying ht, sizeOf, typeInfo, hi, Builtin.lenOf, Builtin.firstCells]
  | some ad => simp [Builtin.append_, run_underlying ht, sizeOf, typeInfo, hi, Builtin.lenOf, hc]
 ·cases xa with
  | none => simp [Builtin.append_, run_underlying ht, sizeOf, typeInfo, hi, Builtin.lenOf, Builtin.firstCells, hnc, storeCells]
  | some ad => simp [Builtin.append_, run_underlying ht, sizeOf, typeInfo, hi, Builtin.lenOf, hc, hnc, storeCells]
theorem step_append_u {ops : Array Oper} {o : Oper} {a : Act} {w : World} {K : Act → World → Prop} {Q : Exit → Act → World → Prop} {E : Prop} (hgd : o.guard = none) (s x : Operand) (t : TypeId)
  (ho : o.op = .call { callee := .builtin .append, args := #[s, x], argTypes := #[t, t] })
  (base : Nat) (e : TypeId) (i : TypeInfo) (z : Value) (bytes : Nat) (ht : Tryz.prog.underlying t = some (.slice e)) (hi : Tryz.prog.info? e = some i) (hz : i.zero = some z)
  (hsize : i.size = 1) (hby : i.bytes = bytes) (hzs : z.cells.size = 1)
  (v : Value) (n : Nat) (vs : List Value) (hs : a.eval s = v) (hown : w.ownsRow base e 1 v n vs)
  (xa : Option Addr) (m c : Nat) (news : List Value) (hx : a.eval x = .slice xa m c) (hl : news.length = m) (hsrc : 0 < m → ∃ ad, xa = some ad ∧ ∀ j u, news[j]? = some u → w.cell? (ad.add j) = some u) (h1 : ∀ u ∈ news, u.oneCell' = true)
  (h63 : n + m ≤ maxLen) (hbytes : (n + m) * bytes ≤ 140737488355328) (hbase : base ≤ w.heap.size)
  (h : ∀ ao cap w', w'.ownsRow base e 1 (.slice ao (n + m) cap) (n + m) (vs ++ news) → n + m ≤ cap → Below base w w' → (∀ k, (Value.slice ao (n + m) cap).ownBlock = some k → (v.ownBlock = some k ∨ k = w.heap.size) ∧ k < w'.heap.size) → (∀ k, k < w.heap.size → v.ownBlock ≠ some k → w'.heap[k]? = w.heap[k]?) → w.heap.size ≤ w'.heap.size → K (a.put o.dst (.slice ao (n + m) cap)) w') :
  if Region.wanted o (yielded ops a.tmps) = true then Oper.wp Tryz.prog o a w K Q else E := by
 have hw : Region.wanted o (yielded ops a.tmps) = true := by simp [Region.wanted, hgd]
 rw [if_pos hw]
 by_cases hm : m = 0
 ·subst hm
  have hn : news = [] := List.eq_nil_of_length_eq_zero hl
  subst hn
  have hr := run_append_zero w base t o.type e i 1 ht hi v n vs hown xa c
  obtain ⟨ao, cap, rfl, hc, hk⟩ := owns_shape hown
  unfold Oper.wp execOp
  simp only [ho, resolve, invoke, builtin, Sem.run_bind, Sem.run_pure, Result.andThen_ok, List.map_toArray, List.map_cons, List.map_nil, hs, hx, hr]
  refine h ao cap w (by simpa using hown) hc (Below.refl _ _) (fun k e => ⟨.inl e, (hk k e).2⟩) (fun _ _ _ => rfl) (Nat.le_refl _)
 ·obtain ⟨ad, rfl, hn⟩ := hsrc (by omega)
  refine wp_append_lies w s x t ho base e i z 1 bytes ht hi hz hsize hby hzs (by decide) v n vs hs hown ad m c news hx (by omega) hn h1 (by omega) h63 hbytes hbase w.heap.size rfl ?_
  intro g cap w' o1 o2 o3 o4
  refine h (some ⟨g, 0, none⟩) cap w' o1 ?_ ?_ ?_ ?_ o2.size
  ·obtain ⟨_, h | ⟨g', cap', cur, e', _, hh, hle, _⟩⟩ := o1
   ·simp at h
   ·simp only [Value.slice.injEq] at e'
    omega
  ·exact (Below.refl _ _).grown o2 hbase (fun k hk => (hown.lt k hk).1)
  ·intro k hk
   simp only [Value.ownBlock, Option.some.injEq] at hk
   subst hk
   exact ⟨o3, o4⟩
  ·intro k hk hne
   exact o2.block k hk (fun q => hne q.symm)
theorem wpList_append_u {ops : Array Oper} {rest : List Oper} {o : Oper} {a : Act} {w : World} {Q : Exit → Act → World → Prop} (hgd : o.guard = none) (s x : Operand) (t : TypeId)
  (ho : o.op = .call { callee := .builtin .append, args := #[s, x], argTypes := #[t, t] })
  (base : Nat) (e : TypeId) (i : TypeInfo) (z : Value) (bytes : Nat) (ht : Tryz.prog.underlying t = some (.slice e)) (hi : Tryz.prog.info? e = some i) (hz : i.zero = some z)
  (hsize : i.size = 1) (hby : i.bytes = bytes) (hzs : z.cells.size = 1)
  (v : Value) (n : Nat) (vs : List Value) (hs : a.eval s = v) (hown : w.ownsRow base e 1 v n vs)
  (xa : Option Addr) (m c : Nat) (news : List Value) (hx : a.eval x = .slice xa m c) (hl : news.length = m) (hsrc : 0 < m → ∃ ad, xa = some ad ∧ ∀ j u, news[j]? = some u → w.cell? (ad.add j) = some u) (h1 : ∀ u ∈ news, u.oneCell' = true)
  (h63 : n + m ≤ maxLen) (hbytes : (n + m) * bytes ≤ 140737488355328) (hbase : base ≤ w.heap.size)
  (h : ∀ ao cap w', w'.ownsRow base e 1 (.slice ao (n + m) cap) (n + m) (vs ++ news) → n + m ≤ cap → Below base w w' → wpList Tryz.prog ops Q rest (a.put o.dst (.slice ao (n + m) cap)) w') : wpList Tryz.prog ops Q (o :: rest) a w :=
 wpList_plain hgd fun K hK => by
  have hw : Region.wanted o (yielded ops a.tmps) = true := by simp [Region.wanted, hgd]
  have := step_append_u (ops := ops) (o := o) (a := a) (w := w) (K := K) (Q := Q) (E := True) hgd s x t ho base e i z bytes ht hi hz hsize hby hzs v n vs hs hown xa m c news hx hl hsrc h1 h63 hbytes hbase (fun ao cap w' h1 h2 h3 _ _ _ => hK _ _ (h ao cap w' h1 h2 h3))
  rw [if_pos hw] at this
  exact this
def Apart (u v : Value) : Prop := ∀ k, u.ownBlock = some k → v.ownBlock ≠ some k
theorem Apart.symm {u v : Value} (h : Apart u v) : Apart v u := fun k hk hu => h k hu hk
theorem apart_nil (v : Value) : Apart v (.slice none 0 0) := fun k _ h => by cases h
theorem owns_other {w w' : World} {base e n : Nat} {v u : Value} {vs : List Value} (h : w.ownsRow base e 1 v n vs) (hkeep : ∀ k, k < w.heap.size → u.ownBlock ≠ some k → w'.heap[k]? = w.heap[k]?) (ha : Apart v u) : w'.ownsRow base e 1 v n vs := by
 have hl := h.lt
 obtain ⟨h1, h2 | ⟨g, cap, cur, e1, e2, hh, r⟩⟩ := h
 ·exact ⟨h1, .inl h2⟩
 ·subst e1
  exact ⟨h1, .inr ⟨g, cap, cur, rfl, e2, (hkeep g (hl g rfl).2 (ha g rfl)).trans hh, r⟩⟩
theorem apart_new {w w' : World} {base e n : Nat} {v u u' : Value} {vs : List Value} (h : w.ownsRow base e 1 v n vs) (hn : ∀ k, u'.ownBlock = some k → (u.ownBlock = some k ∨ k = w.heap.size) ∧ k < w'.heap.size) (ha : Apart v u) : Apart v u' := by
 intro k hk hu
 rcases (hn k hu).1 with c | c
 ·exact ha k hk c
 ·have := (h.lt k hk).2
  omega
theorem wpList_append_x {ops : Array Oper} {rest : List Oper} {o : Oper} {a : Act} {w : World} {Q : Exit → Act → World → Prop} (hgd : o.guard = none) (s x : Operand) (t : TypeId)
  (ho : o.op = .call { callee := .builtin .append, args := #[s, x], argTypes := #[t, t] })
  (base : Nat) (e : TypeId) (i : TypeInfo) (z : Value) (bytes : Nat) (ht : Tryz.prog.underlying t = some (.slice e)) (hi : Tryz.prog.info? e = some i) (hz : i.zero = some z)
  (hsize : i.size = 1) (hby : i.bytes = bytes) (hzs : z.cells.size = 1)
  (v : Value) (n : Nat) (vs : List Value) (hs : a.eval s = v) (hown : w.ownsRow base e 1 v n vs)
  (xa : Option Addr) (m c : Nat) (news : List Value) (hx : a.eval x = .slice xa m c) (hl : news.length = m) (hsrc : 0 < m → ∃ ad, xa = some ad ∧ ∀ j u, news[j]? = some u → w.cell? (ad.add j) = some u) (h1 : ∀ u ∈ news, u.oneCell' = true)
  (h63 : n + m ≤ maxLen) (hbytes : (n + m) * bytes ≤ 140737488355328) (hbase : base ≤ w.heap.size)
  (h : ∀ ao cap w', w'.ownsRow base e 1 (.slice ao (n + m) cap) (n + m) (vs ++ news) → n + m ≤ cap → Below base w w' → (∀ k, (Value.slice ao (n + m) cap).ownBlock = some k → (v.ownBlock = some k ∨ k = w.heap.size) ∧ k < w'.heap.size) → (∀ k, k < w.heap.size → v.ownBlock ≠ some k → w'.heap[k]? = w.heap[k]?) → w.heap.size ≤ w'.heap.size → wpList Tryz.prog ops Q rest (a.put o.dst (.slice ao (n + m) cap)) w') : wpList Tryz.prog ops Q (o :: rest) a w :=
 wpList_plain hgd fun K hK => by
  have hw : Region.wanted o (yielded ops a.tmps) = true := by simp [Region.wanted, hgd]
  have := step_append_u (ops := ops) (o := o) (a := a) (w := w) (K := K) (Q := Q) (E := True) hgd s x t ho base e i z bytes ht hi hz hsize hby hzs v n vs hs hown xa m c news hx hl hsrc h1 h63 hbytes hbase (fun ao cap w' h1 h2 h3 h4 h5 h6 => hK _ _ (h ao cap w' h1 h2 h3 h4 h5 h6))
  rw [if_pos hw] at this
  exact this
end Ap
end Go.Proofs.YtcaalcjcpddhaaaGreat.Zz

namespace Go.Proofs.YtcaalcjcpddhaaaGreat.Zz
set_option linter.unusedVariables false
set_option linter.unusedSimpArgs false


end Go.Proofs.YtcaalcjcpddhaaaGreat.Zz
