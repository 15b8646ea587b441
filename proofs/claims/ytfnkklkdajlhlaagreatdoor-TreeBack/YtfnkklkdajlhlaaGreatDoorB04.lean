/-
  The contract of the document's Choose. The contracts of the document's Width, Offset and Block. The contract of the document's row: the way back from classes and offsets. Rows in blocks: the classes laid by Make, the offsets laid by From, and the way back from them: plain. What stands while a row in blocks is built: the boxes, and four rows that grow, each in blocks of its own. The contract of the document's row: the way back from classes and offsets. One block alone is written: what stays. A struct, or an array, whole, out of and into a block of its own.
-/
import Derived.Test.YtfnkklkdajlhlaaGreatDoorB03
import Derived.Test.YtfnkklkdajlhlaaGreatDoorB02
import Derived.Test.YtfnkklkdajlhlaaGreatDoorB01
import Derived.Test.YtfnkklkdajlhlaaGreatDoorB00
import Derived.Laws.Rows
import Derived.Laws.Tables
set_option linter.unusedVariables false
set_option linter.unusedSimpArgs false
set_option maxRecDepth 100000
set_option maxHeartbeats 16000000
namespace Go.Proofs.YtfnkklkdajlhlaaGreatDoor
open Go.RowKit Num Bn
namespace Ow
end Ow
namespace Ow
theorem shl_one (k : Nat) (h : k < 64) : IntKind.u64.wrap ((2 : Int) ^ k) = ((2 ^ k : Nat) : Int) := by
 have e : ((2 : Int) ^ k) = ((2 ^ k : Nat) : Int) := by rw [Int.natCast_pow]; rfl
 have := two_pow_lt k h
 rw [e, IntKind.wrap_u64]
 generalize (2 ^ k : Nat) = Z at *
 omega
theorem or_high (X p : Nat) (h : X % 2 ^ (p + 1) = 0) : X ||| 2 ^ p = X + 2 ^ p := by
 have e : X = 2 ^ (p + 1) * (X / 2 ^ (p + 1)) := by
  have := Nat.div_add_mod X (2 ^ (p + 1))
  omega
 have lt : 2 ^ p < 2 ^ (p + 1) := by rw [Nat.pow_succ]; have := Nat.two_pow_pos p; omega
 rw [e]
 exact (Nat.two_pow_add_eq_or_of_lt lt _).symm
theorem mod_down (X p : Nat) (h : X % 2 ^ (p + 1) = 0) : X % 2 ^ p = 0 := by
 have := mod_bit X p
 have q := Nat.two_pow_pos p
 omega
theorem mod_plus (X p : Nat) (h : X % 2 ^ (p + 1) = 0) : (X + 2 ^ p) % 2 ^ p = 0 := by
 rw [Nat.add_mod_right]
 exact mod_down X p h
end Ow
end Go.Proofs.YtfnkklkdajlhlaaGreatDoor
namespace Go.Proofs.YtfnkklkdajlhlaaGreatDoor
open Go.RowKit Num Bit Bn
theorem length_decG (N : Nat) (M : Int) (ys : List Nat) : ∀ l a out r, out.length ≤ N → decG N M ys l a out = some r → r.length ≤ N := by
 intro l
 induction l with
 | nil => intro a out r h e; simp only [decG, Option.some.injEq] at e; subst e; exact h
 | cons k l ih =>
  intro a out r h e
  rw [decG] at e
  split at e
  ·refine ih _ _ r ?_ e
   unfold addB
   rw [List.length_append, length_bits]
   omega
  ·cases e
end Go.Proofs.YtfnkklkdajlhlaaGreatDoor
namespace Go.Proofs.YtfnkklkdajlhlaaGreatDoor
open Num Bit Bn
theorem numAt_mk (l : List Nat) (W : Nat) (hW : 1 ≤ W) (hl : ∀ i, gt l i < 2 ^ W) (i : Nat) (hi : i < l.length) : numAt W (mkS l W l.length) i = gt l i := by
 unfold numAt
 refine (eq_numOf W (gt l i) _ fun k => ?_).symm
 by_cases c : k < W
 ·unfold mkS
  have e1 : (i * W + k) / W = i := by
   rw [Nat.mul_comm, Nat.mul_add_div (by omega), Nat.div_eq_of_lt c]; omega
  have e2 : (i * W + k) % W = k := by rw [Nat.mul_comm, Nat.mul_add_mod, Nat.mod_eq_of_lt c]
  have e3 : i * W + k < l.length * W := by
   have := mul_next l.length W i hi
   omega
  rw [bitAt_rowOf, e1, e2]
  simp [c, e3]
 ·have : gt l i < 2 ^ k := Nat.lt_of_lt_of_le (hl i) (Nat.pow_le_pow_right (by decide) (by omega))
  rw [Nat.testBit_lt_two_pow this]
  simp [c]
theorem ichk_mk (l : List Nat) (W : Nat) (hW : 1 ≤ W) (hW2 : W ≤ 64) (hl : l.length * W ≤ 1048576) : ichk (l.length : Int) (W : Int) ((l.length * W : Nat) : Int) (mkS l W l.length) = true := by
 unfold ichk
 rw [Bool.and_eq_true, decide_eq_true_eq]
 refine ⟨⟨by omega, by omega, by omega, by rw [Int.natCast_mul]⟩, ?_⟩
 exact chk_rowOf _ _ hl
theorem gt_bclP (m : Nat) (f : Nat → Bool) (n i : Nat) (h : i < n) : gt (bclP m f n) i = bcl m f i := by
 unfold bclP gt
 rw [List.getD_eq_getElem?_getD, List.getElem?_map, List.getElem?_range h]
 rfl
theorem bclP_lt (m : Nat) (f : Nat → Bool) (n i : Nat) : gt (bclP m f n) i < 2 ^ 4 := by
 by_cases c : i < n
 ·rw [gt_bclP m f n i c]
  have := bcl_le m f i
  omega
 ·rw [gt_out _ _ (by rw [length_bclP]; omega)]
  decide
theorem nb_le (m : Nat) (hm : m ≤ 1048576) : nb m ≤ 69906 := by unfold nb; omega
theorem list_mk (m : Nat) (f : Nat → Bool) : (List.range (nb m)).map (numAt 4 (mkS (bclP m f (nb m)) 4 (nb m))) = bclP m f (nb m) := by
 unfold bclP
 refine List.map_congr_left fun i hi => ?_
 have hi := List.mem_range.1 hi
 have := numAt_mk (bclP m f (nb m)) 4 (by decide) (bclP_lt m f (nb m)) i (by rw [length_bclP]; exact hi)
 rw [length_bclP, gt_bclP m f _ i hi] at this
 unfold bclP at this
 exact this
theorem fr_off (m : Nat) (f : Nat → Bool) : frL (bofP m f (nb m)) = rowOf (bat m f (nb m)) fun j => (bofP m f (nb m)).getD j false := by
 unfold frL
 rw [length_bofP]
 rfl
theorem fr_row (m : Nat) (f : Nat → Bool) : frL ((List.range m).map f) = rowOf m f := by
 unfold frL
 rw [List.length_map, List.length_range]
 refine rowOf_congr m _ _ fun i hi => ?_
 unfold bt
 rw [List.getD_eq_getElem?_getD, List.getElem?_map, List.getElem?_range hi]
 rfl
theorem dec_built (m : Nat) (f : Nat → Bool) (hm : m ≤ 1048576) :
  decG m (bat m f (nb m)) (frL (bofP m f (nb m))) ((List.range (nb m)).map (numAt 4 (mkS (bclP m f (nb m)) 4 (nb m)))) 0 [] = some ((List.range m).map f) := by
 rw [list_mk, fr_off]
 have h := dec_enc m f (bat m f (nb m)) _ (reads_row m f hm) (nb m) 0 (by omega)
 rw [show min (15 * 0) m = 0 by omega] at h
 rw [← List.range_eq_range'] at h
 exact h
end Go.Proofs.YtfnkklkdajlhlaaGreatDoor
namespace Go.Proofs.YtfnkklkdajlhlaaGreatDoor
open Go.RowKit Num Bit Bn
theorem info3_8 : (Tryz.prog.info? 3).map (fun i => (i.zero, i.size, i.bytes)) = some (some (.int .i64 0), 1, 8) := by kernel_rfl
def iv8 (l : List Int) : List Value := l.map fun n : Int => Value.int .i64 n
def onL (m : Nat) (f : Nat → Bool) (G : Nat) : List Int := (List.range G).map fun j => (bon m f (8 * j) : Int)
def ptL (m : Nat) (f : Nat → Bool) (G : Nat) : List Int := (List.range G).map fun j => (bat m f (8 * j) : Int)
theorem onL_succ (m : Nat) (f : Nat → Bool) (G : Nat) : iv8 (onL m f G) ++ [.int .i64 (bon m f (8 * G))] = iv8 (onL m f (G + 1)) := by
 unfold onL iv8
 rw [List.range_succ, List.map_append, List.map_append]
 rfl
theorem ptL_succ (m : Nat) (f : Nat → Bool) (G : Nat) : iv8 (ptL m f G) ++ [.int .i64 (bat m f (8 * G))] = iv8 (ptL m f (G + 1)) := by
 unfold ptL iv8
 rw [List.range_succ, List.map_append, List.map_append]
 rfl
structure R8 (w wr : World) (m n cap : Nat) (ao : Option Addr) (g : Nat) (ov pv : Value) : Prop where
 b1 : Cel wr w.heap.size [.int .i64 m, .slice ao n cap] 33
 b2 : Cel wr (w.heap.size + 1) [.int .i64 0, .int .i64 0, .int .i64 0, .int .i64 0, .slice none 0 0, .int .i64 0, .slice none 0 0, .slice none 0 0, .slice none 0 0] 41
 bx : Cel wr g [.int .i64 m, .int .i64 0, .int .i64 0, .int .i64 0, .slice none 0 0, .int .i64 0, .slice none 0 0, ov, pv] 41
 hg : w.heap.size + 1 < g
 hw : Below w.heap.size w wr
structure RW (wr : World) (b : Nat) (cv fv ov pv : Value) (p1 p2 G1 G2 m : Nat) (f : Nat → Bool) : Prop where
 c : wr.ownsRow b 110 1 cv p1 (wv (bclP m f p1))
 o : wr.ownsRow b 4 1 fv (bat m f p2) (bvl (bofP m f p2))
 n : wr.ownsRow b 3 1 ov G1 (iv8 (onL m f G1))
 t : wr.ownsRow b 3 1 pv G2 (iv8 (ptL m f G2))
 co : Ap.Apart cv fv
 cn : Ap.Apart cv ov
 ct : Ap.Apart cv pv
 on : Ap.Apart fv ov
 ot : Ap.Apart fv pv
 nt : Ap.Apart ov pv
theorem owns_set8 {w : World} {base e n : Nat} {v u : Value} {vs : List Value} {a : Addr} (h : w.ownsRow base e 1 v n vs) (ha : a.block < base) : (w.setCell a u).ownsRow base e 1 v n vs := by
 obtain ⟨h1, h2 | ⟨g, cap, cur, e1, e2, hh, r⟩⟩ := h
 ·exact ⟨h1, .inl h2⟩
 ·exact ⟨h1, .inr ⟨g, cap, cur, e1, e2, (Below.heap_setCell w a u g (by omega)).trans hh, r⟩⟩
def rwN (o : Option (List Bool)) : Nat := (o.map List.length).getD 0
def rwX (o : Option (List Bool)) : List Nat := (o.map frL).getD []
end Go.Proofs.YtfnkklkdajlhlaaGreatDoor
namespace Go.Proofs.YtfnkklkdajlhlaaGreatDoor
open Go.RowKit
structure Only (g : Nat) (w w' : World) : Prop where
 os : w'.os = w.os
 tape : w'.tape = w.tape
 output : w'.output = w.output
 size : w'.heap.size = w.heap.size
 block : ∀ k, k ≠ g → w'.heap[k]? = w.heap[k]?
theorem Only.refl (g : Nat) (w : World) : Only g w w := ⟨rfl, rfl, rfl, rfl, fun _ _ => rfl⟩
theorem Only.trans {g : Nat} {a b c : World} (h : Only g a b) (k : Only g b c) : Only g a c := ⟨k.os.trans h.os, k.tape.trans h.tape, k.output.trans h.output, k.size.trans h.size, fun i hi => (k.block i hi).trans (h.block i hi)⟩
theorem Only.below {g base : Nat} {w w' : World} (h : Only g w w') (hb : base ≤ g) : Below base w w' := ⟨h.os, h.tape, h.output, by rw [h.size]; exact Nat.le_refl _, fun k hk => h.block k (by omega)⟩
theorem Only.set {g : Nat} {a w : World} (h : Only g a w) (i : Nat) (v : Value) : Only g a (w.setCell ⟨g, i, none⟩ v) :=
 ⟨h.os, h.tape, h.output, by rw [show (w.setCell ⟨g, i, none⟩ v).heap.size = w.heap.size by simp [World.setCell]]; exact h.size, fun k hk => (Below.heap_setCell w ⟨g, i, none⟩ v k hk).trans (h.block k hk)⟩
theorem Only.row (g : Nat) (w : World) (cs : Array Value) : Only g w (w.setRow g cs) := by
 refine ⟨rfl, rfl, rfl, ?_, fun k hk => ?_⟩
 ·simp [World.setRow]
 ·simp only [World.setRow, Array.getElem?_modify]
  rw [if_neg (by omega)]
theorem Only.cell {g : Nat} {w w' : World} (h : Only g w w') {p : Addr} (hp : p.block ≠ g) : w'.cell? p = w.cell? p := World.cell?_of_block (w := w) (h.block p.block hp)
theorem Only.cel {g b : Nat} {w w' : World} {cs : List Value} {T : TypeId} (h : Only g w w') (hc : Cel w b cs T) (hb : b ≠ g) : Cel w' b cs T := (h.block b hb).trans hc
theorem Only.wd {g : Nat} {w w' : World} {ao : Option Addr} {xs : List Nat} (h : Only g w w') (hx : Wd w ao xs) (hb : ∀ a, 0 < xs.length → ao = some a → a.block ≠ g) : Wd w' ao xs := by
 intro h0
 obtain ⟨b, off, e, hlt, hc⟩ := hx h0
 have hne := hb _ h0 e
 exact ⟨b, off, e, by rw [h.size]; exact hlt, fun i hi => (h.cell (p := ⟨b, off + i, none⟩) hne).trans (hc i hi)⟩
theorem Only.owns {g base e n : Nat} {w w' : World} {v : Value} {vs : List Value} (h : Only g w w') (ho : w.ownsRow base e 1 v n vs) (hg : g < base) : w'.ownsRow base e 1 v n vs := by
 obtain ⟨h1, h2 | ⟨b, cap, cur, e1, e2, hh, r⟩⟩ := ho
 ·exact ⟨h1, .inl h2⟩
 ·exact ⟨h1, .inr ⟨b, cap, cur, e1, e2, (h.block b (by omega)).trans hh, r⟩⟩
theorem Wd.apart {w : World} {ao : Option Addr} {xs : List Nat} {b : Nat} {cs : List Value} {T : TypeId} (hx : Wd w ao xs) (hc : Cel w b cs T) (hn : ∀ v ∈ cs, ∀ n, v ≠ .int .u64 n) : ∀ a, 0 < xs.length → ao = some a → a.block ≠ b := by
 intro a h0 ha he
 obtain ⟨b', off, e, hlt, hcc⟩ := hx h0
 rw [ha] at e
 obtain rfl := Option.some.inj e
 have he : b' = b := he
 subst he
 have h1 := hcc 0 h0
 unfold World.cell? at h1
 rw [show w.heap[({ block := b', off := off + 0, spot := none } : Addr).block]? = _ from hc] at h1
 have h2 : cs[off + 0]? = some (.int .u64 (Bit.gt xs 0)) := by simpa using h1
 exact hn _ (List.mem_of_getElem? h2) _ rfl
theorem store_cel {ops : Array Oper} {rest : List Oper} {d : Option Tmp} {ty T : TypeId} {ps : String} {af : Array Edge} {a : Act} {w : World} {Q : Exit → Act → World → Prop} {x y : Operand}
  (g : Nat) (old cs : List Value) (hx : a.eval x = .pointer (some ⟨g, 0, none⟩)) (hy : a.eval y = .agg cs.toArray) (hc : Cel w g old T) (lo : old.length = cs.length) (hi : (Tryz.prog.info? T).map (·.size) = some cs.length) (h1 : cs.toArray.all (·.oneCell') = true)
  (h : ∀ w1, Cel w1 g cs T → Only g w w1 → wpList Tryz.prog ops Q rest (a.put d undef) w1) :
  wpList Tryz.prog ops Q (⟨d, .store T x y, ty, ps, af, none⟩ :: rest) a w :=
 wpList_store_row rfl _ x y rfl g _ hx hy _ _ hc (by simpa using hi) (by simpa using lo) h1 (h _ (setRow_heap w g _ _ _ _ hc) (Only.row g w _))
theorem load_cel {ops : Array Oper} {rest : List Oper} {d : Option Tmp} {ty T : TypeId} {ps : String} {af : Array Edge} {a : Act} {w : World} {Q : Exit → Act → World → Prop} {x : Operand}
  (g : Nat) (cs : List Value) {fs : Array Field} (hx : a.eval x = .pointer (some ⟨g, 0, none⟩)) (hc : Cel w g cs T) (hu : Tryz.prog.underlying T = some (.struct fs)) (hi : (Tryz.prog.info? T).map (·.size) = some cs.length)
  (h : wpList Tryz.prog ops Q rest (a.put d (.agg cs.toArray)) w) :
  wpList Tryz.prog ops Q (⟨d, .load T x, ty, ps, af, none⟩ :: rest) a w :=
 wpList_load_row rfl _ x rfl g hx _ _ _ _ hc hu rfl (by simpa using hi) h
theorem result_cel {fn : Func} {p : Tmp} {T : TypeId} {w : World} {tmps : Array Value} {u : Tmp} (h : fn.results = #[.cell p T, .tmp u]) (g : Nat) (cs : List Value) {fs : Array Field} (hp : tmps.getD p undef = .pointer (some ⟨g, 0, none⟩)) (hc : Cel w g cs T) (hu : Tryz.prog.underlying T = some (.struct fs)) (hi : (Tryz.prog.info? T).map (·.size) = some cs.length) :
  (results fn tmps).run Tryz.prog w = .ok (.tuple #[.agg cs.toArray, tmps.getD u undef]) w := by
 have hp' : tmps[p]?.getD undef = .pointer (some ⟨g, 0, none⟩) := by simpa using hp
 have hl := run_loadVar_row (P := Tryz.prog) w g T T cs.toArray (0, 0) _ hc hu rfl (by simpa using hi)
 simp [results, h, hp', asAddr, hl]
theorem result_cel1 {fn : Func} {p : Tmp} {T : TypeId} {w : World} {tmps : Array Value} (h : fn.results = #[.cell p T]) (g : Nat) (cs : List Value) {fs : Array Field} (hp : tmps.getD p undef = .pointer (some ⟨g, 0, none⟩)) (hc : Cel w g cs T) (hu : Tryz.prog.underlying T = some (.struct fs)) (hi : (Tryz.prog.info? T).map (·.size) = some cs.length) :
  (results fn tmps).run Tryz.prog w = .ok (.agg cs.toArray) w := by
 have hp' : tmps[p]?.getD undef = .pointer (some ⟨g, 0, none⟩) := by simpa using hp
 have hl := run_loadVar_row (P := Tryz.prog) w g T T cs.toArray (0, 0) _ hc hu rfl (by simpa using hi)
 simp [results, h, hp', asAddr, hl]
theorem hide {p : Prop} (h : p) : Hid p := h
end Go.Proofs.YtfnkklkdajlhlaaGreatDoor
