/-
  The contracts of the program's Bits of rows in blocks, and of the function that it hands to along. The contract of the program's Bits of rows in blocks. Slices of structs of two cells. Slices of structs of two cells; the contract of the program's parted. The contract of the program's marked. The contracts of the program's classesOf and offsetsOf. The contract of the program's Build of rows in blocks. The contracts of the program's functions of rows in blocks, over objects. The contracts of the program's Check, Size, Access, Rank and Select. What stays of a row of a kind where one other block is written; a part of a struct into its block. The contract of the program's Build. The contracts of the document's functions of plain rows, over objects. The contract of the document's row of layer 9: the places that one tells.
-/
import Derived.Test.YtcaalcjcpddhaaaGreatR19
import Derived.Test.YtcaalcjcpddhaaaGreatR09
import Derived.Test.YtcaalcjcpddhaaaGreatR05
import Derived.Test.YtcaalcjcpddhaaaGreatR06
import Derived.Test.YtcaalcjcpddhaaaGreatR03
import Derived.Test.YtcaalcjcpddhaaaGreatR18
import Derived.Test.YtcaalcjcpddhaaaGreatR16
import Derived.Test.YtcaalcjcpddhaaaGreatR15
namespace Go.Proofs.YtcaalcjcpddhaaaGreat
open Go.RowKit Num Bit Bn
set_option linter.unusedVariables false
set_option linter.unusedSimpArgs false
set_option maxRecDepth 100000

def rowP (n : Nat) (F : Nat → Bool) (p : Nat) : List Nat := rowOf n fun j => decide (j < p) && F j
theorem length_rowP (n : Nat) (F : Nat → Bool) (p : Nat) : (rowP n F p).length = (n + 63) / 64 := length_rowOf _ _
end Go.Proofs.YtcaalcjcpddhaaaGreat

namespace Go.Proofs.YtcaalcjcpddhaaaGreat
open Go.RowKit Num Bit Bn
set_option linter.unusedVariables false
set_option linter.unusedSimpArgs false
set_option maxRecDepth 100000

end Go.Proofs.YtcaalcjcpddhaaaGreat

namespace Go.Proofs.YtcaalcjcpddhaaaGreat
open Go.RowKit Num Bit
set_option linter.unusedVariables false
set_option maxRecDepth 100000
def bl2 (n : Nat) (a b : Nat → Value) : List Value := (List.range (n * 2)).map fun j => if j % 2 = 0 then a (j / 2) else b (j / 2)
theorem length_bl2 (n : Nat) (a b : Nat → Value) : (bl2 n a b).length = n * 2 := by simp [bl2]
theorem bl2_get (n : Nat) (a b : Nat → Value) (j : Nat) (h : j < n * 2) : (bl2 n a b)[j]? = some (if j % 2 = 0 then a (j / 2) else b (j / 2)) := by
 unfold bl2
 rw [List.getElem?_map, List.getElem?_range h]
 rfl
theorem bl2_fst (n : Nat) (a b : Nat → Value) (i : Nat) (h : i < n) : (bl2 n a b)[i * 2]? = some (a i) := by
 rw [bl2_get n a b (i * 2) (by omega), if_pos (by omega), show i * 2 / 2 = i by omega]
theorem bl2_snd (n : Nat) (a b : Nat → Value) (i : Nat) (h : i < n) : (bl2 n a b)[i * 2 + 1]? = some (b i) := by
 rw [bl2_get n a b (i * 2 + 1) (by omega), if_neg (by omega), show (i * 2 + 1) / 2 = i by omega]
theorem bl2_set (n : Nat) (a b a' b' : Nat → Value) (i : Nat) (h : i < n) (ha : ∀ j, j ≠ i → a' j = a j) (hb : ∀ j, j ≠ i → b' j = b j) : ((bl2 n a b).set (i * 2) (a' i)).set (i * 2 + 1) (b' i) = bl2 n a' b' := by
 refine List.ext_getElem? fun j => ?_
 by_cases c : j < n * 2
 ·rw [bl2_get n a' b' j c, List.getElem?_set, List.getElem?_set]
  by_cases c1 : i * 2 + 1 = j
  ·subst c1
   rw [if_pos rfl, List.length_set, length_bl2, if_pos c, if_neg (by omega), show (i * 2 + 1) / 2 = i by omega]
  ·rw [if_neg c1]
   by_cases c2 : i * 2 = j
   ·subst c2
    rw [if_pos rfl, length_bl2, if_pos c, if_pos (by omega), show i * 2 / 2 = i by omega]
   ·rw [if_neg c2, bl2_get n a b j c, ha (j / 2) (by omega), hb (j / 2) (by omega)]
 ·rw [List.getElem?_eq_none (by rw [List.length_set, List.length_set, length_bl2]; omega), List.getElem?_eq_none (by rw [length_bl2]; omega)]
theorem bl2_made (n : Nat) (x y : Value) : (madeCells #[x, y] (n * 2)).toList = bl2 n (fun _ => x) (fun _ => y) := by
 unfold madeCells bl2
 rw [Array.toList_map, Array.toList_range]
 refine List.map_congr_left fun j _ => ?_
 show #[x, y][j % 2]! = _
 rcases Nat.mod_two_eq_zero_or_one j with e | e
 ·rw [e]; rfl
 ·rw [e]; rfl
end Go.Proofs.YtcaalcjcpddhaaaGreat

namespace Go.Proofs.YtcaalcjcpddhaaaGreat
open Go.RowKit Num Bit Bn
set_option linter.unusedVariables false
set_option linter.unusedSimpArgs false
set_option maxRecDepth 100000

end Go.Proofs.YtcaalcjcpddhaaaGreat

namespace Go.Proofs.YtcaalcjcpddhaaaGreat
open Go.RowKit Num Bit Bn
set_option linter.unusedVariables false
set_option linter.unusedSimpArgs false
set_option maxRecDepth 100000

end Go.Proofs.YtcaalcjcpddhaaaGreat

namespace Go.Proofs.YtcaalcjcpddhaaaGreat
open Go.RowKit Num Bit Bn
set_option linter.unusedVariables false
set_option linter.unusedSimpArgs false
set_option maxRecDepth 100000

end Go.Proofs.YtcaalcjcpddhaaaGreat

namespace Go.Proofs.YtcaalcjcpddhaaaGreat
open Go.RowKit Num Bit Bn
set_option linter.unusedVariables false
set_option linter.unusedSimpArgs false
set_option maxRecDepth 100000

structure QB (V wr : World) (gx : Nat) (c0 c1 c2 c3 c4 c5 c6 sv tv : Value) (J T m : Nat) (f : Nat → Bool) : Prop where
 bx : Cel wr gx [c0, c1, c2, c3, c4, c5, c6, sv, tv] 32
 lt : gx < V.heap.size
 sz : V.heap.size ≤ wr.heap.size
 hb : Below gx V wr
 same : ∀ k, k < V.heap.size → k ≠ gx → wr.heap[k]? = V.heap[k]?
 o1 : wr.ownsRow V.heap.size 3 1 sv J (iv8 (onL m f J))
 o2 : wr.ownsRow V.heap.size 3 1 tv T (iv8 (ptL m f T))
 ap : Ap.Apart sv tv
end Go.Proofs.YtcaalcjcpddhaaaGreat

namespace Go.Proofs.YtcaalcjcpddhaaaGreat
open Go.RowKit Num Bit Bn
set_option linter.unusedVariables false
set_option linter.unusedSimpArgs false
set_option maxRecDepth 100000

end Go.Proofs.YtcaalcjcpddhaaaGreat

namespace Go.Proofs.YtcaalcjcpddhaaaGreat
open Go.RowKit Num Bit
set_option linter.unusedVariables false
set_option linter.unusedSimpArgs false
set_option maxRecDepth 100000

theorem info_bv : (Tryz.prog.info? 24).map (·.size) = some 2 := by kernel_rfl
end Go.Proofs.YtcaalcjcpddhaaaGreat

namespace Go.Proofs.YtcaalcjcpddhaaaGreat
open Go.RowKit Num Bit
set_option linter.unusedVariables false
set_option linter.unusedSimpArgs false
set_option maxRecDepth 100000

theorem Only.nd {g base : Nat} {w w' : World} {ao : Option Addr} {l : List Int} (h : Only g w w') (hx : Nd w ao l) (hf : Fr base ao) (hg : g < base) : Nd w' ao l := by
 intro h0
 obtain ⟨b, off, rfl, hlt, hc⟩ := hx h0
 have hne : base ≤ b := hf _ rfl
 exact ⟨b, off, rfl, by rw [h.size]; exact hlt, fun i hi => (h.cell (p := ⟨b, off + i, none⟩) (show b ≠ g by omega)).trans (hc i hi)⟩
def Nou (cs : List Value) : Prop := ∀ v ∈ cs, ∀ n, v ≠ .int .u64 n
theorem Nou.app {a b : List Value} (h : Nou a) (g : Nou b) : Nou (a ++ b) := fun v hv n => by
 rcases List.mem_append.1 hv with e | e
 ·exact h v e n
 ·exact g v e n
theorem KArg7.nou {w : World} {cs : List Value} {a : RA7} (h : KArg7 w cs a) : Nou cs := by
 obtain ⟨ao, cap, so, sc, tO, tc, rfl, _⟩ := h
 intro v hv n
 simp at hv
 rcases hv with rfl | rfl | rfl | rfl <;> simp
theorem KArg8.nou {w : World} {cs : List Value} {a : RA8} (h : KArg8 w cs a) : Nou cs := by
 obtain ⟨ao, cap, qo, dap, so, sc, tO, tc, rfl, _⟩ := h
 intro v hv n
 simp at hv
 rcases hv with rfl | rfl | rfl | rfl | rfl | rfl | rfl | rfl | rfl <;> simp
theorem KArg9.nou {w : World} {cs : List Value} {a : RA9} (h : KArg9 w cs a) : Nou cs := by
 obtain ⟨ao, cap, qo, dap, rfl, _⟩ := h
 intro v hv n
 simp at hv
 rcases hv with rfl | rfl | rfl | rfl | rfl | rfl | rfl | rfl <;> simp
theorem KI7.only {w w2 : World} {g base : Nat} {cs gs : List Value} {a : RA7} {T : TypeId} (h : KI7 w cs a) (nf : NF base 2 cs) (hg : g < base) (hc : Cel w g gs T) (hn : Nou gs) (hO : Only g w w2) : KI7 w2 cs a := by
 obtain ⟨⟨ao, cap, so, sc, tO, tc, rfl, h⟩, xl, sl, tl⟩ := h
 exact ⟨⟨ao, cap, so, sc, tO, tc, rfl, ⟨h.n, hO.wd h.x (h.x.apart hc hn), h.f, h.c, hO.nd h.s (nf _ _ _ (.inl rfl)) hg, h.sf, h.sc, hO.nd h.t (nf _ _ _ (.inr rfl)) hg, h.tf, h.tc⟩⟩, xl, sl, tl⟩
theorem KI8.only {w w2 : World} {g base : Nat} {cs gs : List Value} {a : RA8} {T : TypeId} (h : KI8 w cs a) (nf : NF base 7 cs) (hg : g < base) (hc : Cel w g gs T) (hn : Nou gs) (hO : Only g w w2) (G2 : GV w2) : KI8 w2 cs a := by
 obtain ⟨⟨ao, cap, qo, dap, so, sc, tO, tc, rfl, r, a1, a2, a3, a4, a5, a6, a7, a8, a9, a10⟩, xl, yl, sl, tl, _⟩ := h
 exact ⟨⟨ao, cap, qo, dap, so, sc, tO, tc, rfl, r, hO.wd a1 (a1.apart hc hn), a2, a3, hO.wd a4 (a4.apart hc hn), a5, a6, hO.nd a7 (nf _ _ _ (.inl rfl)) hg, a8, hO.nd a9 (nf _ _ _ (.inr rfl)) hg, a10⟩, xl, yl, sl, tl, G2⟩
theorem KI9.only {w w2 : World} {g : Nat} {cs gs : List Value} {a : RA9} {T : TypeId} (h : KI9 w cs a) (hc : Cel w g gs T) (hn : Nou gs) (hO : Only g w w2) : KI9 w2 cs a := by
 obtain ⟨⟨ao, cap, qo, dap, rfl, r, a1, a2, a3, a4, a5, a6⟩, n3, xl, yl⟩ := h
 exact ⟨⟨ao, cap, qo, dap, rfl, r, hO.wd a1 (a1.apart hc hn), a2, a3, hO.wd a4 (a4.apart hc hn), a5, a6⟩, n3, xl, yl⟩
theorem i64_0 : I64 0 := ⟨by decide, by decide⟩
theorem z7arg (w : World) : KI7 w [Value.int .i64 0, .slice none 0 0, .slice none 0 0, .slice none 0 0] n7 := ⟨⟨none, 0, none, 0, none, 0, rfl, ⟨i64_0, wd0' _ _, fit_nil, Nat.le_refl _, nd0 _ _, fitI_nil, Nat.le_refl _, nd0 _ _, fitI_nil, Nat.le_refl _⟩⟩, Nat.zero_le _, Nat.zero_le _, Nat.zero_le _⟩
theorem z8a (w : World) : KArg8 w [Value.int .i64 0, .int .i64 0, .int .i64 0, .int .i64 0, .slice none 0 0, .int .i64 0, .slice none 0 0, .slice none 0 0, .slice none 0 0] n8 := ⟨none, 0, none, 0, none, 0, none, 0, rfl, ⟨i64_0, i64_0, i64_0, i64_0, i64_0, fitI_nil, fitI_nil⟩, wd0' _ _, fit_nil, Nat.le_refl _, wd0' _ _, fit_nil, Nat.le_refl _, nd0 _ _, Nat.le_refl _, nd0 _ _, Nat.le_refl _⟩
theorem z8arg (w : World) (G : GV w) : KI8 w [Value.int .i64 0, .int .i64 0, .int .i64 0, .int .i64 0, .slice none 0 0, .int .i64 0, .slice none 0 0, .slice none 0 0, .slice none 0 0] n8 := ⟨z8a w, Nat.zero_le _, Nat.zero_le _, Nat.zero_le _, Nat.zero_le _, G⟩
theorem z9arg (w : World) : KI9 w [Value.int .i64 0, .int .i64 0, .int .i64 0, .int .i64 0, .int .i64 0, .slice none 0 0, .int .i64 0, .slice none 0 0] n9 := ⟨⟨none, 0, none, 0, rfl, ⟨i64_0, i64_0, i64_0, i64_0, i64_0, i64_0⟩, wd0' _ _, fit_nil, Nat.le_refl _, wd0' _ _, fit_nil, Nat.le_refl _⟩, by decide, Nat.zero_le _, Nat.zero_le _⟩
theorem ki_mk {w : World} {cp cr cf : List Value} {K : Int} {p : RA7} {r : RA8} {f : RA9} (hK : I64 K) (h1 : KI7 w cp p) (h2 : KI8 w cr r) (h3 : KI9 w cf f) : KI w (.int .i64 K :: (cp ++ (cr ++ cf))) ⟨K, p, r, f⟩ :=
 ⟨⟨cp, cr, cf, rfl, hK, h1.arg, h2.arg, h3.arg⟩, ⟨h1.xl, h1.sl, h1.tl, h2.xl, h2.yl, h2.sl, h2.tl, h3.n3, h3.xl, h3.yl⟩, h2.gv⟩
theorem ka_mk {w : World} {cp cr cf : List Value} {K : Int} {p : RA7} {r : RA8} {f : RA9} (hK : I64 K) (h1 : KArg7 w cp p) (h2 : KArg8 w cr r) (h3 : KArg9 w cf f) : KArg w (.int .i64 K :: (cp ++ (cr ++ cf))) ⟨K, p, r, f⟩ := ⟨cp, cr, cf, rfl, hK, h1, h2, h3⟩
theorem nou_mk {cp cr cf : List Value} {K : Int} (h1 : Nou cp) (h2 : Nou cr) (h3 : Nou cf) : Nou (.int .i64 K :: (cp ++ (cr ++ cf))) := fun v hv n => by
 rcases List.mem_cons.1 hv with rfl | e
 ·simp
 ·exact (h1.app (h2.app h3)) v e n
theorem cel_cells {w : World} {g : Nat} {T : TypeId} : ∀ (cs pre old post : List Value), old.length = cs.length → Cel w g (pre ++ (old ++ post)) T → Cel (w.setCells g pre.length cs) g (pre ++ (cs ++ post)) T ∧ Only g w (w.setCells g pre.length cs) := by
 intro cs
 induction cs generalizing w with
 | nil =>
  intro pre old post hl h
  obtain rfl := List.eq_nil_of_length_eq_zero hl
  exact ⟨h, Only.refl _ _⟩
 | cons v r ih =>
  intro pre old post hl h
  match old, hl with
  | u :: o, hl =>
   have h2 : Cel (w.setCell ⟨g, pre.length, none⟩ v) g ((pre ++ [v]) ++ (o ++ post)) T := by
    have := h.set pre.length v
    have e : (pre ++ (u :: o ++ post)).set pre.length v = (pre ++ [v]) ++ (o ++ post) := by
     rw [List.set_append_right _ _ (Nat.le_refl _), Nat.sub_self]
     simp
    rw [e] at this
    exact this
   have k := ih (pre ++ [v]) o post (by simpa using hl) h2
   rw [List.length_append, List.length_singleton] at k
   refine ⟨?_, ((Only.refl g w).set pre.length v).trans k.2⟩
   have k1 := k.1
   rw [List.append_assoc] at k1
   exact k1
theorem store_part {ops : Array Oper} {rest : List Oper} {d : Option Tmp} {ty T TT : TypeId} {ps : String} {af : Array Edge} {a : Act} {w : World} {Q : Exit → Act → World → Prop} {x y : Operand}
  (g : Nat) (pre old post cs : List Value) (hx : a.eval x = .pointer (some ⟨g, pre.length, none⟩)) (hy : a.eval y = .agg cs.toArray) (hc : Cel w g (pre ++ (old ++ post)) TT) (lo : old.length = cs.length) (hi : (Tryz.prog.info? T).map (·.size) = some cs.length) (h1 : cs.toArray.all (·.oneCell') = true)
  (h : ∀ w1, Cel w1 g (pre ++ (cs ++ post)) TT → Only g w w1 → wpList Tryz.prog ops Q rest (a.put d undef) w1) :
  wpList Tryz.prog ops Q (⟨d, .store T x y, ty, ps, af, none⟩ :: rest) a w := by
 refine wpList_store_mid rfl T x y rfl g pre.length cs.toArray hx hy ?_ (by simpa using hi) h1 ?_
 ·intro j hj
  have hj : j < cs.length := by simpa using hj
  have hl : pre.length + j < (pre ++ (old ++ post)).length := by simp only [List.length_append]; omega
  exact ⟨by rw [hc.cell (pre.length + j) (List.getElem?_eq_getElem hl)]; rfl, hc.frozen _⟩
 ·have k := cel_cells cs pre old post lo hc
  exact h _ k.1 k.2
end Go.Proofs.YtcaalcjcpddhaaaGreat

namespace Go.Proofs.YtcaalcjcpddhaaaGreat
open Go.RowKit Num Bit
set_option linter.unusedVariables false
set_option linter.unusedSimpArgs false
set_option maxRecDepth 100000

theorem NF.mono {base b0 i : Nat} {cs : List Value} (h : NF base i cs) (hl : b0 ≤ base) : NF b0 i cs := fun ao n c e a ha => Nat.le_trans hl (h ao n c e a ha)
theorem NF.mid {base i j : Nat} {pre cs post : List Value} (h : NF base i cs) (hl : i + 2 ≤ cs.length) (hj : j = pre.length + i) : NF base j (pre ++ (cs ++ post)) := fun ao n c e => by
 subst hj
 refine h ao n c ?_
 have k : ∀ q, q < cs.length → (pre ++ (cs ++ post))[pre.length + q]? = cs[q]? := fun q hq => by
  rw [List.getElem?_append_right (by omega), List.getElem?_append_left (by omega), show pre.length + q - pre.length = q by omega]
 rw [k i (by omega), show pre.length + i + 1 = pre.length + (i + 1) by omega, k (i + 1) (by omega)] at e
 exact e
def NFV (base : Nat) (cs : List Value) : Prop := NF base 3 cs ∧ NF base 12 cs
end Go.Proofs.YtcaalcjcpddhaaaGreat

namespace Go.Proofs.YtcaalcjcpddhaaaGreat
open Go.RowKit Num Bit
set_option linter.unusedVariables false
set_option maxRecDepth 100000

theorem p7whole_k (cs : List Value) (a : RA7) (w : World) (h : KI7 w cs a) :
  Calls Tryz.prog 69 #[.agg cs.toArray] w fun e w' => ∃ bo bc, e = .returned (.tuple #[.agg #[.int .i64 (kBN7 a), .slice bo (kBX7 a).length bc], .bool (kOk7 a)]) ∧ Wd w' bo (kBX7 a) ∧ (kBX7 a).length ≤ bc ∧ Below w.heap.size w w' := by
 obtain ⟨⟨ao, cap, so, sc, tO, tc, rfl, h⟩, xl, sl, tl⟩ := h
 refine (rwhole_c a.N ao a.xs cap so a.S sc tO a.T tc w h.x h.f h.c h.s sl h.t tl).mono ?_
 rintro e w' ⟨rfl, hb⟩
 exact ⟨_, _, rfl, (pi_wd a.N a.S a.T h.x).keep hb, pi_cap a.N a.xs a.S a.T cap h.c, hb⟩
theorem p7size_k (cs : List Value) (a : RA7) (w : World) (h : KI7 w cs a) :
  Calls Tryz.prog 16 #[.agg cs.toArray] w fun e w' => e = .returned (.int .i64 (kZ7 a)) ∧ Below w.heap.size w w' := by
 obtain ⟨⟨ao, cap, so, sc, tO, tc, rfl, h⟩, xl, sl, tl⟩ := h
 exact rsize_c a.N ao a.xs cap so a.S sc tO a.T tc w h.x h.f h.c h.s sl h.t tl
theorem p7build_k (N : Int) (ao : Option Addr) (xs : List Nat) (cap : Nat) (w : World) (hN : I64 N) (hx : Wd w ao xs) (hf : Fit xs) (hcap : xs.length ≤ cap) (hl : xs.length ≤ 1048576) :
  Calls Tryz.prog 12 #[.agg #[.int .i64 N, .slice ao xs.length cap]] w fun e w' => ∃ cs : List Value, e = .returned (.tuple #[.agg cs.toArray, .int .i64 (kE7 N xs)]) ∧ KI7 w' cs (kB7 N xs) ∧ NF w.heap.size 2 cs ∧ Below w.heap.size w w' := by
 refine (rbuild_c N ao xs cap w hx hf hcap).mono ?_
 rintro e w' ⟨bo, bc, so, sc, tO, tc, rfl, ho, hb⟩
 exact ⟨_, rfl, ho.ki N xs hN hf hl, nf_mk ho.sn ho.tn, hb⟩
end Go.Proofs.YtcaalcjcpddhaaaGreat

namespace Go.Proofs.YtcaalcjcpddhaaaGreat
open Go.RowKit Num Bit
set_option linter.unusedVariables false
set_option linter.unusedSimpArgs false
set_option maxRecDepth 100000

def ROut (o : Option (List Nat)) (w : World) (e : Ending) (w' : World) : Prop :=
 match o with
 | none => e = .returned (.tuple #[.slice none 0 0, .bool false]) ∧ Below w.heap.size w w'
 | some l => ∃ so sc, e = .returned (.tuple #[.slice so l.length sc, .bool true]) ∧ Nd w' so (lz l) ∧ l.length ≤ sc ∧ Below w.heap.size w w'
theorem fRow_bad (a : FA) (h : ¬ ((0 ≤ a.N ∧ a.N ≤ 1048576 ∧ 0 ≤ a.M ∧ a.M ≤ a.N) ∧ ichk a.k a.V a.LM a.xs = true ∧ chk a.H a.ys = true ∧ ((plc (bitAt a.ys) a.H.toNat).length : Int) = a.M ∧ (wdF a.N.toNat a.M.toNat = 0 ∨ (((List.range a.k.toNat).map (numAt a.V.toNat a.xs)).length : Int) = a.M))) : fRow a = none := by
 unfold fRow
 exact if_neg h
set_option maxHeartbeats 8000000 in
theorem row9_bad (N M k V LM H : Int) (ao : Option Addr) (xs : List Nat) (cap : Nat) (qo : Option Addr) (ys : List Nat) (dap : Nat) (w : World) (hx : Wd w ao xs) (fx : Fit xs) (hy : Wd w qo ys) (fy : Fit ys) (h : ¬ ((0 ≤ N ∧ N ≤ 1048576 ∧ 0 ≤ M ∧ M ≤ N) ∧ ichk k V LM xs = true ∧ chk H ys = true)) :
  Calls Tryz.prog 92 #[.agg #[.int .i64 N, .int .i64 M, .int .i64 k, .int .i64 V, .int .i64 LM, .slice ao xs.length cap, .int .i64 H, .slice qo ys.length dap]] w (ROut none w) := by
 unfold ROut
 have C1 : Hid (∀ w0, Below w.heap.size w w0 → Calls Tryz.prog 89 #[.agg #[.int .i64 k, .int .i64 V, .int .i64 LM, .slice ao xs.length cap]] w0 fun e w' => e = .returned (.bool (ichk k V LM xs)) ∧ Below w0.heap.size w0 w') := fun w0 hb => irefcheck_c k V LM ao xs cap w0 (hx.keep hb) fx
 have C2 : Hid (∀ w0, Below w.heap.size w w0 → Calls Tryz.prog 21 #[.agg #[.int .i64 H, .slice qo ys.length dap]] w0 fun e w' => e = .returned (.bool (chk H ys)) ∧ Below w0.heap.size w0 w') := fun w0 hb => refcheck_c H qo ys dap w0 (hy.keep hb) fy
 obtain ⟨W, hW⟩ : ∃ W, W = w.alloc (.cells #[.int .i64 N, .int .i64 M, .int .i64 k, .int .i64 V, .int .i64 LM, .slice ao xs.length cap, .int .i64 H, .slice qo ys.length dap] 34) := ⟨_, rfl⟩
 have bW : Below w.heap.size w W := by rw [hW]; exact below_alloc w _
 have B1 : Cel W w.heap.size [.int .i64 N, .int .i64 M, .int .i64 k, .int .i64 V, .int .i64 LM, .slice ao xs.length cap, .int .i64 H, .slice qo ys.length dap] 34 := by rw [hW]; exact Cel.new w _ _
 clear hx hy fx fy
 by_cases n0 : N < 0
 ·clear C1 C2 h
  go_enter Tryz.func92, Tryz.ntmps92
  go_wp2
  go_ret2
  rw [← hW]
  exact ⟨rfl, bW⟩
 by_cases n1 : 1048576 < N
 ·clear C1 C2 h
  go_enter Tryz.func92, Tryz.ntmps92
  go_wp2
  go_ret2
  rw [← hW]
  exact ⟨rfl, bW⟩
 by_cases m0 : M < 0
 ·clear C1 C2 h
  go_enter Tryz.func92, Tryz.ntmps92
  go_wp2
  go_ret2
  rw [← hW]
  exact ⟨rfl, bW⟩
 by_cases m1 : N < M
 ·clear C1 C2 h
  go_enter Tryz.func92, Tryz.ntmps92
  go_wp2
  go_ret2
  rw [← hW]
  exact ⟨rfl, bW⟩
 cases hk : ichk k V LM xs with
 | false =>
  rw [hk] at C1
  clear C2 h hk
  go_enter Tryz.func92, Tryz.ntmps92
  go_wp2_with fail
  rw [← hW]
  refine (C1.out _ bW).mono ?_
  rintro e w1 ⟨rfl, hb⟩
  have bw1 := bW.trans (hb.mono bW.size)
  clear hW hb
  go_wp2
  go_ret2
  exact ⟨rfl, bw1⟩
 | true =>
  have hc : chk H ys = false := by
   cases hc : chk H ys with
   | false => rfl
   | true => exact absurd ⟨by omega, hk, hc⟩ h
  rw [hk] at C1
  rw [hc] at C2
  clear h hk hc
  go_enter Tryz.func92, Tryz.ntmps92
  go_wp2_with fail
  rw [← hW]
  refine (C1.out _ bW).mono ?_
  rintro e w1 ⟨rfl, hb⟩
  have bw1 := bW.trans (hb.mono bW.size)
  replace B1 := B1.kept hb
  have q6 := B1.cell 6 rfl
  have q7 := B1.cell 7 rfl
  clear hW hb
  go_wp2_with fail
  refine (C2.out _ bw1).mono ?_
  rintro e w2 ⟨rfl, hb⟩
  have bw2 := bw1.trans (hb.mono bw1.size)
  clear hb
  go_wp2
  go_ret2
  exact ⟨rfl, bw2⟩
end Go.Proofs.YtcaalcjcpddhaaaGreat
