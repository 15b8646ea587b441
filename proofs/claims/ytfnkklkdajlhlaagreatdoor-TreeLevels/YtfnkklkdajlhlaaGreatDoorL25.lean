/-
  The contract of the program's Build of trees. The contract of the program's Select of trees. The contract of the program's Size of trees. A tree that is built may be; the contract of heads. An argument of the type []byte, opened. The contracts of the program's Check, Size, Access, Rank, Select and Bits of a row that is a plain one. Rows of the plain kind. Plain: a row has as many ones as symbols have that bit.
-/
import Derived.Test.YtfnkklkdajlhlaaGreatDoorL24
import Derived.Test.YtfnkklkdajlhlaaGreatDoorL13
import Derived.Test.YtfnkklkdajlhlaaGreatDoorL12
import Derived.Test.YtfnkklkdajlhlaaGreatDoorL22
import Derived.Lib.SlBytesConst
import Derived.Laws.BytesArg
import Derived.Test.YtfnkklkdajlhlaaGreatDoorL00
import Derived.ProofKit
import Derived.OpenShut
import Derived.Test.YtfnkklkdajlhlaaGreatDoorL16
set_option linter.unusedVariables false
set_option linter.unusedSimpArgs false
set_option maxRecDepth 100000
set_option maxHeartbeats 16000000
namespace Go.Proofs.YtfnkklkdajlhlaaGreatDoor
open Go.RowKit Num Bit
theorem KI.nou {w : World} {cs : List Value} {a : RA} (h : KI w cs a) : Nou cs := by
 obtain ⟨cp, cr, cf, rfl, _, h1, h2, h3⟩ := h.arg
 exact nou_mk h1.nou h2.nou h3.nou
theorem KI.only {w w2 : World} {g base : Nat} {cs gs : List Value} {a : RA} {T : TypeId} (h : KI w cs a) (nf : NFV base cs) (hg : g < base) (hc : Cel w g gs T) (hn : Nou gs) (hO : Only g w w2) (G2 : GV w2) : KI w2 cs a := by
 obtain ⟨⟨cp, cr, cf, rfl, k, h1, h2, h3⟩, sm, gv⟩ := h
 have l1 := h1.four
 have l2 := h2.nine
 have e7 : ∀ q, q < 4 → (Value.int .i64 a.K :: (cp ++ (cr ++ cf)))[1 + q]? = cp[q]? := fun q hq => by
  rw [Nat.add_comm, List.getElem?_cons_succ, List.getElem?_append_left (by omega)]
 have e8 : ∀ q, q < 9 → (Value.int .i64 a.K :: (cp ++ (cr ++ cf)))[5 + q]? = cr[q]? := fun q hq => by
  rw [show 5 + q = 4 + q + 1 by omega, List.getElem?_cons_succ, List.getElem?_append_right (by omega), List.getElem?_append_left (by omega), l1, show 4 + q - 4 = q by omega]
 have n7 : NF base 2 cp := fun ao n c e => nf.1 ao n c (by
  rw [show (3 : Nat) = 1 + 2 from rfl, e7 2 (by decide), show (1 + 2 + 1 : Nat) = 1 + 3 from rfl, e7 3 (by decide)]
  exact e)
 have n8 : NF base 7 cr := fun ao n c e => nf.2 ao n c (by
  rw [show (12 : Nat) = 5 + 7 from rfl, e8 7 (by decide), show (5 + 7 + 1 : Nat) = 5 + 8 from rfl, e8 8 (by decide)]
  exact e)
 have k7 : KI7 w cp a.p := ⟨h1, sm.p1, sm.p2, sm.p3⟩
 have k8 : KI8 w cr a.r := ⟨h2, sm.r1, sm.r2, sm.r3, sm.r4, gv⟩
 have k9 : KI9 w cf a.f := ⟨h3, sm.f0, sm.f1, sm.f2⟩
 exact ⟨⟨cp, cr, cf, rfl, k, (k7.only n7 hg hc hn hO).arg, (k8.only n8 hg hc hn hO G2).arg, (k9.only hc hn hO).arg⟩, sm, G2⟩
def z22 (n : Nat) : List Value := (List.replicate n zv).flatten
theorem nou_zv : Nou zv := by
 intro v hv n e
 subst e
 simp [zv] at hv
theorem Nou.flat {css : List (List Value)} (h : ∀ c ∈ css, Nou c) : Nou css.flatten := fun v hv n => by
 obtain ⟨c, hc, hv⟩ := List.mem_flatten.1 hv
 exact h c hc v hv n
theorem len_flat (css : List (List Value)) (h : ∀ c ∈ css, c.length = 22) : css.flatten.length = css.length * 22 := by
 induction css with
 | nil => rfl
 | cons a l ih =>
  rw [List.flatten_cons, List.length_append, ih (fun c hc => h c (List.mem_cons_of_mem _ hc)), h a List.mem_cons_self, List.length_cons]
  omega
theorem flat_get (css : List (List Value)) (h : ∀ c ∈ css, c.length = 22) (l : Nat) (c : List Value) (hl : css[l]? = some c) (post : List Value) : ∃ p q, css.flatten ++ post = p ++ (c ++ q) ∧ p.length = l * 22 := by
 induction css generalizing l with
 | nil => simp at hl
 | cons a L ih =>
  cases l with
  | zero =>
   simp at hl
   subst hl
   exact ⟨[], L.flatten ++ post, by simp, rfl⟩
  | succ l =>
   obtain ⟨p, q, e1, e2⟩ := ih (fun c hc => h c (List.mem_cons_of_mem _ hc)) l (by simpa using hl)
   refine ⟨a ++ p, q, ?_, ?_⟩
   ·rw [List.flatten_cons, List.append_assoc, e1, List.append_assoc]
   ·rw [List.length_append, h a List.mem_cons_self, e2]; omega
theorem info_vec : (Tryz.prog.info? 45).map (fun i => (i.zero, i.size, i.bytes)) = some (some (.agg zv.toArray), 22, 320) := by kernel_rfl
theorem made_z22 : (madeCells zv.toArray (8 * 22)).toList = z22 8 := by kernel_rfl
theorem cel_made22 {w : World} {base g : Nat} {E : TypeId} (h : w.ownsRow base E 22 (.slice (some ⟨g, 0, none⟩) 8 8) 8 (madeCells zv.toArray (8 * 22)).toList) : Cel w g (z22 8) E := by
 obtain ⟨_, h | ⟨g', cap, cur, e, _, hh, _, _, hs, ht⟩⟩ := h
 ·simp at h
 ·simp only [Value.slice.injEq, Option.some.injEq, Addr.mk.injEq] at e
  obtain ⟨⟨rfl, _, _⟩, _, rfl⟩ := e
  unfold Cel
  rw [hh, ← made_z22, ← ht]
  have e3 : cur.toList.take (8 * 22) = cur.toList := List.take_of_length_le (by simp; omega)
  rw [e3]
theorem store_part2 {ops : Array Oper} {rest : List Oper} {d : Option Tmp} {ty T TT : TypeId} {ps : String} {af : Array Edge} {a : Act} {w : World} {Q : Exit → Act → World → Prop} {x y : Operand}
  (g o : Nat) (pre old post cs : List Value) (ho : pre.length = o) (hx : a.eval x = .pointer (some ⟨g, o, none⟩)) (hy : a.eval y = .agg cs.toArray) (hc : Cel w g (pre ++ (old ++ post)) TT) (lo : old.length = cs.length) (hi : (Tryz.prog.info? T).map (·.size) = some cs.length) (h1 : cs.toArray.all (·.oneCell') = true)
  (h : ∀ w1, Cel w1 g (pre ++ (cs ++ post)) TT → Only g w w1 → wpList Tryz.prog ops Q rest (a.put d undef) w1) :
  wpList Tryz.prog ops Q (⟨d, .store T x y, ty, ps, af, none⟩ :: rest) a w := by
 subst ho
 exact store_part g pre old post cs hx hy hc lo hi h1 h
structure Rw (w : World) (g : Nat) (k : Int) (t : List Nat) (css : List (List Value)) : Prop where
 len : css.length ≤ 8
 cel : Cel w g (css.flatten ++ z22 (8 - css.length)) 45
 row : ∀ l c, css[l]? = some c → KI w c (kB k (t.length : Int) (rw_ t l)) ∧ NFV (g + 1) c
theorem Rw.keep {w w' : World} {g : Nat} {k : Int} {t : List Nat} {css : List (List Value)} (h : Rw w g k t css) (hb : Below w.heap.size w w') : Rw w' g k t css := ⟨h.len, h.cel.kept hb, fun l c e => ⟨(h.row l c e).1.keep hb, (h.row l c e).2⟩⟩
theorem Rw.l22 {w : World} {g : Nat} {k : Int} {t : List Nat} {css : List (List Value)} (h : Rw w g k t css) : ∀ c ∈ css, c.length = 22 := fun c hc => by
 obtain ⟨l, hl⟩ := List.getElem?_of_mem hc
 exact (h.row l c hl).1.arg.nine.symm
theorem Rw.nou {w : World} {g : Nat} {k : Int} {t : List Nat} {css : List (List Value)} (h : Rw w g k t css) : Nou (css.flatten ++ z22 (8 - css.length)) := by
 refine Nou.app (Nou.flat fun c hc => ?_) (Nou.flat fun c hc => ?_)
 ·obtain ⟨l, hl⟩ := List.getElem?_of_mem hc
  exact (h.row l c hl).1.nou
 ·rw [(List.mem_replicate.1 hc).2]
  exact nou_zv
theorem Rw.lv {w : World} {g : Nat} {k : Int} {t : List Nat} {css : List (List Value)} (h : Rw w g k t css) (h8 : css.length = 8) : Lv w (some ⟨g, 0, none⟩) ((List.range 8).map fun l => kB k (t.length : Int) (rw_ t l)) := fun _ => by
 refine ⟨g, 0, rfl, h.cel.lt, fun l hl => ?_⟩
 have hl : l < 8 := by simpa using hl
 obtain ⟨c, hc⟩ : ∃ c, css[l]? = some c := ⟨_, List.getElem?_eq_getElem (by omega)⟩
 obtain ⟨p, q, e1, e2⟩ := flat_get css h.l22 l c hc (z22 (8 - css.length))
 refine ⟨c, ?_, ?_⟩
 ·have := h.cel
  rw [e1] at this
  have := Cel.part p c q this
  rwa [e2, ← Nat.zero_add (l * 22)] at this
 ·have : ((List.range 8).map fun l => kB k (t.length : Int) (rw_ t l)).getD l ra0 = kB k (t.length : Int) (rw_ t l) := by
   rw [List.getD_eq_getElem?_getD, List.getElem?_map, List.getElem?_range hl]; rfl
  rw [this]
  exact (h.row l c hc).1
theorem Rw.only {w w2 : World} {g g0 : Nat} {k : Int} {t : List Nat} {css : List (List Value)} {gs : List Value} {T : TypeId} (h : Rw w g k t css) (hg : g0 < g) (hc : Cel w g0 gs T) (hn : Nou gs) (hO : Only g0 w w2) (G2 : GV w2) : Rw w2 g k t css :=
 ⟨h.len, hO.cel h.cel (by omega), fun l c e => ⟨(h.row l c e).1.only (h.row l c e).2 (by omega) hc hn hO G2, (h.row l c e).2⟩⟩
theorem Rw.push {w w2 : World} {g : Nat} {k : Int} {t : List Nat} {css : List (List Value)} {c : List Value} (h : Rw w g k t css) (hl : css.length < 8) (hk : KI w c (kB k (t.length : Int) (rw_ t css.length))) (hn : NFV (g + 1) c) (h2 : Cel w2 g (css.flatten ++ (c ++ z22 (7 - css.length))) 45) (hO : Only g w w2) (G2 : GV w2) : Rw w2 g k t (css ++ [c]) := by
 refine ⟨by simp; omega, ?_, fun l d e => ?_⟩
 ·have e : (css ++ [c]).flatten ++ z22 (8 - (css ++ [c]).length) = css.flatten ++ (c ++ z22 (7 - css.length)) := by
   rw [List.flatten_append, List.length_append]
   simp
  rw [e]
  exact h2
 ·by_cases q : l < css.length
  ·rw [List.getElem?_append_left q] at e
   obtain ⟨e1, e2⟩ := h.row l d e
   exact ⟨e1.only e2 (Nat.lt_succ_self g) h.cel h.nou hO G2, e2⟩
  ·have q2 : l = css.length := by
    have := (List.getElem?_eq_some_iff.1 e).1
    simp at this
    omega
   subst q2
   rw [List.getElem?_append_right (Nat.le_refl _), Nat.sub_self] at e
   simp at e
   subst e
   exact ⟨hk.only hn (Nat.lt_succ_self g) h.cel h.nou hO G2, hn⟩
def tB (k : Int) (t : List Nat) : TR := ⟨k, (t.length : Int), (List.range 8).map fun l => kB k (t.length : Int) (rw_ t l)⟩
def tbE (k : Int) : Int := if 1 ≤ k ∧ k ≤ 3 then 0 else 5
def tBx (k : Int) (t : List Nat) : TR := if tbE k = 0 then tB k t else ⟨0, 0, []⟩
theorem chk_rw (t : List Nat) (l : Nat) (h : t.length ≤ 8192) : chk (t.length : Int) (rw_ t l) = true := chk_rowOf _ _ (by omega)
theorem kE_rw (k : Int) (t : List Nat) (l : Nat) (h : t.length ≤ 8192) : kE k (t.length : Int) (rw_ t l) = tbE k := by
 by_cases c : 1 ≤ k ∧ k ≤ 3
 ·rw [kE_ok k _ _ c.1 c.2 (chk_rw t l h)]
  unfold tbE
  rw [if_pos c]
 ·unfold kE tbE
  rw [if_neg c, if_neg (by omega), if_neg (by omega), if_neg (by omega)]
theorem build_tg (k : Int) (ao : Option Addr) (t : List Nat) (cap : Nat) (w : World) (hK : I64 k) (hx : Bd w ao t) (hB : Tw.Byt t) (hn : t.length ≤ 3000) (BV : VB k) (G : GV w) :
  Calls Tryz.prog 9 #[.int .i64 k, .slice ao t.length cap] w fun e w' => ∃ lo lc, e = .returned (.tuple #[.agg #[.int .i64 (tBx k t).K, .int .i64 (tBx k t).N, .slice lo (tBx k t).av.length lc], .int .i64 (tbE k)]) ∧ TI w' lo lc (tBx k t) ∧ Below w.heap.size w w' := by
 obtain ⟨i0, hi, hz0, hz1, hz2⟩ := info_parts info_vec
 have RO : Hid (∀ w0 l, l < 8 → Below w.heap.size w w0 → Calls Tryz.prog 28 #[.slice ao t.length cap, .int .i64 ((l : Nat) : Int)] w0 fun e w' => ∃ bo dap, e = .returned (.agg #[.int .i64 t.length, .slice bo (rw_ t l).length dap]) ∧ Wd w' bo (rw_ t l) ∧ (rw_ t l).length ≤ dap ∧ Below w0.heap.size w0 w') := fun w0 l hl hb => trow_c ao t cap l w0 (hx.keep hb) hB hl (by omega)
 have BK : Hid (∀ w0 l bo dap, l < 8 → Wd w0 bo (rw_ t l) → (rw_ t l).length ≤ dap → GV w0 → Calls Tryz.prog 27 #[.int .i64 k, .agg #[.int .i64 t.length, .slice bo (rw_ t l).length dap]] w0 fun e w' => ∃ cs : List Value, e = .returned (.tuple #[.agg cs.toArray, .int .i64 (tbE k)]) ∧ KI w' cs (kB k (t.length : Int) (rw_ t l)) ∧ Below w0.heap.size w0 w' ∧ NFV w0.heap.size cs) := fun w0 l bo dap hl h1 h2 g0 => by
  have := BV (t.length : Int) bo (rw_ t l) dap w0 ⟨by omega, by omega⟩ h1 (fit_rowOf _ _) h2 ⟨by omega, by rw [length_rw_]; omega⟩ g0
  rw [kE_rw k t l (by omega)] at this
  exact this
 have LR : Hid (∀ l, (rw_ t l).length = (t.length + 63) / 64) := fun l => length_rw_ t l
 obtain ⟨n, hnn⟩ : ∃ n, Hid (n = t.length) := ⟨_, rfl⟩
 have hn2 : n ≤ 3000 := by rw [hnn.out]; exact hn
 rw [← hnn.out] at RO BK ⊢
 obtain ⟨E, hE⟩ : ∃ E, Hid (E = tbE k) := ⟨_, rfl⟩
 rw [← hE.out] at BK ⊢
 have HG := Hid.mkt (fun (w0 : World) (hb : Below w.heap.size w w0) => G.kept hb)
 clear hn hx BV G
 have n1 : ¬ (8192 : Int) < (n : Int) := by omega
 go_enter Tryz.func9, Tryz.ntmps9
 go_wp2_with (at_make; refine wpList_make_full _ rfl _ _ 24 rfl (w.heap.size + 1) 45 i0 (.agg zv.toArray) 22 Tryz.underlying24 hi hz0 hz1 .i64 .i64 _ _ 8 rfl rfl rfl rfl ?b2 ?b3 ?b4 ?_)
 case b3 => unfold maxLen; decide
 intro w1 hown hgr
 have g1 := cel_made22 hown
 have hz : (w.alloc (.cells [.int .i64 0, .int .i64 0, .slice none 0 0].toArray 26)).heap.size = w.heap.size + 1 := by simp
 have b1 : Below (w.heap.size + 1) (w.alloc (.cells [.int .i64 0, .int .i64 0, .slice none 0 0].toArray 26)) w1 := (Below.refl _ _).grown hgr (by rw [hz]; exact Nat.le_refl _) (fun k h => by cases h)
 have c4 : Cel w1 w.heap.size [.int .i64 0, .int .i64 0, .slice none 0 0] 26 := (Cel.new w _ _).keep b1 (by omega)
 have bA : Below w.heap.size w w1 := (below_alloc w _).trans (b1.mono (by omega))
 have hs1 : w.heap.size + 1 < w1.heap.size := g1.lt
 clear hown hgr b1 hz hi hz0 hz1 hz2
 obtain ⟨gL, hgL⟩ : ∃ gL, gL = w.heap.size + 1 := ⟨_, rfl⟩
 rw [← hgL] at g1 hs1 ⊢
 have l4 : w.heap.size < gL := by omega
 clear hgL
 have c6 := Cel.new w1 [.int .i64 k, .int .i64 (n : Int), .slice (some ⟨gL, 0, none⟩) 8 8] 26
 have b6 := below_alloc w1 (.cells [.int .i64 k, .int .i64 (n : Int), .slice (some ⟨gL, 0, none⟩) 8 8].toArray 26)
 replace g1 := g1.kept b6
 replace c4 := c4.kept b6
 replace bA := bA.trans (b6.mono bA.size)
 clear b6
 have R0 : Rw (w1.alloc (.cells [.int .i64 k, .int .i64 (n : Int), .slice (some ⟨gL, 0, none⟩) 8 8].toArray 26)) gL k t [] := ⟨by simp, g1, fun l c e => by simp at e⟩
 clear g1
 go_wp2
 generalize w1.heap.size = g6 at *
 go_loopw [19] (fun s wr => ∃ (q : Nat) (css : List (List Value)), q ≤ 8 ∧ s = .int .i64 q ∧ Hid (css.length = q) ∧ Hid (0 < q → E = 0) ∧ Rw wr gL k t css ∧ Cel wr g6 [.int .i64 k, .int .i64 (n : Int), .slice (some ⟨gL, 0, none⟩) 8 8] 26 ∧ Cel wr w.heap.size [.int .i64 0, .int .i64 0, .slice none 0 0] 26 ∧ Below w.heap.size w wr) (fun s _ => 8 - (intOf s).toNat)
 case atStart => exact ⟨0, [], Nat.zero_le _, rfl, rfl, fun h => absurd h (by decide), R0, c6, c4, bA⟩
 case round =>
  obtain ⟨q, css, hq, rfl, hl, h0, hR, h6, h4, hb⟩ := hrel
  clear R0 c6 c4 bA
  by_cases hi : q < 8
  ·have hi2 : (q : Int) < 8 := by omega
   have hLR := LR.out q
   rw [← hnn.out] at hLR
   have RO1 := Hid.mkt (fun w0 hb => RO.out w0 q hi hb)
   have BK1 := Hid.mkt (fun w0 bo dap h1 h2 h3 => BK.out w0 q bo dap hi h1 h2 h3)
   clear RO BK LR
   generalize (rw_ t q).length = m at *
   clear hLR
   go_wp2_with fail
   refine (RO1.out _ hb).mono ?_
   rintro e w2 ⟨bo, dap, rfl, x1, x2, hb2⟩
   replace hR := hR.keep hb2
   replace h6 := h6.kept hb2
   replace h4 := h4.kept hb2
   replace hb := hb.trans (hb2.mono hb.size)
   clear hb2 RO1
   go_wp2_with fail
   refine (BK1.out _ bo dap x1 x2 (HG.out _ hb)).mono ?_
   rintro e w3 ⟨cs, rfl, hki, hb3, nf⟩
   have lL := hR.cel.lt
   replace hR := hR.keep hb3
   replace h6 := h6.kept hb3
   replace h4 := h4.kept hb3
   replace hb := hb.trans (hb3.mono hb.size)
   replace nf : NFV (gL + 1) cs := ⟨nf.1.mono lL, nf.2.mono lL⟩
   clear hb3 BK1 x1 x2
   have HL := Hid.mkt hki.arg.len
   have H1 := Hid.mkt hki.arg.one
   have H22 := Hid.mkt (len_zv.trans hki.arg.nine)
   have lx : w.heap.size < w3.heap.size := h4.lt
   have l6' : g6 < w3.heap.size := h6.lt
   have lL' : gL < w3.heap.size := hR.cel.lt
   go_wp2_with (refine alloc_z zv info_zv ?_)
   intro w4 c4 b4 s4
   go_wp2_with (refine store_cel w3.heap.size zv cs rfl rfl c4 H22.out HL.out H1.out ?_)
   intro w5 c5 o5
   have b5 : Below w3.heap.size w3 w5 := b4.trans (o5.below (Nat.le_refl _))
   replace hR := hR.keep b5
   replace h6 := h6.kept b5
   replace h4 := h4.kept b5
   replace hki := hki.keep b5
   replace hb := hb.trans (b5.mono hb.size)
   clear c4 b4 s4 o5 b5
   generalize w3.heap.size = g8 at *
   by_cases z : E = 0
   ·subst z
    have ez : z22 (8 - css.length) = zv ++ z22 (7 - q) := by rw [hl.out, show 8 - q = 7 - q + 1 by omega]; rfl
    have ep : css.flatten.length = q * 22 := by rw [len_flat css hR.l22, hl.out]
    have cL := hR.cel
    rw [ez] at cL
    have HR := Hid.mkt hR
    have HK := Hid.mkt hki
    have HP := Hid.mkt ep
    have x2 := h6.cell 2 rfl
    clear hR hki ez ep
    go_wp2_with (first | refine load_obj g8 cs (by rfl) rfl c5 Tryz.underlying45 HL.out ?_ | refine store_part2 gL (q * 22) css.flatten zv (z22 (7 - q)) cs HP.out rfl rfl cL H22.out HL.out H1.out ?_)
    intro w6 c6 o6
    have hR6 : Rw w6 gL k t (css ++ [cs]) := HR.out.push (by rw [hl.out]; exact hi) (by rw [hl.out, ← hnn.out]; exact HK.out) nf (by rw [hl.out]; exact c6) o6 (HG.out _ (hb.trans (o6.below (by omega))))
    have HF := Hid.mkt (And.intro (show (css ++ [cs]).length = q + 1 by rw [List.length_append, hl.out]; rfl) (And.intro (show 0 < q + 1 → (0 : Int) = 0 from fun _ => rfl) (And.intro hR6 (And.intro (o6.cel h6 (by omega)) (And.intro (o6.cel h4 (by omega)) (hb.trans (o6.below (by omega))))))))
    clear c6 o6 hR6 x2 c5 cL HR HK HP h6 h4 hb nf
    go_wp2
    exact ⟨⟨q + 1, css ++ [cs], by omega, by go_num, HF.out.1, fun _ => trivial, HF.out.2.2⟩, by simp only [intOf]; omega⟩
   ·have zz : (E != 0) = true := by simp [z]
    have eB : tBx k t = ⟨0, 0, []⟩ := by unfold tBx; rw [if_neg (by rw [← hE.out]; exact z)]
    clear hR h6 hki c5
    go_wp2_with (refine store_cel w.heap.size [.int .i64 0, .int .i64 0, .slice none 0 0] [.int .i64 0, .int .i64 0, .slice none 0 0] rfl rfl h4 rfl (by kernel_rfl) (by simp [Value.oneCell']) ?_)
    intro w6 c6 o6
    have HC := Hid.mkt (And.intro c6 (hb.trans (o6.below (Nat.le_refl _))))
    clear c6 o6 h4 hb
    go_wp2
    (try simp only [Exit.inBlock, Exit.then])
    refine bodyPost_ret (result_cel rfl w.heap.size _ rfl HC.out.1 Tryz.underlying26 (by kernel_rfl)) rfl ⟨none, 0, ?_, ?_, HC.out.2⟩
    ·rw [eB]; rfl
    ·rw [eB]; exact ⟨⟨by decide, by decide⟩, ⟨by decide, by decide⟩, Nat.le_refl _, fun h => absurd h (by decide), HG.out _ HC.out.2⟩
  ·obtain rfl : q = 8 := by omega
   clear RO BK LR
   have x0 := h6.cell 0 rfl
   have x1 := h6.cell 1 rfl
   have x2 := h6.cell 2 rfl
   have HR := Hid.mkt hR
   have l6' := h6.lt
   go_wp2_with (refine store_cel w.heap.size [.int .i64 0, .int .i64 0, .slice none 0 0] [.int .i64 k, .int .i64 (n : Int), .slice (some ⟨gL, 0, none⟩) 8 8] rfl rfl h4 rfl (by kernel_rfl) (by simp [Value.oneCell']) ?_)
   intro w6 c6 o6
   have hR6 := HR.out.only l4 h4 (fun v hv n e => by subst e; simp at hv) o6 (HG.out _ (hb.trans (o6.below (Nat.le_refl _))))
   have HC := Hid.mkt (And.intro c6 (And.intro (hR6.lv hl.out) (hb.trans (o6.below (Nat.le_refl _)))))
   clear c6 o6 h4 hb hR6 x0 x1 x2 HR hR h6
   go_wp2
   (try simp only [Exit.inBlock, Exit.then])
   have z := h0.out (by decide)
   ·subst z
    have eB : tBx k t = tB k t := by unfold tBx; rw [if_pos hE.out.symm]
    refine bodyPost_ret (result_cel rfl w.heap.size _ rfl HC.out.1 Tryz.underlying26 (by kernel_rfl)) rfl ⟨some ⟨gL, 0, none⟩, 8, ?_, ?_, HC.out.2.2⟩
    ·rw [eB]
     unfold tB
     rw [← hnn.out]
     rfl
    ·rw [eB]
     exact ⟨hK, ⟨by show _ ≤ ((t.length : Nat) : Int); omega, by show ((t.length : Nat) : Int) ≤ _; rw [← hnn.out]; omega⟩, by simp [tB], HC.out.2.1, HG.out _ HC.out.2.2⟩
theorem build_t (k : Int) (ao : Option Addr) (t : List Nat) (cap : Nat) (w : World) (hK : I64 k) (hx : Bd w ao t) (hB : Tw.Byt t) (hn : t.length ≤ 3000) (G : GV w) :
  Calls Tryz.prog 9 #[.int .i64 k, .slice ao t.length cap] w fun e w' => ∃ lo lc, e = .returned (.tuple #[.agg #[.int .i64 (tBx k t).K, .int .i64 (tBx k t).N, .slice lo (tBx k t).av.length lc], .int .i64 (tbE k)]) ∧ TI w' lo lc (tBx k t) ∧ Below w.heap.size w w' := build_tg k ao t cap w hK hx hB hn (vb_k k hK) G
def tsE (x : TR) (c : Nat) (k : Int) : Int := if tOk x then (if (Tw.sel (txt x) c k).isSome then 0 else 3) else 2
def tsX (x : TR) (c : Nat) (k : Int) : Int := if tOk x then ((Tw.sel (txt x) c k).getD 0 : Int) else 0
theorem ts_bad {x : TR} (c : Nat) (k : Int) (ok : tOk x = false) : tsE x c k = 2 ∧ tsX x c k = 0 := by
 unfold tsE tsX
 rw [ok]
 exact ⟨rfl, rfl⟩
theorem ts_out {x : TR} (c : Nat) (k : Int) (ok : tOk x = true) (hk : ¬ (0 ≤ k ∧ k < (Tw.cn (txt x) c (txt x).length : Int))) : tsE x c k = 3 ∧ tsX x c k = 0 := by
 have e : Tw.sel (txt x) c k = none := by
  cases h : Tw.sel (txt x) c k with
  | none => rfl
  | some j => exact absurd ((Tw.sel_iff (txt x) c k).1 (by rw [h]; rfl)) hk
 unfold tsE tsX
 rw [ok, e]
 exact ⟨rfl, rfl⟩
theorem ts_in {x : TR} (c : Nat) (k i : Nat) (ok : tOk x = true) (hi : i < (txt x).length) (h1 : gt (txt x) i = c) (h2 : Tw.cn (txt x) c i = k) : tsE x c k = 0 ∧ tsX x c k = (i : Int) := by
 have e : Tw.sel (txt x) c k = some i := Tw.sel_some _ _ _ _ hi (by unfold Tw.hr; simp [h1, h2])
 unfold tsE tsX
 rw [ok, e]
 exact ⟨rfl, rfl⟩
theorem select_t {P : RA → Prop} (U : VC P) (V : VR P) (lo : Option Addr) (cap : Nat) (x : TR) (c : Nat) (k : Int) (w : World) (h : TI w lo cap x) (hc : c < 256) (hI : I64 k) (hp : ∀ l, l < x.av.length → P (lw x l)) :
  Calls Tryz.prog 21 #[.agg #[.int .i64 x.K, .int .i64 x.N, .slice lo x.av.length cap], .int .u8 c, .int .i64 k] w fun e w' => e = .returned (.tuple #[.int .i64 (tsX x c k), .int .i64 (tsE x c k)]) ∧ Below w.heap.size w w' := by
 have HPP := Hid.mkt hp
 clear hp
 have CK : Hid (∀ w0, Below w.heap.size w w0 → Calls Tryz.prog 23 #[.agg #[.int .i64 x.K, .int .i64 x.N, .slice lo x.av.length cap]] w0 fun e w' => e = .returned (.bool (tOk x)) ∧ Below w0.heap.size w0 w') := fun w0 hb => check_t U lo cap x w0 (h.keep hb) HPP.out
 have bx := Cel.new w [.int .i64 x.K, .int .i64 x.N, .slice lo x.av.length cap] 26
 have bw := below_alloc w (.cells #[.int .i64 x.K, .int .i64 x.N, .slice lo x.av.length cap] 26)
 cases ok : tOk x with
 | false =>
  rw [ok] at CK
  have r1 := ts_bad c k ok
  rw [r1.1, r1.2]
  clear h ok r1
  generalize x.N = N at *
  generalize x.K = K at *
  generalize x.av.length = m at *
  go_enter Tryz.func21, Tryz.ntmps21
  go_wp2_with fail
  refine (CK.out _ bw).mono ?_
  rintro e w1 ⟨rfl, hb⟩
  replace bw := bw.trans (hb.mono bw.size)
  clear hb bx
  go_wp2
  go_ret2
  exact ⟨rfl, bw⟩
 | true =>
  have ht := tt_of x ok
  rw [ok] at CK
  obtain ⟨t, hT⟩ : ∃ t, t = txt x := ⟨_, rfl⟩
  rw [← hT] at ht
  have HTI := Hid.mkt h
  have HT := Hid.mkt ht
  obtain ⟨b, off, rfl, hbl, _⟩ := h.l (by rw [ht.e]; decide)
  obtain ⟨n, hn⟩ : ∃ n, Hid (n = t.length) := ⟨_, rfl⟩
  have hn8 : n ≤ 8192 := by rw [hn.out]; exact ht.h
  have PO : Hid (∀ w0, Below w.heap.size w w0 → Calls Tryz.prog 36 #[.agg #[.int .i64 x.K, .int .i64 (n : Int), .slice (some ⟨b, off, none⟩) 8 cap], .int .u8 c] w0 fun e w' => e = .returned (.agg (iv (pn x t c 8)).toArray) ∧ Below w0.heap.size w0 w') := fun w0 hb => by
   have := pathOf_c V (some ⟨b, off, none⟩) cap x t c w0 (HTI.out.keep hb) HT.out hc (fun l hl => HPP.out l (by rw [HT.out.e]; exact hl))
   rw [HT.out.n, ← hn.out] at this
   exact this
  have R8 : Hid (∀ g8 (w' : World), Cel w' g8 (iv (pn x t c 8)) 81 → w'.rangeAt g8 24 [.int .i64 (pS t c 8 : Nat), .int .i64 (pE t c 8 : Nat), .int .i64 0]) := fun g8 w' h => by
   have := range_n3 h 8 (by rw [length_pn]; omega)
   rw [pn_s x t c 8 8 (by omega) (by omega), pn_e x t c 8 8 (by omega) (by omega), pn_z x t c 8 (by omega)] at this
   exact this
  have D8 : pE t c 8 = pS t c 8 + Tw.cn t c t.length := by unfold pE; rw [rk_low]
  have L8 := pE_le t c 8 (by omega) hc ht.b
  obtain ⟨M, hM⟩ : ∃ M, Hid (M = Tw.cn t c t.length) := ⟨_, rfl⟩
  rw [← hM.out] at D8
  rw [← hn.out] at L8
  obtain ⟨s8, hs8⟩ : ∃ s8, Hid (s8 = pS t c 8) := ⟨_, rfl⟩
  obtain ⟨e8, he8⟩ : ∃ e8, Hid (e8 = pE t c 8) := ⟨_, rfl⟩
  rw [← hs8.out, ← he8.out] at D8 R8
  rw [← he8.out] at L8
  have w8 : IntKind.i64.wrap ((e8 : Int) - (s8 : Int)) = (M : Int) := by rw [IntKind.wrap_i64]; omega
  clear D8
  have e8' := ht.e
  have eN : x.N = (n : Int) := by rw [hn.out]; exact ht.n
  by_cases hk : 0 ≤ k ∧ k < (M : Int)
  rotate_left
  ·obtain ⟨r1, r2⟩ := ts_out c k ok (by rw [← hT, ← hM.out]; exact hk)
   rw [r1, r2]
   rw [e8', eN] at bx bw CK ⊢
   clear h ht e8' eN r1 r2 ok hT
   generalize x.K = K at *
   by_cases k0 : k < 0
   ·clear hk
    have x1 := bx.cell 1 rfl
    go_enter Tryz.func21, Tryz.ntmps21
    go_wp2_with fail
    refine (CK.out _ bw).mono ?_
    rintro e w1 ⟨rfl, hb⟩
    replace bw := bw.trans (hb.mono bw.size)
    replace bx := bx.kept hb
    clear hb x1 CK
    have x0 := bx.cell 0 rfl
    have x1 := bx.cell 1 rfl
    have x2 := bx.cell 2 rfl
    go_wp2_with fail
    refine (PO.out _ bw).mono ?_
    rintro e w2 ⟨rfl, hb⟩
    replace bw := bw.trans (hb.mono bw.size)
    replace bx := bx.kept hb
    have hs2 := bx.lt
    clear hb x0 x1 x2 PO
    go_wp2_with (refine alloc_z _ info_path ?_)
    intro w3 c3 b3 s3
    have hz := bw.size
    replace bx := bx.kept b3
    replace bw := bw.trans (b3.mono hz)
    go_wp2_with (refine store_cel w2.heap.size _ _ rfl rfl c3 (by simp [length_iv, length_pn]) (size_path _ (length_pn _ _ _ _)) (one_iv _) ?_)
    intro w4 c4 o4
    have l8 : w.heap.size < w2.heap.size := by
     have := hs2
     omega
    replace bx := o4.cel bx (by omega)
    replace bw := bw.trans (o4.below hz)
    have l9 := c4.lt
    clear c3 b3 s3 o4 hs2
    generalize w2.heap.size = g8 at *
    have rg8 := R8.out g8 w4 c4
    simp only [Act.put, yq3, List.set]
    have nz := Cel.new w4 [.int .i64 (s8 : Int), .int .i64 (e8 : Int), .int .i64 0] 73
    have bz := below_alloc w4 (.cells [.int .i64 (s8 : Int), .int .i64 (e8 : Int), .int .i64 0].toArray 73)
    replace bx := bx.kept bz
    replace c4 := c4.kept bz
    replace bw := bw.trans (bz.mono bw.size)
    clear bz
    go_wp2_with (refine load_part g8 24 [.int .i64 (s8 : Int), .int .i64 (e8 : Int), .int .i64 0] (by rfl) rfl rg8 Tryz.underlying73 (by kernel_rfl) ?_)
    have z1 := nz.cell 1 rfl
    go_wp2
    go_ret2
    exact ⟨rfl, bw⟩
   ·have k1 : (M : Int) ≤ k := by omega
    have k2 : ¬ k < (M : Int) := by omega
    have k00 : (0 : Int) ≤ k := by omega
    clear hk
    have x1 := bx.cell 1 rfl
    go_enter Tryz.func21, Tryz.ntmps21
    go_wp2_with fail
    refine (CK.out _ bw).mono ?_
    rintro e w1 ⟨rfl, hb⟩
    replace bw := bw.trans (hb.mono bw.size)
    replace bx := bx.kept hb
    clear hb x1 CK
    have x0 := bx.cell 0 rfl
    have x1 := bx.cell 1 rfl
    have x2 := bx.cell 2 rfl
    go_wp2_with fail
    refine (PO.out _ bw).mono ?_
    rintro e w2 ⟨rfl, hb⟩
    replace bw := bw.trans (hb.mono bw.size)
    replace bx := bx.kept hb
    have hs2 := bx.lt
    clear hb x0 x1 x2 PO
    go_wp2_with (refine alloc_z _ info_path ?_)
    intro w3 c3 b3 s3
    have hz := bw.size
    replace bx := bx.kept b3
    replace bw := bw.trans (b3.mono hz)
    go_wp2_with (refine store_cel w2.heap.size _ _ rfl rfl c3 (by simp [length_iv, length_pn]) (size_path _ (length_pn _ _ _ _)) (one_iv _) ?_)
    intro w4 c4 o4
    have l8 : w.heap.size < w2.heap.size := by
     have := hs2
     omega
    replace bx := o4.cel bx (by omega)
    replace bw := bw.trans (o4.below hz)
    have l9 := c4.lt
    clear c3 b3 s3 o4 hs2
    generalize w2.heap.size = g8 at *
    have rg8 := R8.out g8 w4 c4
    simp only [Act.put, yq3, List.set]
    have nz := Cel.new w4 [.int .i64 (s8 : Int), .int .i64 (e8 : Int), .int .i64 0] 73
    have bz := below_alloc w4 (.cells [.int .i64 (s8 : Int), .int .i64 (e8 : Int), .int .i64 0].toArray 73)
    replace bx := bx.kept bz
    replace c4 := c4.kept bz
    replace bw := bw.trans (bz.mono bw.size)
    clear bz
    go_wp2_with (refine load_part g8 24 [.int .i64 (s8 : Int), .int .i64 (e8 : Int), .int .i64 0] (by rfl) rfl rg8 Tryz.underlying73 (by kernel_rfl) ?_)
    have z0 := nz.cell 0 rfl
    have z1 := nz.cell 1 rfl
    go_wp2
    go_ret2
    exact ⟨rfl, bw⟩
  ·obtain ⟨k, rfl⟩ := Int.eq_ofNat_of_zero_le hk.1
   have hkM : k < M := by omega
   obtain ⟨i, hi', g1, g2⟩ := Tw.sel_is t c k t.length (Nat.le_refl _) (by rw [← hM.out]; exact hkM)
   obtain ⟨r1, r2⟩ := ts_in c k i ok (by rw [← hT]; exact hi') (by rw [← hT]; exact g1) (by rw [← hT]; exact g2)
   rw [r1, r2]
   rw [e8', eN] at bx bw CK ⊢
   have hkM2 : (k : Int) < (M : Int) := hk.2
   have BO : Hid (∀ w0 (q : Nat), q < 8 → Calls Tryz.prog 37 #[.int .u8 c, .int .i64 q] w0 fun e w' => e = .returned (.bool (Tw.tb q c)) ∧ w' = w0) := fun w0 q hq => bitOf_c c q hc hq w0
   have CO : Hid (∀ l, l < 8 → ∃ cs : List Value, w.rangeAt b (off + l * 22) cs ∧ (Tryz.prog.info? 45).map (·.size) = some cs.length ∧ ∀ w0, Below w.heap.size w w0 → Calls Tryz.prog 46 #[.agg cs.toArray, .bool (Tw.tb l c), .int .i64 ((pA x t c l + Tw.rk t (l + 1) (Tw.hi (l + 1) c) i : Nat) : Int)] w0 fun r w' => r = .returned (.tuple #[.int .i64 ((pS t c l + Tw.rk t l (Tw.hi l c) i : Nat) : Int), .int .i64 0]) ∧ Below w0.heap.size w0 w') := fun l hl => by
    obtain ⟨cs, h1, h2, h3⟩ := row_at HTI.out HT.out l hl
    refine ⟨cs, h1, h3, fun w0 hb => ?_⟩
    obtain ⟨_, r2, r3, _⟩ := HT.out.r l hl
    have b1 := cB_le (kBX (lw x l)) (Tw.tb l c) (pS t c l + Tw.rk t l (Tw.hi l c) i)
    have b2 := HT.out.h
    have b3 := HT.out.down c l i hl hc (by omega)
    have b4 := pS_rk t c l i (by omega) hc HT.out.b (by omega)
    have := V.select cs (lw x l) (Tw.tb l c) ((pA x t c l + Tw.rk t (l + 1) (Tw.hi (l + 1) c) i : Nat) : Int) w0 (h2.keep hb) (HPP.out l (by rw [HT.out.e]; exact hl)) ⟨by omega, by omega⟩
    have e1 := HT.out.up l i hl hi'
    rw [g1] at e1
    unfold gsX gsE at this
    rw [r2, r3, e1] at this
    exact this
   have HB : Hid (∀ l, l ≤ 8 → pS t c l + Tw.rk t l (Tw.hi l c) i ≤ 8192) := fun l hl => by
    have := pS_rk t c l i hl hc HT.out.b (by omega)
    have := HT.out.h
    omega
   have HA : Hid (∀ l, l < 8 → pA x t c l ≤ 8192) := fun l hl => by
    have := cB_le (kBX (lw x l)) (Tw.tb l c) (pS t c l)
    have := HB.out l (by omega)
    unfold pA
    omega
   have T0 := Hid.mkt (rk_top t c i hc ht.b)
   have T8 : Hid (Tw.rk t 8 (Tw.hi 8 c) i = k) := (rk_low t c i).trans g2
   clear h ht e8' eN r1 r2 ok hT hk g1 g2
   have dM : decide (M ≤ k) = false := decide_eq_false (by omega)
   have dk : decide ((k : Int) < 0) = false := decide_eq_false (by omega)
   generalize x.K = K at *
   have x1 := bx.cell 1 rfl
   go_enter Tryz.func21, Tryz.ntmps21
   go_wp2_with fail
   refine (CK.out _ bw).mono ?_
   rintro e w1 ⟨rfl, hb⟩
   replace bw := bw.trans (hb.mono bw.size)
   replace bx := bx.kept hb
   clear hb x1 CK
   have x0 := bx.cell 0 rfl
   have x1 := bx.cell 1 rfl
   have x2 := bx.cell 2 rfl
   go_wp2_with fail
   refine (PO.out _ bw).mono ?_
   rintro e w2 ⟨rfl, hb⟩
   replace bw := bw.trans (hb.mono bw.size)
   replace bx := bx.kept hb
   have hs2 := bx.lt
   clear hb x0 x1 x2 PO
   go_wp2_with (refine alloc_z _ info_path ?_)
   intro w3 c3 b3 s3
   have hz := bw.size
   replace bx := bx.kept b3
   replace bw := bw.trans (b3.mono hz)
   go_wp2_with (refine store_cel w2.heap.size _ _ rfl rfl c3 (by simp [length_iv, length_pn]) (size_path _ (length_pn _ _ _ _)) (one_iv _) ?_)
   intro w4 c4 o4
   have l8 : w.heap.size < w2.heap.size := by
    have := hs2
    omega
   replace bx := o4.cel bx (by omega)
   replace bw := bw.trans (o4.below hz)
   have l9 := c4.lt
   clear c3 b3 s3 o4 hs2
   generalize w2.heap.size = g8 at *
   have rg8 := R8.out g8 w4 c4
   simp only [Act.put, yq3, List.set]
   have nz := Cel.new w4 [.int .i64 (s8 : Int), .int .i64 (e8 : Int), .int .i64 0] 73
   have bz := below_alloc w4 (.cells [.int .i64 (s8 : Int), .int .i64 (e8 : Int), .int .i64 0].toArray 73)
   replace bx := bx.kept bz
   replace c4 := c4.kept bz
   replace bw := bw.trans (bz.mono bw.size)
   clear bz
   go_wp2_with (refine load_part g8 24 [.int .i64 (s8 : Int), .int .i64 (e8 : Int), .int .i64 0] (by rfl) rfl rg8 Tryz.underlying73 (by kernel_rfl) ?_)
   have z0 := nz.cell 0 rfl
   have z1 := nz.cell 1 rfl
   go_wp2
   clear z0 z1 rg8
   go_loopw [33, 2] (fun s v wr => ∃ q : Nat, q ≤ 8 ∧ s = .int .i64 q ∧ v = .int .i64 (Tw.rk t (8 - q) (Tw.hi (8 - q) c) i : Nat) ∧ Cel wr w.heap.size [.int .i64 K, .int .i64 (n : Int), .slice (some ⟨b, off, none⟩) 8 cap] 26 ∧ Cel wr g8 (iv (pn x t c 8)) 81 ∧ Below w.heap.size w wr) (fun s _ _ => 8 - (intOf s).toNat)
   case atStart => exact ⟨0, Nat.zero_le _, rfl, by rw [Nat.sub_zero, T8.out], bx, c4, bw⟩
   case round =>
    obtain ⟨q, hq, rfl, rfl, hx, h8, hb⟩ := hrel
    clear bx c4 bw nz
    by_cases hi : q < 8
    ·have hi2 : (q : Int) < 8 := by omega
     obtain ⟨l, hl⟩ : ∃ l, l + q = 7 := ⟨7 - q, by omega⟩
     have hl8 : l < 8 := by omega
     rw [show 8 - q = l + 1 by omega]
     have e9 : Hid (8 - (q + 1) = l) := by show 8 - (q + 1) = l; omega
     have ml : IntKind.i64.wrap (7 - (q : Int)) = (l : Int) := by rw [IntKind.wrap_i64]; omega
     have hl2 : (l : Int) < 8 := by omega
     have hl9 : (l : Int) < 9 := by omega
     obtain ⟨cs, rg, HL, C⟩ := CO.out l hl8
     have HL := Hid.mkt HL
     have C := Hid.mkt C
     have RG := Hid.mkt rg
     have B : Hid (∀ w0, Calls Tryz.prog 37 #[.int .u8 c, .int .i64 l] w0 fun e w' => e = .returned (.bool (Tw.tb l c)) ∧ w' = w0) := fun w0 => BO.out w0 l hl8
     have R1 : Hid (∀ w' : World, Cel w' g8 (iv (pn x t c 8)) 81 → w'.cell? ⟨g8, l * 3, none⟩ = some (.int .i64 (pS t c l : Nat))) := fun w' h => by
      rw [cel_iv h (l * 3) (by rw [length_pn]; omega), pn_s x t c 8 l (by omega) (by omega)]
     have R2 : Hid (∀ w' : World, Cel w' g8 (iv (pn x t c 8)) 81 → w'.cell? ⟨g8, l * 3 + 2, none⟩ = some (.int .i64 (pA x t c l : Nat))) := fun w' h => by
      rw [cel_iv h (l * 3 + 2) (by rw [length_pn]; omega), pn_a x t c 8 l (by omega) hl8]
     have u2 := HB.out l (by omega)
     have u3 := HA.out l hl8
     have u4 := HB.out (l + 1) (by omega)
     obtain ⟨R', hR'⟩ : ∃ R', Hid (R' = Tw.rk t l (Tw.hi l c) i) := ⟨_, rfl⟩
     rw [← hR'.out] at C u2
     have u5 : Tw.rk t (l + 1) (Tw.hi (l + 1) c) i ≤ 8192 := by omega
     clear u4
     generalize pS t c l = s0 at *
     generalize pA x t c l = a0 at *
     generalize Tw.rk t (l + 1) (Tw.hi (l + 1) c) i = R at *
     generalize Tw.tb l c = bit at *
     clear BO CO HB HA rg hl
     have m1 : IntKind.i64.wrap ((a0 : Int) + (R : Int)) = ((a0 + R : Nat) : Int) := by rw [IntKind.wrap_i64]; omega
     have m2 : IntKind.i64.wrap (((s0 + R' : Nat) : Int) - (s0 : Int)) = (R' : Int) := by rw [IntKind.wrap_i64]; omega
     have m3 : IntKind.i64.wrap ((s0 : Int) + (R' : Int) - (s0 : Int)) = (R' : Int) := by rw [IntKind.wrap_i64]; omega
     go_wp2
     refine region_g [] (fun w' => Cel w' w.heap.size [.int .i64 K, .int .i64 (n : Int), .slice (some ⟨b, off, none⟩) 8 cap] 26 ∧ Cel w' g8 (iv (pn x t c 8)) 81 ∧ Below w.heap.size w w') (by kernel_rfl) ?_
     have hS : (fun w' => Cel w' w.heap.size [.int .i64 K, .int .i64 (n : Int), .slice (some ⟨b, off, none⟩) 8 cap] 26 ∧ Cel w' g8 (iv (pn x t c 8)) 81 ∧ Below w.heap.size w w') wr.drew := ⟨hx, h8, hb.drew⟩
     clear hx h8 hb
     generalize wr.drew = V at *
     refine AnyG.tk 0 hS ?_
     refine AnyG.tf 1 hS rfl (fun w0 h0 => by have c1 := h0.1.cell 2 rfl; go_simp; try with_reducible rfl) ?_
     refine AnyG.tk 2 hS ?_
     refine AnyG.tk 3 hS ?_
     refine AnyG.take 4 (v := .agg (cs).toArray) rfl (by kernel_rfl) (by kernel_rfl) (by kernel_rfl) (by kernel_rfl) (fun _ _ _ h => h) hS (fun w0 h0 => run_load_part b (off + l * 22) _ rfl (range_keep RG.out h0.2.2 hbl) Tryz.underlying45 HL.out) (by rfl) ?rest5
     simp only [Act.put, yq0, yq1, yq2, yq3, yq4, yq5]
     refine AnyG.tk 5 hS ?_
     refine AnyG.tk 6 hS ?_
     refine AnyG.tk 8 hS ?_
     refine AnyG.tk 9 hS ?_
     refine AnyG.tk 10 hS ?_
     refine AnyG.tf 11 hS rfl (fun w0 h0 => by have c1 := R2.out w0 h0.2.1; go_simp; try with_reducible rfl) ?_
     refine AnyG.tk 12 hS ?_
     refine AnyG.tk 13 hS ?_
     refine AnyG.o1 7 ?_
     intro K hK
     go_simp
     refine (B.out _).mono ?_
     rintro e w5 ⟨rfl, h3⟩
     rw [h3]
     clear h3 w5
     refine hK.out _ _ (fun _ => hS) ?_
     clear hK K
     try simp only [Act.put, yq0, yq1, yq2, yq3, yq4, yq5]
     refine AnyG.o1 14 ?_
     intro K hK
     go_simp
     refine (C.out _ hS.2.2).mono ?_
     rintro e w6 ⟨rfl, hb4⟩
     have hS2 := And.intro (hS.1.kept hb4) (And.intro (hS.2.1.kept hb4) (hS.2.2.trans (hb4.mono hS.2.2.size)))
     clear hb4 hS
     refine hK.out _ _ (fun _ => hS2) ?_
     clear hK K
     try simp only [Act.put, yq0, yq1, yq2, yq3, yq4, yq5]
     refine AnyG.tk 15 hS2 ?_
     refine AnyG.tk 16 hS2 ?_
     refine AnyG.tk 17 hS2 ?_
     refine AnyG.tk 18 hS2 ?_
     refine AnyG.tk 19 hS2 ?_
     refine AnyG.done (by kernel_rfl) ?_ _
     have HF := Hid.mkt hS2
     have c1 := R1.out w6 hS2.2.1
     clear hS2
     go_wp2
     exact ⟨⟨q + 1, by omega, by go_num, by rw [e9.out, hR'.out], HF.out⟩, by simp only [intOf]; omega⟩
    ·obtain rfl : q = 8 := by omega
     clear BO CO HB HA
     rw [Nat.sub_self, T0.out]
     go_wp2
     go_ret2
     exact ⟨rfl, hb⟩
def sz (x : TR) : Nat → Int
 | 0 => 0
 | q + 1 => wrap64 (sz x q + kZ (lw x q))
def tZ (x : TR) : Int := if tOk x then sz x 8 else 0
theorem size_t {P : RA → Prop} (U : VC P) (lo : Option Addr) (cap : Nat) (x : TR) (w : World) (h : TI w lo cap x) (hp : ∀ l, l < x.av.length → P (lw x l)) :
  Calls Tryz.prog 16 #[.agg #[.int .i64 x.K, .int .i64 x.N, .slice lo x.av.length cap]] w fun e w' => e = .returned (.int .i64 (tZ x)) ∧ Below w.heap.size w w' := by
 have HPP := Hid.mkt hp
 clear hp
 have CK : Hid (∀ w0, Below w.heap.size w w0 → Calls Tryz.prog 23 #[.agg #[.int .i64 x.K, .int .i64 x.N, .slice lo x.av.length cap]] w0 fun e w' => e = .returned (.bool (tOk x)) ∧ Below w0.heap.size w0 w') := fun w0 hb => check_t U lo cap x w0 (h.keep hb) HPP.out
 have bx := Cel.new w [.int .i64 x.K, .int .i64 x.N, .slice lo x.av.length cap] 26
 have bw := below_alloc w (.cells #[.int .i64 x.K, .int .i64 x.N, .slice lo x.av.length cap] 26)
 cases ok : tOk x with
 | false =>
  rw [ok] at CK
  have r1 : tZ x = 0 := by unfold tZ; rw [ok]; rfl
  rw [r1]
  clear h ok r1
  generalize x.N = N at *
  generalize x.K = K at *
  generalize x.av.length = m at *
  go_enter Tryz.func16, Tryz.ntmps16
  go_wp2_with fail
  refine (CK.out _ bw).mono ?_
  rintro e w1 ⟨rfl, hb⟩
  replace bw := bw.trans (hb.mono bw.size)
  clear hb bx
  go_wp2
  go_ret
  exact ⟨rfl, bw⟩
 | true =>
  have ht := tt_of x ok
  rw [ok] at CK
  have r1 : tZ x = sz x 8 := by unfold tZ; rw [ok]; rfl
  obtain ⟨Z, hZ⟩ : ∃ Z, Hid (Z = sz x 8) := ⟨_, rfl⟩
  rw [r1, ← hZ.out]
  obtain ⟨b, off, rfl, hbl, _⟩ := h.l (by rw [ht.e]; decide)
  have HTI := Hid.mkt h
  have HT := Hid.mkt ht
  have CO : Hid (∀ q, q < 8 → ∃ cs : List Value, w.rangeAt b (off + q * 22) cs ∧ (Tryz.prog.info? 45).map (·.size) = some cs.length ∧ ∀ w0, Below w.heap.size w w0 → Calls Tryz.prog 42 #[.agg cs.toArray] w0 fun r w' => r = .returned (.int .i64 (kZ (lw x q))) ∧ Below w0.heap.size w0 w') := fun q hq => by
   obtain ⟨cs, h1, h2, h3⟩ := row_at HTI.out HT.out q hq
   exact ⟨cs, h1, h3, fun w0 hb => U.size cs (lw x q) w0 (h2.keep hb) (HPP.out q (by rw [HT.out.e]; exact hq))⟩
  rw [ht.e] at bx bw CK ⊢
  clear h ht r1 ok
  generalize x.K = K at *
  generalize x.N = N at *
  go_enter Tryz.func16, Tryz.ntmps16
  go_wp2_with fail
  refine (CK.out _ bw).mono ?_
  rintro e w1 ⟨rfl, hb⟩
  replace bw := bw.trans (hb.mono bw.size)
  replace bx := bx.kept hb
  clear hb CK
  go_wp2
  go_loopw [8, 3] (fun s v wr => ∃ q : Nat, q ≤ 8 ∧ s = .int .i64 q ∧ v = .int .i64 (sz x q) ∧ Cel wr w.heap.size [.int .i64 K, .int .i64 N, .slice (some ⟨b, off, none⟩) 8 cap] 26 ∧ Below w.heap.size w wr) (fun s _ _ => 8 - (intOf s).toNat)
  case atStart => exact ⟨0, Nat.zero_le _, rfl, rfl, bx, bw⟩
  case round =>
   obtain ⟨q, hq, rfl, rfl, hx, hb⟩ := hrel
   clear bx bw
   by_cases hi : q < 8
   ·have hi2 : (q : Int) < 8 := by omega
    obtain ⟨cs, rg, HL, C⟩ := CO.out q hi
    have HL := Hid.mkt HL
    have C := Hid.mkt C
    have rg2 := range_keep rg hb hbl
    have E : Hid (wrap64 (sz x q + kZ (lw x q)) = sz x (q + 1)) := rfl
    generalize kZ (lw x q) = Y at *
    generalize sz x q = X at *
    have x2 := hx.cell 2 rfl
    go_wp2_with (refine load_part b (off + q * 22) cs (by rfl) rfl rg2 Tryz.underlying45 HL.out ?_)
    refine (C.out _ hb).mono ?_
    rintro e w2 ⟨rfl, hb2⟩
    replace hx := hx.kept hb2
    replace hb := hb.trans (hb2.mono hb.size)
    have HF := Hid.mkt (And.intro hx hb)
    clear hx hb hb2 rg rg2 x2 CO
    go_wp2
    refine ⟨⟨q + 1, by omega, by go_num, ?_, HF.out⟩, by simp only [intOf]; omega⟩
    rw [← E.out]
   ·obtain rfl : q = 8 := by omega
    clear CO
    rw [← hZ.out]
    go_wp2
    go_ret
    exact ⟨rfl, hb⟩
def plK (a : RA) : Prop := kOn a = 1
theorem lw_tB (k : Int) (t : List Nat) (l : Nat) (hl : l < 8) : lw (tB k t) l = kB k (t.length : Int) (rw_ t l) := by
 unfold lw tB
 rw [List.getD_eq_getElem?_getD, List.getElem?_map, List.getElem?_range hl]
 rfl
theorem kB_K (k N : Int) (xs : List Nat) (h : kE k N xs = 0) : (kB k N xs).K = k := by
 unfold kB
 rw [if_pos h]
theorem tt_tB (k : Int) (t : List Nat) (h1 : 1 ≤ k) (h3 : k ≤ 3) (hB : Tw.Byt t) (hn : t.length ≤ 3000) : TT (tB k t) t := by
 refine ⟨rfl, by simp [tB], hB, by omega, fun l hl => ?_⟩
 have hk := chk_rw t l (by omega)
 obtain ⟨e1, e2, e3⟩ := kB_ok k (t.length : Int) (rw_ t l) h1 h3 (fit_rowOf _ _) hk (by omega)
 rw [lw_tB k t l hl]
 refine ⟨kB_K k _ _ (kE_ok k _ _ h1 h3 hk), e1, e2, fun i hi => ?_⟩
 rw [e3]
 unfold rw_
 rw [bitAt_rowOf, decide_eq_true hi, Bool.true_and]
theorem tBx_ok (k : Int) (t : List Nat) (h1 : 1 ≤ k) (h3 : k ≤ 3) : tBx k t = tB k t ∧ tbE k = 0 := by
 have e : tbE k = 0 := by unfold tbE; rw [if_pos ⟨h1, h3⟩]
 refine ⟨?_, e⟩
 unfold tBx
 rw [if_pos e]
theorem TT.ta {x : TR} {t : List Nat} (h : TT x t) (i : Nat) (hi : i < t.length) : taE x i = 0 ∧ taC x i = gt t i := by
 have := ta_in i h.ok (by rw [h.n]; omega)
 rwa [h.txt] at this
theorem TT.tr {x : TR} {t : List Nat} (h : TT x t) (c i : Nat) (hi : i ≤ t.length) : trE x i = 0 ∧ trN x c i = (Tw.cn t c i : Int) := by
 have := tr_in c i h.ok (by rw [h.n]; omega)
 rwa [h.txt] at this
def nums (t : List Nat) : List Int := t.map fun (y : Nat) => (y : Int)
theorem conv {w : World} {ao : Option Addr} {t : List Nat} (cap : Nat) (h : Bd w ao t) : (convert 22 9 (.slice ao t.length cap)).run Tryz.prog w = .ok (.string (strOfNums (nums t))) w := by
 by_cases h0 : 0 < t.length
 ·obtain ⟨b, off, rfl, _, hc⟩ := h h0
  refine run_convert_bytes_arg w 22 5 Tryz.underlying22 Tryz.underlying5 b off t.length cap (nums t) (by simp [nums]) (fun i hi => ?_) 9 Tryz.underlying9
  rw [hc i hi]
  have : (nums t).getD i 0 = ((gt t i : Nat) : Int) := by
   unfold nums gt
   rw [List.getD_eq_getElem?_getD, List.getD_eq_getElem?_getD, List.getElem?_map, List.getElem?_eq_getElem hi]
   rfl
  rw [this]
 ·obtain rfl : t = [] := List.eq_nil_of_length_eq_zero (by omega)
  cases ao with
  | none => exact run_convert_bytes_nil w 22 5 Tryz.underlying22 Tryz.underlying5 0 cap 9 Tryz.underlying9
  | some a => exact run_convert_bytes_back w 22 9 5 a cap [] Tryz.underlying22 Tryz.underlying5 Tryz.underlying9 (fun j hj => absurd hj (by simp))
def ab : List Nat := [97, 98, 114, 97, 99, 97, 100, 97, 98, 114, 97]
theorem byt_ab : Tw.Byt ab := fun i => by
 by_cases h : i < 11
 ·have : ∀ j : Fin 11, gt ab j.val < 256 := by decide
  exact this ⟨i, h⟩
 ·rw [gt_out _ _ (by show 11 ≤ i; omega)]; decide
theorem ab_facts : gt ab 4 = 99 ∧ Tw.cn ab 97 8 = 4 ∧ gt ab 9 = 114 ∧ Tw.cn ab 114 9 = 1 ∧ Tw.cn ab 122 11 = 0 := by decide +kernel
theorem ab_size : 0 < sz (tB 1 ab) 8 := by decide +kernel
theorem ab_str : strOfNums (nums ab) = ⟨#[97, 98, 114, 97, 99, 97, 100, 97, 98, 114, 97]⟩ := by rfl
theorem ab_bd (w : World) : Bd (w.alloc (.cells #[.int .u8 97, .int .u8 98, .int .u8 114, .int .u8 97, .int .u8 99, .int .u8 97, .int .u8 100, .int .u8 97, .int .u8 98, .int .u8 114, .int .u8 97] 5 (11, 12))) (some ⟨w.heap.size, 0, none⟩) ab := by
 intro _
 refine ⟨w.heap.size, 0, rfl, by simp, fun i hi => ?_⟩
 have hi : i < 11 := hi
 match i, hi with
 | 0, _ => rw [World.cell?_alloc_mark]; simp [ab, gt]
 | 1, _ => rw [World.cell?_alloc_mark]; simp [ab, gt]
 | 2, _ => rw [World.cell?_alloc_mark]; simp [ab, gt]
 | 3, _ => rw [World.cell?_alloc_mark]; simp [ab, gt]
 | 4, _ => rw [World.cell?_alloc_mark]; simp [ab, gt]
 | 5, _ => rw [World.cell?_alloc_mark]; simp [ab, gt]
 | 6, _ => rw [World.cell?_alloc_mark]; simp [ab, gt]
 | 7, _ => rw [World.cell?_alloc_mark]; simp [ab, gt]
 | 8, _ => rw [World.cell?_alloc_mark]; simp [ab, gt]
 | 9, _ => rw [World.cell?_alloc_mark]; simp [ab, gt]
 | 10, _ => rw [World.cell?_alloc_mark]; simp [ab, gt]
theorem ti_none (w : World) (G : GV w) : TI w none 0 ⟨0, 0, []⟩ := ⟨⟨by decide, by decide⟩, ⟨by decide, by decide⟩, Nat.le_refl _, fun h => absurd h (by decide), G⟩
theorem heads_g {P : RA → Prop} (PA : ∀ a, plK a → P a) (U : VC P) (V : VR P) (w : World) (G : GV w) : Calls Tryz.prog 8 #[] w fun e w' => e = .returned (.bool true) ∧ Below w.heap.size w w' := by
 have kc := fun (w : World) (C : Array Value) (n c : Nat) => Lib.run_convert_bytes_const (P := Tryz.prog) w 22 5 C n c Tryz.underlying22 Tryz.underlying5
 have htt := tt_tB 1 ab (by decide) (by decide) byt_ab (by decide)
 obtain ⟨f1, f2, f3, f4, f5⟩ := ab_facts
 obtain ⟨A, hA⟩ : ∃ A, A = tB 1 ab := ⟨_, rfl⟩
 have hp : ∀ l, l < A.av.length → P (lw A l) := fun l hl => PA _ (by
  rw [hA] at hl ⊢
  have hl : l < 8 := by simpa [tB] using hl
  rw [lw_tB 1 ab l hl]
  have e0 := kE_ok 1 (ab.length : Int) (rw_ ab l) (by decide) (by decide) (chk_rw ab l (by decide))
  rw [kB_p _ _ e0]
  exact on_mp _)
 rw [← hA] at htt
 obtain ⟨K, hK⟩ : ∃ K, K = A.K := ⟨_, rfl⟩
 obtain ⟨N, hN⟩ : ∃ N, N = A.N := ⟨_, rfl⟩
 obtain ⟨m, hm⟩ : ∃ m, m = A.av.length := ⟨_, rfl⟩
 have H1 : Hid (∀ w0, w0 = w.alloc (.cells #[.int .u8 97, .int .u8 98, .int .u8 114, .int .u8 97, .int .u8 99, .int .u8 97, .int .u8 100, .int .u8 97, .int .u8 98, .int .u8 114, .int .u8 97] 5 (11, 12)) → Calls Tryz.prog 9 #[.int .i64 1, .slice (some ⟨w.heap.size, 0, none⟩) 11 11] w0 fun e w' => ∃ lo lc, e = .returned (.tuple #[.agg #[.int .i64 K, .int .i64 N, .slice lo m lc], .int .i64 0]) ∧ TI w' lo lc A ∧ Below w0.heap.size w0 w') := fun w0 h => by
  subst h
  have := build_tg 1 (some ⟨w.heap.size, 0, none⟩) ab 11 _ ⟨by decide, by decide⟩ (ab_bd w) byt_ab (by decide) (vb_k 1 ⟨by decide, by decide⟩) (G.kept (below_alloc w _))
  rw [(tBx_ok 1 ab (by decide) (by decide)).1, (tBx_ok 1 ab (by decide) (by decide)).2, ← hA, ← hK, ← hN, ← hm] at this
  exact this
 have H2 : Hid (∀ w0 lo lc, TI w0 lo lc A → Calls Tryz.prog 12 #[.agg #[.int .i64 K, .int .i64 N, .slice lo m lc], .int .i64 4] w0 fun e w' => e = .returned (.tuple #[.int .u8 99, .int .i64 0]) ∧ Below w0.heap.size w0 w') := fun w0 lo lc h => by
  have := access_t U V lo lc A 4 w0 h ⟨by decide, by decide⟩ hp
  have q := htt.ta 4 (by decide)
  rw [show ((4 : Nat) : Int) = 4 from rfl] at q
  rw [q.1, q.2, f1] at this
  rw [← hK, ← hN, ← hm] at this
  exact this
 have H3 : Hid (∀ w0 lo lc, TI w0 lo lc A → Calls Tryz.prog 13 #[.agg #[.int .i64 K, .int .i64 N, .slice lo m lc], .int .u8 97, .int .i64 8] w0 fun e w' => e = .returned (.tuple #[.int .i64 4, .int .i64 0]) ∧ Below w0.heap.size w0 w') := fun w0 lo lc h => by
  have := rank_t U V lo lc A 97 8 w0 h (by decide) ⟨by decide, by decide⟩ hp
  have q := htt.tr 97 8 (by decide)
  rw [show ((8 : Nat) : Int) = 8 from rfl] at q
  rw [q.1, q.2, f2] at this
  rw [← hK, ← hN, ← hm] at this
  exact this
 have H4 : Hid (∀ w0 lo lc, TI w0 lo lc A → Calls Tryz.prog 21 #[.agg #[.int .i64 K, .int .i64 N, .slice lo m lc], .int .u8 114, .int .i64 1] w0 fun e w' => e = .returned (.tuple #[.int .i64 9, .int .i64 0]) ∧ Below w0.heap.size w0 w') := fun w0 lo lc h => by
  have := select_t U V lo lc A 114 1 w0 h (by decide) ⟨by decide, by decide⟩ hp
  have q := ts_in 114 1 9 htt.ok (by rw [htt.txt]; decide) (by rw [htt.txt]; exact f3) (by rw [htt.txt]; exact f4)
  rw [show ((1 : Nat) : Int) = 1 from rfl] at q
  rw [q.1, q.2] at this
  rw [← hK, ← hN, ← hm] at this
  exact this
 have H5 : Hid (∀ w0 lo lc, TI w0 lo lc A → Calls Tryz.prog 21 #[.agg #[.int .i64 K, .int .i64 N, .slice lo m lc], .int .u8 122, .int .i64 0] w0 fun e w' => e = .returned (.tuple #[.int .i64 0, .int .i64 3]) ∧ Below w0.heap.size w0 w') := fun w0 lo lc h => by
  have := select_t U V lo lc A 122 0 w0 h (by decide) ⟨by decide, by decide⟩ hp
  have q := ts_out 122 0 htt.ok (by rw [htt.txt]; rw [show ab.length = 11 from rfl, f5]; omega)
  rw [q.1, q.2] at this
  rw [← hK, ← hN, ← hm] at this
  exact this
 have H6 : Hid (∀ w0 lo lc, TI w0 lo lc A → Calls Tryz.prog 12 #[.agg #[.int .i64 K, .int .i64 N, .slice lo m lc], .int .i64 11] w0 fun e w' => e = .returned (.tuple #[.int .u8 0, .int .i64 3]) ∧ Below w0.heap.size w0 w') := fun w0 lo lc h => by
  have := access_t U V lo lc A 11 w0 h ⟨by decide, by decide⟩ hp
  have q := ta_out 11 htt.ok (.inr (by rw [htt.n]; decide))
  rw [q.1, q.2] at this
  rw [← hK, ← hN, ← hm] at this
  exact this
 have H7 : Hid (∀ w0 : World, GV w0 → Calls Tryz.prog 13 #[.agg #[.int .i64 0, .int .i64 0, .slice none 0 0], .int .u8 0, .int .i64 0] w0 fun e w' => e = .returned (.tuple #[.int .i64 0, .int .i64 2]) ∧ Below w0.heap.size w0 w') := fun w0 g0 => by
  have := rank_t U V none 0 ⟨0, 0, []⟩ 0 0 w0 (ti_none w0 g0) (by decide) ⟨by decide, by decide⟩ (fun l hl => absurd hl (Nat.not_lt_zero _))
  rw [(tr_bad 0 0 (by decide)).1, (tr_bad 0 0 (by decide)).2] at this
  exact this
 have H8 : Hid (∀ w0 lo lc, TI w0 lo lc A → Calls Tryz.prog 23 #[.agg #[.int .i64 K, .int .i64 N, .slice lo m lc]] w0 fun e w' => e = .returned (.bool true) ∧ Below w0.heap.size w0 w') := fun w0 lo lc h => by
  have := check_t U lo lc A w0 h hp
  rw [htt.ok, ← hK, ← hN, ← hm] at this
  exact this
 obtain ⟨Z, hZ⟩ : ∃ Z, Hid (Z = sz A 8) := ⟨_, rfl⟩
 have zp : 0 < Z := by rw [hZ.out, hA]; exact ab_size
 have H9 : Hid (∀ w0 lo lc, TI w0 lo lc A → Calls Tryz.prog 16 #[.agg #[.int .i64 K, .int .i64 N, .slice lo m lc]] w0 fun e w' => e = .returned (.int .i64 Z) ∧ Below w0.heap.size w0 w') := fun w0 lo lc h => by
  have := size_t U lo lc A w0 h hp
  unfold tZ at this
  rw [htt.ok, if_pos rfl, ← hZ.out, ← hK, ← hN, ← hm] at this
  exact this
 have HT : Hid (∀ w0 lo lc, TI w0 lo lc A → Calls Tryz.prog 25 #[.agg #[.int .i64 K, .int .i64 N, .slice lo m lc]] w0 fun e w' => ∃ bo bc, e = .returned (.slice bo 11 bc) ∧ (convert 22 9 (.slice bo 11 bc)).run Tryz.prog w' = .ok (.string ⟨#[97, 98, 114, 97, 99, 97, 100, 97, 98, 114, 97]⟩) w' ∧ Below w0.heap.size w0 w') := fun w0 lo lc h => by
  have := text_t U V lo lc A w0 h hp
  unfold tTx at this
  rw [htt.ok, if_pos rfl, htt.txt, ← hK, ← hN, ← hm] at this
  refine this.mono ?_
  rintro e w' ⟨bo, bc, rfl, g1, _, g2⟩
  refine ⟨bo, bc, rfl, ?_, g2⟩
  rw [← ab_str]
  exact conv bc g1
 clear hZ htt hA hp f1 f2 f3 f4 f5
 have bW := below_alloc w (.cells #[.int .u8 97, .int .u8 98, .int .u8 114, .int .u8 97, .int .u8 99, .int .u8 97, .int .u8 100, .int .u8 97, .int .u8 98, .int .u8 114, .int .u8 97] 5 (11, 12))
 clear hK hN hm
 go_enter Tryz.func8, Tryz.ntmps8
 go_wp2_with fail
 refine (H1.out _ rfl).mono ?_
 rintro e w1 ⟨lo, lc, rfl, hP, hb⟩
 have hw := bW.trans (hb.mono bW.size)
 clear H1 bW hb
 have hB := Cel.new w1 [.int .i64 K, .int .i64 N, .slice lo m lc] 26
 have b1 := below_alloc w1 (.cells [.int .i64 K, .int .i64 N, .slice lo m lc].toArray 26)
 replace hP := hP.keep b1
 replace hw := hw.trans (b1.mono hw.size)
 clear b1
 go_wp2_with fail
 refine (H2.out _ _ _ hP).mono ?_
 rintro e w2 ⟨rfl, hb⟩
 replace hP := hP.keep hb
 replace hB := hB.kept hb
 replace hw := hw.trans (hb.mono hw.size)
 clear hb 
 have y0 := hB.cell 0 rfl
 have y1 := hB.cell 1 rfl
 have y2 := hB.cell 2 rfl
 go_wp2_with fail
 refine (H3.out _ _ _ hP).mono ?_
 rintro e w3 ⟨rfl, hb⟩
 replace hP := hP.keep hb
 replace hB := hB.kept hb
 replace hw := hw.trans (hb.mono hw.size)
 clear hb y0 y1 y2
 have y0 := hB.cell 0 rfl
 have y1 := hB.cell 1 rfl
 have y2 := hB.cell 2 rfl
 go_wp2_with fail
 refine (H4.out _ _ _ hP).mono ?_
 rintro e w4 ⟨rfl, hb⟩
 replace hP := hP.keep hb
 replace hB := hB.kept hb
 replace hw := hw.trans (hb.mono hw.size)
 clear hb y0 y1 y2
 have y0 := hB.cell 0 rfl
 have y1 := hB.cell 1 rfl
 have y2 := hB.cell 2 rfl
 go_wp2_with fail
 refine (H5.out _ _ _ hP).mono ?_
 rintro e w5 ⟨rfl, hb⟩
 replace hP := hP.keep hb
 replace hB := hB.kept hb
 replace hw := hw.trans (hb.mono hw.size)
 clear hb y0 y1 y2
 have y0 := hB.cell 0 rfl
 have y1 := hB.cell 1 rfl
 have y2 := hB.cell 2 rfl
 go_wp2_with fail
 refine (H6.out _ _ _ hP).mono ?_
 rintro e w6 ⟨rfl, hb⟩
 replace hP := hP.keep hb
 replace hB := hB.kept hb
 replace hw := hw.trans (hb.mono hw.size)
 clear hb y0 y1 y2
 go_wp2_with fail
 refine (H7.out _ hP.gv).mono ?_
 rintro e w7 ⟨rfl, hb⟩
 replace hP := hP.keep hb
 replace hB := hB.kept hb
 replace hw := hw.trans (hb.mono hw.size)
 clear hb H7
 have y0 := hB.cell 0 rfl
 have y1 := hB.cell 1 rfl
 have y2 := hB.cell 2 rfl
 go_wp2_with fail
 refine (H8.out _ _ _ hP).mono ?_
 rintro e w8 ⟨rfl, hb⟩
 replace hP := hP.keep hb
 replace hB := hB.kept hb
 replace hw := hw.trans (hb.mono hw.size)
 clear hb y0 y1 y2
 have y0 := hB.cell 0 rfl
 have y1 := hB.cell 1 rfl
 have y2 := hB.cell 2 rfl
 go_wp2_with fail
 refine (H9.out _ _ _ hP).mono ?_
 rintro e w9 ⟨rfl, hb⟩
 replace hP := hP.keep hb
 replace hB := hB.kept hb
 replace hw := hw.trans (hb.mono hw.size)
 clear hb y0 y1 y2
 have y0 := hB.cell 0 rfl
 have y1 := hB.cell 1 rfl
 have y2 := hB.cell 2 rfl
 go_wp2_with fail
 refine (HT.out _ _ _ hP).mono ?_
 rintro e wa ⟨bo, bc, rfl, hcv, hb⟩
 replace hw := hw.trans (hb.mono hw.size)
 clear hb y0 y1 y2 hP hB HT
 go_wp2
 go_ret
 exact ⟨rfl, hw⟩
end Go.Proofs.YtfnkklkdajlhlaaGreatDoor
namespace Go.Proofs.YtfnkklkdajlhlaaGreatDoor
open Go.ChangeShapes Go.WideShapes Go.ChangeAt Go.RowKit Num Bit
theorem Tryz.cells5 : Tryz.prog.cellsOf 5 = 1 := by kernel_rfl
theorem u8_wf (x : Int) (h : (Lit.int .u8 x).wf = true) : 0 ≤ x ∧ x < 256 := by
 simp only [Lit.wf, IntKind.min, IntKind.max, IntKind.signed, IntKind.bits, Bool.and_eq_true, decide_eq_true_eq] at h
 simp at h
 omega
def Bytes (b : List Nat) : Prop := ∀ x ∈ b, x < 256
theorem bytes_of {b : List Nat} (h : ∀ i, i < b.length → gt b i < 256) : Bytes b := by
 intro x hx
 obtain ⟨i, hi, e⟩ := List.getElem_of_mem hx
 have := h i hi
 unfold gt at this
 rw [List.getD_eq_getElem?_getD, List.getElem?_eq_getElem hi, Option.getD_some] at this
 omega
theorem Bytes.byt {b : List Nat} (h : Bytes b) : Tw.Byt b := fun i => by
 by_cases hi : i < b.length
 ·have := gt_get b i hi
  exact h _ (List.mem_of_getElem? this)
 ·rw [gt_out _ _ (by omega)]; decide
theorem bd_of (w : World) (a : Addr) (len : Nat) (zs : List Int) (hl : len ≤ zs.length) (hc : ∀ i, i < zs.length → w.cell? (a.add i) = some (.int .u8 (zs.getD i 0))) (hw : ∀ n ∈ zs, (Lit.int .u8 n).wf = true) :
  ∃ xs : List Nat, xs.length = len ∧ Bd w (some a) xs ∧ Bytes xs := by
 have hb : ∀ i, i < zs.length → 0 ≤ zs.getD i 0 ∧ zs.getD i 0 < 256 := by
  intro i hi
  have : zs.getD i 0 = zs[i] := by rw [List.getD_eq_getElem?_getD, List.getElem?_eq_getElem hi]; rfl
  rw [this]
  exact u8_wf _ (hw _ (List.getElem_mem hi))
 have hg : ∀ i, i < len → (gt ((zs.take len).map Int.toNat) i : Int) = zs.getD i 0 := by
  intro i hi
  have h := hb i (by omega)
  unfold gt
  rw [List.getD_eq_getElem?_getD, List.getElem?_map, List.getElem?_take_of_lt hi, List.getElem?_eq_getElem (by omega : i < zs.length)]
  rw [List.getD_eq_getElem?_getD, List.getElem?_eq_getElem (by omega : i < zs.length)] at h ⊢
  simp only [Option.map_some, Option.getD_some] at h ⊢
  omega
 have hlen : ((zs.take len).map Int.toNat).length = len := by simp; omega
 refine ⟨(zs.take len).map Int.toNat, hlen, ?_, ?_⟩
 ·intro h0
  obtain ⟨b, off, s⟩ := a
  have h00 : 0 < zs.length := by simp at h0; omega
  have c0 := hc 0 h00
  have k := cell_lt (show w.cell? ⟨b, off, s⟩ = _ from c0)
  obtain ⟨k1, rfl⟩ := k
  refine ⟨b, off, rfl, k1, fun i hi => ?_⟩
  have hi2 : i < len := by simp at hi; omega
  have ci := hc i (by omega)
  rw [hg i hi2, ← ci]
  unfold Addr.add
  split
  ·subst_vars; rfl
  ·rfl
 ·refine bytes_of fun i hi => ?_
  rw [hlen] at hi
  have h := hb i (by omega)
  have e := hg i hi
  omega
theorem open_bytes {H : Type} {enc : TypeId × Value → H} {W : World} {base : Nat} {v : Value} {d : DataW H} {p : List MemPlace} (hv : Value.okWide Tryz.prog W .any base 22 v) (h : DataW.Trod enc Tryz.prog W 0 (fun _ => true) true 22 v d p) :
  ∃ ao xs cap, v = .slice ao xs.length cap ∧ Bd W ao xs ∧ Bytes xs ∧ xs.length ≤ cap := by
 obtain ⟨a0, len, cap, rfl⟩ := okWide_slice Tryz.underlying22 hv
 obtain ⟨fuel, hf⟩ := h
 have hf2 : DataW.trod enc Tryz.prog W 0 (fun _ => true) true fuel 22 [.slice a0 len cap] = some (d, p) := by simpa [Value.cells] using hf
 rcases open_ints Tryz.underlying22 Tryz.underlying5 Tryz.cells5 hf2 with ⟨hcs, _⟩ | ⟨x, l, cp, zs, hcs, _, hl, hm, hz, _, hcell, hwz⟩
 ·simp at hcs
  obtain ⟨rfl, rfl, rfl⟩ := hcs
  exact ⟨none, [], 0, rfl, bd0 _ _, (by intro x hx; cases hx), by simp⟩
 ·simp at hcs
  obtain ⟨rfl, rfl, rfl⟩ := hcs
  have hz2 : zs.length = cap := by simpa using hz
  obtain ⟨xs, hx1, hx2, hx3⟩ := bd_of W x len zs (by omega) hcell hwz
  subst hx1
  exact ⟨some x, xs, cap, rfl, hx2, hx3, hl⟩
end Go.Proofs.YtfnkklkdajlhlaaGreatDoor
namespace Go.Proofs.YtfnkklkdajlhlaaGreatDoor
open Go.RowKit Num Bit
theorem check_q (cs : List Value) (a : RA) (w : World) (h : KI w cs a) (o7 : kOn a = 1) :
  Calls Tryz.prog 47 #[.agg cs.toArray] w fun e w' => e = .returned (.bool (kOk a)) ∧ Below w.heap.size w w' := by
 have ON0 := fun (w0 : World) (hb : Below w.heap.size w w0) => only_c cs a w0 (h.arg.keep hb)
 have HL := Hid.mk8 h.arg.len
 have sm := h.sm
 have gv := h.gv
 replace h := h.arg
 obtain ⟨cp, cr, cf, rfl, hK, h1, h2, h3⟩ := h
 have l4 := Hid.mk8 h1.four
 have l9 := Hid.mk8 h2.nine
 have LP := Hid.mk8 h1.len
 have LR := Hid.mk8 h2.len
 have LF := Hid.mk8 h3.len
 obtain ⟨K, p, r, f⟩ := a
 dsimp only at *
 have k7 : KI7 w cp p := ⟨h1, sm.p1, sm.p2, sm.p3⟩
 have k8 : KI8 w cr r := ⟨h2, sm.r1, sm.r2, sm.r3, sm.r4, gv⟩
 have k9 : KI9 w cf f := ⟨h3, sm.f0, sm.f1, sm.f2⟩
 have ON : Hid (∀ w0, Below w.heap.size w w0 → Calls Tryz.prog 62 #[.agg (Value.int .i64 K :: (cp ++ (cr ++ cf))).toArray] w0 fun e w' => e = .returned (.int .i64 (kOn ⟨K, p, r, f⟩)) ∧ Below w0.heap.size w0 w') := ON0
 clear ON0 h1 h2 h3 sm gv
 obtain ⟨W, hW⟩ : ∃ W, W = w.alloc (.cells (Value.int .i64 K :: (cp ++ (cr ++ cf))).toArray 45) := ⟨_, rfl⟩
 have bw : Below w.heap.size w W := by rw [hW]; exact below_alloc w _
 have B0 := yc1 hW
 subst hW
 obtain ⟨e1, e2, e3, e4⟩ := on_p o7
 rw [e1]
 rw [o7] at ON
 have C : Hid (∀ w0, Below w.heap.size w w0 → Calls Tryz.prog 84 #[.agg cp.toArray] w0 fun e w' => e = .returned (.bool (kOk7 p)) ∧ Below w0.heap.size w0 w') := fun w0 g => check_k7 cp p w0 (k7.keep g)
 clear e1 e2 e3 e4 k7 k8 k9
 generalize kOk7 p = P0 at *
 go_enter Tryz.func47, Tryz.ntmps47
 go_wp2_with (refine load_obj w.heap.size _ (by rfl) rfl B0 Tryz.underlying45 HL.out ?_)
 refine (ON.out _ bw).mono ?_
 rintro e w1 ⟨rfl, hb⟩
 replace B0 := B0.kept hb
 replace bw := bw.trans (hb.mono bw.size)
 clear hb
 obtain ⟨c0, p1, p2, p3⟩ := parts l4.out l9.out B0
 go_wp2_with (refine load_part w.heap.size 1 cp (by rfl) rfl p1 Tryz.underlying37 LP.out ?_)
 refine (C.out _ bw).mono ?_
 rintro e w2 ⟨rfl, hb⟩
 replace bw := bw.trans (hb.mono bw.size)
 go_wp2
 go_ret
 exact ⟨rfl, bw⟩
theorem size_q (cs : List Value) (a : RA) (w : World) (h : KI w cs a) (o7 : kOn a = 1) :
  Calls Tryz.prog 42 #[.agg cs.toArray] w fun e w' => e = .returned (.int .i64 (kZ a)) ∧ Below w.heap.size w w' := by
 have ON0 := fun (w0 : World) (hb : Below w.heap.size w w0) => only_c cs a w0 (h.arg.keep hb)
 have HL := Hid.mk8 h.arg.len
 have sm := h.sm
 have gv := h.gv
 replace h := h.arg
 obtain ⟨cp, cr, cf, rfl, hK, h1, h2, h3⟩ := h
 have l4 := Hid.mk8 h1.four
 have l9 := Hid.mk8 h2.nine
 have LP := Hid.mk8 h1.len
 have LR := Hid.mk8 h2.len
 have LF := Hid.mk8 h3.len
 obtain ⟨K, p, r, f⟩ := a
 dsimp only at *
 have k7 : KI7 w cp p := ⟨h1, sm.p1, sm.p2, sm.p3⟩
 have k8 : KI8 w cr r := ⟨h2, sm.r1, sm.r2, sm.r3, sm.r4, gv⟩
 have k9 : KI9 w cf f := ⟨h3, sm.f0, sm.f1, sm.f2⟩
 have ON : Hid (∀ w0, Below w.heap.size w w0 → Calls Tryz.prog 62 #[.agg (Value.int .i64 K :: (cp ++ (cr ++ cf))).toArray] w0 fun e w' => e = .returned (.int .i64 (kOn ⟨K, p, r, f⟩)) ∧ Below w0.heap.size w0 w') := ON0
 clear ON0 h1 h2 h3 sm gv
 obtain ⟨W, hW⟩ : ∃ W, W = w.alloc (.cells (Value.int .i64 K :: (cp ++ (cr ++ cf))).toArray 45) := ⟨_, rfl⟩
 have bw : Below w.heap.size w W := by rw [hW]; exact below_alloc w _
 have B0 := yc1 hW
 subst hW
 obtain ⟨e1, e2, e3, e4⟩ := on_p o7
 rw [e4]
 rw [o7] at ON
 have C : Hid (∀ w0, Below w.heap.size w w0 → Calls Tryz.prog 73 #[.agg cp.toArray] w0 fun e w' => e = .returned (.int .i64 (kZ7 p)) ∧ Below w0.heap.size w0 w') := fun w0 g => size_k7 cp p w0 (k7.keep g)
 clear e1 e2 e3 e4 k7 k8 k9
 generalize kZ7 p = P0 at *
 go_enter Tryz.func42, Tryz.ntmps42
 go_wp2_with (refine load_obj w.heap.size _ (by rfl) rfl B0 Tryz.underlying45 HL.out ?_)
 refine (ON.out _ bw).mono ?_
 rintro e w1 ⟨rfl, hb⟩
 replace B0 := B0.kept hb
 replace bw := bw.trans (hb.mono bw.size)
 clear hb
 obtain ⟨c0, p1, p2, p3⟩ := parts l4.out l9.out B0
 go_wp2_with (refine load_part w.heap.size 1 cp (by rfl) rfl p1 Tryz.underlying37 LP.out ?_)
 refine (C.out _ bw).mono ?_
 rintro e w2 ⟨rfl, hb⟩
 replace bw := bw.trans (hb.mono bw.size)
 go_wp2
 go_ret
 exact ⟨rfl, bw⟩
theorem access_q (cs : List Value) (a : RA) (i : Int) (w : World) (h : KI w cs a) (hi : I64 i) (o7 : kOn a = 1) :
  Calls Tryz.prog 32 #[.agg cs.toArray, .int .i64 i] w fun e w' => e = .returned (.tuple #[.bool (gaB (kOk a) (kBN a) (kBX a) i), .int .i64 (gaE (kOk a) (kBN a) (kBX a) i)]) ∧ Below w.heap.size w w' := by
 have ON0 := fun (w0 : World) (hb : Below w.heap.size w w0) => only_c cs a w0 (h.arg.keep hb)
 have HL := Hid.mk8 h.arg.len
 have sm := h.sm
 have gv := h.gv
 replace h := h.arg
 obtain ⟨cp, cr, cf, rfl, hK, h1, h2, h3⟩ := h
 have l4 := Hid.mk8 h1.four
 have l9 := Hid.mk8 h2.nine
 have LP := Hid.mk8 h1.len
 have LR := Hid.mk8 h2.len
 have LF := Hid.mk8 h3.len
 obtain ⟨K, p, r, f⟩ := a
 dsimp only at *
 have k7 : KI7 w cp p := ⟨h1, sm.p1, sm.p2, sm.p3⟩
 have k8 : KI8 w cr r := ⟨h2, sm.r1, sm.r2, sm.r3, sm.r4, gv⟩
 have k9 : KI9 w cf f := ⟨h3, sm.f0, sm.f1, sm.f2⟩
 have ON : Hid (∀ w0, Below w.heap.size w w0 → Calls Tryz.prog 62 #[.agg (Value.int .i64 K :: (cp ++ (cr ++ cf))).toArray] w0 fun e w' => e = .returned (.int .i64 (kOn ⟨K, p, r, f⟩)) ∧ Below w0.heap.size w0 w') := ON0
 clear ON0 h1 h2 h3 sm gv
 obtain ⟨W, hW⟩ : ∃ W, W = w.alloc (.cells (Value.int .i64 K :: (cp ++ (cr ++ cf))).toArray 45) := ⟨_, rfl⟩
 have bw : Below w.heap.size w W := by rw [hW]; exact below_alloc w _
 have B0 := yc1 hW
 subst hW
 obtain ⟨e1, e2, e3, e4⟩ := on_p o7
 rw [e1, e2, e3]
 rw [o7] at ON
 have C : Hid (∀ w0, Below w.heap.size w w0 → Calls Tryz.prog 63 #[.agg cp.toArray, .int .i64 i] w0 fun e w' => e = .returned (.tuple #[.bool (gaB (kOk7 p) (kBN7 p) (kBX7 p) i), .int .i64 (gaE (kOk7 p) (kBN7 p) (kBX7 p) i)]) ∧ Below w0.heap.size w0 w') := fun w0 g => access_k7 cp p i w0 (k7.keep g) hi
 clear e1 e2 e3 e4 k7 k8 k9
 generalize gaB (kOk7 p) (kBN7 p) (kBX7 p) i = P0 at *
 generalize gaE (kOk7 p) (kBN7 p) (kBX7 p) i = P1 at *
 go_enter Tryz.func32, Tryz.ntmps32
 go_wp2_with (refine load_obj w.heap.size _ (by rfl) rfl B0 Tryz.underlying45 HL.out ?_)
 refine (ON.out _ bw).mono ?_
 rintro e w1 ⟨rfl, hb⟩
 replace B0 := B0.kept hb
 replace bw := bw.trans (hb.mono bw.size)
 clear hb
 obtain ⟨c0, p1, p2, p3⟩ := parts l4.out l9.out B0
 go_wp2_with (refine load_part w.heap.size 1 cp (by rfl) rfl p1 Tryz.underlying37 LP.out ?_)
 refine (C.out _ bw).mono ?_
 rintro e w2 ⟨rfl, hb⟩
 replace bw := bw.trans (hb.mono bw.size)
 go_wp2
 go_ret2
 exact ⟨rfl, bw⟩
theorem rank_q (cs : List Value) (a : RA) (bit : Bool) (i : Int) (w : World) (h : KI w cs a) (hi : I64 i) (o7 : kOn a = 1) :
  Calls Tryz.prog 66 #[.agg cs.toArray, .bool bit, .int .i64 i] w fun e w' => e = .returned (.tuple #[.int .i64 (grN (kOk a) (kBN a) (kBX a) bit i), .int .i64 (grE (kOk a) (kBN a) i)]) ∧ Below w.heap.size w w' := by
 have ON0 := fun (w0 : World) (hb : Below w.heap.size w w0) => only_c cs a w0 (h.arg.keep hb)
 have HL := Hid.mk8 h.arg.len
 have sm := h.sm
 have gv := h.gv
 replace h := h.arg
 obtain ⟨cp, cr, cf, rfl, hK, h1, h2, h3⟩ := h
 have l4 := Hid.mk8 h1.four
 have l9 := Hid.mk8 h2.nine
 have LP := Hid.mk8 h1.len
 have LR := Hid.mk8 h2.len
 have LF := Hid.mk8 h3.len
 obtain ⟨K, p, r, f⟩ := a
 dsimp only at *
 have k7 : KI7 w cp p := ⟨h1, sm.p1, sm.p2, sm.p3⟩
 have k8 : KI8 w cr r := ⟨h2, sm.r1, sm.r2, sm.r3, sm.r4, gv⟩
 have k9 : KI9 w cf f := ⟨h3, sm.f0, sm.f1, sm.f2⟩
 have ON : Hid (∀ w0, Below w.heap.size w w0 → Calls Tryz.prog 62 #[.agg (Value.int .i64 K :: (cp ++ (cr ++ cf))).toArray] w0 fun e w' => e = .returned (.int .i64 (kOn ⟨K, p, r, f⟩)) ∧ Below w0.heap.size w0 w') := ON0
 clear ON0 h1 h2 h3 sm gv
 obtain ⟨W, hW⟩ : ∃ W, W = w.alloc (.cells (Value.int .i64 K :: (cp ++ (cr ++ cf))).toArray 45) := ⟨_, rfl⟩
 have bw : Below w.heap.size w W := by rw [hW]; exact below_alloc w _
 have B0 := yc1 hW
 subst hW
 obtain ⟨e1, e2, e3, e4⟩ := on_p o7
 rw [e1, e2, e3]
 rw [o7] at ON
 have C : Hid (∀ w0, Below w.heap.size w w0 → Calls Tryz.prog 120 #[.agg cp.toArray, .bool bit, .int .i64 i] w0 fun e w' => e = .returned (.tuple #[.int .i64 (grN (kOk7 p) (kBN7 p) (kBX7 p) bit i), .int .i64 (grE (kOk7 p) (kBN7 p) i)]) ∧ Below w0.heap.size w0 w') := fun w0 g => rank_k7 cp p bit i w0 (k7.keep g) hi
 clear e1 e2 e3 e4 k7 k8 k9
 generalize grN (kOk7 p) (kBN7 p) (kBX7 p) bit i = P0 at *
 generalize grE (kOk7 p) (kBN7 p) i = P1 at *
 go_enter Tryz.func66, Tryz.ntmps66
 go_wp2_with (refine load_obj w.heap.size _ (by rfl) rfl B0 Tryz.underlying45 HL.out ?_)
 refine (ON.out _ bw).mono ?_
 rintro e w1 ⟨rfl, hb⟩
 replace B0 := B0.kept hb
 replace bw := bw.trans (hb.mono bw.size)
 clear hb
 obtain ⟨c0, p1, p2, p3⟩ := parts l4.out l9.out B0
 go_wp2_with (refine load_part w.heap.size 1 cp (by rfl) rfl p1 Tryz.underlying37 LP.out ?_)
 refine (C.out _ bw).mono ?_
 rintro e w2 ⟨rfl, hb⟩
 replace bw := bw.trans (hb.mono bw.size)
 go_wp2
 go_ret2
 exact ⟨rfl, bw⟩
theorem select_q (cs : List Value) (a : RA) (bit : Bool) (k : Int) (w : World) (h : KI w cs a) (hi : I64 k) (o7 : kOn a = 1) :
  Calls Tryz.prog 46 #[.agg cs.toArray, .bool bit, .int .i64 k] w fun e w' => e = .returned (.tuple #[.int .i64 (gsX (kOk a) (kBN a) (kBX a) bit k), .int .i64 (gsE (kOk a) (kBN a) (kBX a) bit k)]) ∧ Below w.heap.size w w' := by
 have ON0 := fun (w0 : World) (hb : Below w.heap.size w w0) => only_c cs a w0 (h.arg.keep hb)
 have HL := Hid.mk8 h.arg.len
 have sm := h.sm
 have gv := h.gv
 replace h := h.arg
 obtain ⟨cp, cr, cf, rfl, hK, h1, h2, h3⟩ := h
 have l4 := Hid.mk8 h1.four
 have l9 := Hid.mk8 h2.nine
 have LP := Hid.mk8 h1.len
 have LR := Hid.mk8 h2.len
 have LF := Hid.mk8 h3.len
 obtain ⟨K, p, r, f⟩ := a
 dsimp only at *
 have k7 : KI7 w cp p := ⟨h1, sm.p1, sm.p2, sm.p3⟩
 have k8 : KI8 w cr r := ⟨h2, sm.r1, sm.r2, sm.r3, sm.r4, gv⟩
 have k9 : KI9 w cf f := ⟨h3, sm.f0, sm.f1, sm.f2⟩
 have ON : Hid (∀ w0, Below w.heap.size w w0 → Calls Tryz.prog 62 #[.agg (Value.int .i64 K :: (cp ++ (cr ++ cf))).toArray] w0 fun e w' => e = .returned (.int .i64 (kOn ⟨K, p, r, f⟩)) ∧ Below w0.heap.size w0 w') := ON0
 clear ON0 h1 h2 h3 sm gv
 obtain ⟨W, hW⟩ : ∃ W, W = w.alloc (.cells (Value.int .i64 K :: (cp ++ (cr ++ cf))).toArray 45) := ⟨_, rfl⟩
 have bw : Below w.heap.size w W := by rw [hW]; exact below_alloc w _
 have B0 := yc1 hW
 subst hW
 obtain ⟨e1, e2, e3, e4⟩ := on_p o7
 rw [e1, e2, e3]
 rw [o7] at ON
 have C : Hid (∀ w0, Below w.heap.size w w0 → Calls Tryz.prog 81 #[.agg cp.toArray, .bool bit, .int .i64 k] w0 fun e w' => e = .returned (.tuple #[.int .i64 (gsX (kOk7 p) (kBN7 p) (kBX7 p) bit k), .int .i64 (gsE (kOk7 p) (kBN7 p) (kBX7 p) bit k)]) ∧ Below w0.heap.size w0 w') := fun w0 g => select_k7 cp p bit k w0 (k7.keep g) hi
 clear e1 e2 e3 e4 k7 k8 k9
 generalize gsX (kOk7 p) (kBN7 p) (kBX7 p) bit k = P0 at *
 generalize gsE (kOk7 p) (kBN7 p) (kBX7 p) bit k = P1 at *
 go_enter Tryz.func46, Tryz.ntmps46
 go_wp2_with (refine load_obj w.heap.size _ (by rfl) rfl B0 Tryz.underlying45 HL.out ?_)
 refine (ON.out _ bw).mono ?_
 rintro e w1 ⟨rfl, hb⟩
 replace B0 := B0.kept hb
 replace bw := bw.trans (hb.mono bw.size)
 clear hb
 obtain ⟨c0, p1, p2, p3⟩ := parts l4.out l9.out B0
 go_wp2_with (refine load_part w.heap.size 1 cp (by rfl) rfl p1 Tryz.underlying37 LP.out ?_)
 refine (C.out _ bw).mono ?_
 rintro e w2 ⟨rfl, hb⟩
 replace bw := bw.trans (hb.mono bw.size)
 go_wp2
 go_ret2
 exact ⟨rfl, bw⟩
theorem info_bq : (Tryz.prog.info? 33).map (·.size) = some 2 := by kernel_rfl
theorem bits_q (cs : List Value) (a : RA) (w : World) (h : KI w cs a) (o7 : kOn a = 1) :
  Calls Tryz.prog 49 #[.agg cs.toArray] w fun e w' => ∃ bo bc, e = .returned (.agg #[.int .i64 (kBN a), .slice bo (kBX a).length bc]) ∧ Wd w' bo (kBX a) ∧ (kBX a).length ≤ bc ∧ Below w.heap.size w w' := by
 have ON0 := fun (w0 : World) (hb : Below w.heap.size w w0) => only_c cs a w0 (h.arg.keep hb)
 have HL := Hid.mk8 h.arg.len
 have sm := h.sm
 have gv := h.gv
 replace h := h.arg
 obtain ⟨cp, cr, cf, rfl, hK, h1, h2, h3⟩ := h
 have l4 := Hid.mk8 h1.four
 have l9 := Hid.mk8 h2.nine
 have LP := Hid.mk8 h1.len
 have LR := Hid.mk8 h2.len
 have LF := Hid.mk8 h3.len
 obtain ⟨K, p, r, f⟩ := a
 dsimp only at *
 have k7 : KI7 w cp p := ⟨h1, sm.p1, sm.p2, sm.p3⟩
 have k8 : KI8 w cr r := ⟨h2, sm.r1, sm.r2, sm.r3, sm.r4, gv⟩
 have k9 : KI9 w cf f := ⟨h3, sm.f0, sm.f1, sm.f2⟩
 have ON : Hid (∀ w0, Below w.heap.size w w0 → Calls Tryz.prog 62 #[.agg (Value.int .i64 K :: (cp ++ (cr ++ cf))).toArray] w0 fun e w' => e = .returned (.int .i64 (kOn ⟨K, p, r, f⟩)) ∧ Below w0.heap.size w0 w') := ON0
 clear ON0 h1 h2 h3 sm gv
 have bw : Below w.heap.size w ((w.alloc (.cells (Value.int .i64 K :: (cp ++ (cr ++ cf))).toArray 45)).alloc (.cells #[.int .i64 0, .slice none 0 0] 33)) := (below_alloc w _).alloc (by simp) _
 have B0 : Cel ((w.alloc (.cells (Value.int .i64 K :: (cp ++ (cr ++ cf))).toArray 45)).alloc (.cells #[.int .i64 0, .slice none 0 0] 33)) w.heap.size (Value.int .i64 K :: (cp ++ (cr ++ cf))) 45 := (Cel.new w _ _).alloc _
 have B2 : Cel ((w.alloc (.cells (Value.int .i64 K :: (cp ++ (cr ++ cf))).toArray 45)).alloc (.cells #[.int .i64 0, .slice none 0 0] 33)) (w.heap.size + 1) [.int .i64 0, .slice none 0 0] 33 := Cel.new2 w _ _ _
 obtain ⟨e1, e2, e3, e4⟩ := on_p o7
 rw [e2, e3]
 rw [o7] at ON
 have C : Hid (∀ w0, Below w.heap.size w w0 → Calls Tryz.prog 87 #[.agg cp.toArray] w0 fun e w' => ∃ bo bc, e = .returned (.agg #[.int .i64 (kBN7 p), .slice bo (kBX7 p).length bc]) ∧ Wd w' bo (kBX7 p) ∧ (kBX7 p).length ≤ bc ∧ Below w0.heap.size w0 w') := fun w0 g => bits_k7 cp p w0 (k7.keep g)
 clear e1 e2 e3 e4 k7 k8 k9
 generalize kBN7 p = N at *
 generalize kBX7 p = X at *
 go_enter Tryz.func49, Tryz.ntmps49
 go_wp2_with (refine load_obj w.heap.size _ (by rfl) rfl B0 Tryz.underlying45 HL.out ?_)
 refine (ON.out _ bw).mono ?_
 rintro e w1 ⟨rfl, hb⟩
 replace B0 := B0.kept hb
 replace bw := bw.trans (hb.mono bw.size)
 replace B2 := B2.kept hb
 clear hb
 obtain ⟨c0, p1, p2, p3⟩ := parts l4.out l9.out B0
 go_wp2_with (refine load_part w.heap.size 1 cp (by rfl) rfl p1 Tryz.underlying37 LP.out ?_)
 refine (C.out _ bw).mono ?_
 rintro e w2 ⟨bo, bc, rfl, hx, hbc, hb⟩
 replace bw := bw.trans (hb.mono bw.size)
 replace B2 := B2.kept hb
 clear hb C ON B0 c0 p1 p2 p3
 have hne := hx.apart B2 (by intro v hv n; simp at hv; rcases hv with rfl | rfl <;> simp)
 go_wp2_with (refine store_cel (w.heap.size + 1) _ _ rfl rfl B2 rfl info_bq (by simp [Value.oneCell']) ?_)
 intro w3 B3 O3
 have HZ : Hid (Cel w3 (w.heap.size + 1) [.int .i64 N, .slice bo (List.length X) bc] 33 ∧ Wd w3 bo X ∧ Below w.heap.size w w3) := ⟨B3, O3.wd hx hne, bw.trans (O3.below (Nat.le_succ _))⟩
 clear B3 O3 hx
 go_wp2
 (try simp only [Exit.inBlock, Exit.then])
 exact bodyPost_ret (result_cel1 rfl (w.heap.size + 1) _ rfl HZ.out.1 Tryz.underlying33 info_bq) rfl ⟨bo, bc, rfl, HZ.out.2.1, hbc, HZ.out.2.2⟩
theorem vcP : VC plK := ⟨fun cs a w h o => check_q cs a w h o, fun cs a w h o => size_q cs a w h o⟩
theorem vrP : VR plK := ⟨fun cs a w h o => bits_q cs a w h o, fun cs a i w h o hi => access_q cs a i w h hi o, fun cs a b i w h o hi => rank_q cs a b i w h hi o, fun cs a b k w h o hi => select_q cs a b k w h hi o⟩
theorem heads_c (w : World) (G : GV w) : Calls Tryz.prog 8 #[] w fun e w' => e = .returned (.bool true) ∧ Below w.heap.size w w' := heads_g (fun _ h => h) vcP vrP w G
end Go.Proofs.YtfnkklkdajlhlaaGreatDoor
namespace Go.Proofs.YtfnkklkdajlhlaaGreatDoor
open Num Bit
namespace Tw
theorem flat_cnt (t : List Nat) (l p : Nat) (f : Nat → Bool) : (((List.range p).flatMap (seg t l)).filter f).length = ((List.range t.length).filter fun i => decide (hi l (gt t i) < p) && f i).length := by
 induction p with
 | zero =>
  have e : ((List.range t.length).filter fun i => decide (hi l (gt t i) < 0) && f i) = [] := List.filter_eq_nil_iff.2 (fun a _ => by simp)
  rw [e]
  rfl
 | succ p ih =>
  rw [List.range_succ, List.flatMap_append, List.filter_append, List.length_append, ih]
  simp only [List.flatMap_cons, List.flatMap_nil, List.append_nil]
  unfold seg sg
  rw [List.filter_filter]
  refine (filt_or _ _ _ _ (fun x _ => ?_) (fun x _ => ?_)).symm
  ·rw [Bool.eq_iff_iff]
   simp only [Bool.or_eq_true, Bool.and_eq_true, decide_eq_true_eq]
   constructor
   ·intro h
    by_cases c : hi l (gt t x) = p
    ·exact .inr ⟨h.2, c⟩
    ·exact .inl ⟨by omega, h.2⟩
   ·rintro (h | h)
    ·exact ⟨by omega, h.2⟩
    ·exact ⟨by omega, h.1⟩
  ·simp only [Bool.and_eq_true, decide_eq_true_eq]; omega
def on (t : List Nat) (l i : Nat) : Nat := ((List.range i).filter fun j => tb l (gt t j)).length
theorem on_zero (t : List Nat) (l : Nat) : on t l 0 = 0 := rfl
theorem on_succ (t : List Nat) (l i : Nat) : on t l (i + 1) = on t l i + (tb l (gt t i)).toNat := by
 unfold on
 rw [List.range_succ, List.filter_append, List.length_append]
 cases h : tb l (gt t i) <;> simp [h]
theorem on_le (t : List Nat) (l i : Nat) : on t l i ≤ i := by
 unfold on
 exact Nat.le_trans (List.length_filter_le _ _) (by simp)
theorem ones_row (t xs : List Nat) (l : Nat) (hl : l < 8) (hb : Byt t) (hx : ∀ k, k < t.length → bitAt xs k = rb t l k) : cntB xs t.length = on t l t.length := by
 have hln := length_plc t l (by omega) hb
 have e : cntB xs t.length = cB xs true t.length := rfl
 rw [e, cB_take xs (plc t l) (fun x => tb l (gt t x)) true t.length (by omega) hx, ← hln, List.take_length]
 unfold plc on
 rw [flat_cnt]
 rw [show ((List.range (2 ^ l)).flatMap (seg t l)).length = t.length from hln]
 congr 1
 refine List.filter_congr fun i _ => ?_
 rw [show decide (hi l (gt t i) < 2 ^ l) = true from decide_eq_true (hi_lt (by omega) (hb i)), Bool.true_and]
 cases tb l (gt t i) <;> rfl
end Tw
theorem tb_rem (c l : Nat) (hl : l < 8) : c / 2 ^ (7 - l) % 2 = (Tw.tb l c).toNat := by
 unfold Tw.tb
 rw [Nat.testBit_eq_decide_div_mod_eq]
 rcases Nat.mod_two_eq_zero_or_one (c / 2 ^ (7 - l)) with h | h <;> simp [h]
theorem ones_all (n : Nat) (xs : List Nat) (h : chk (n : Int) xs = true) : onesI (n : Int) xs (n : Int) = (cntB xs n : Int) := by
 unfold onesI
 rw [h, if_pos rfl, show (min (n : Int) (n : Int)).toNat = n by omega]
end Go.Proofs.YtfnkklkdajlhlaaGreatDoor
