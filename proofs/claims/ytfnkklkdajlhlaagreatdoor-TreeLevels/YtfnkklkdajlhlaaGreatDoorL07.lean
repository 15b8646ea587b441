/-
  Plain: when a row by places may be: it fits, and its places rise below N; what it is then, field by field. The contracts of the program's isOne, ones, sought: what is read of the places. Rows by places as values (KI9): what is handed in, and what stays of it; and plain: places and counts of a row that may be. The contract of the program's noRows: rows that are looked at by a variadic function. Rows of bits of one of the kinds as values: the plain one (RA7, KI7), and all of them (RA, KI); what is told of one; plain. What is told of rows of the kinds that are looked at: by whichever contracts. The contracts of the program's noPlain, noRrr, noFano; a part of a struct out of its block. A row in blocks that is built, right; an argument of the type api.Rrr, opened.
-/
import Derived.Test.YtfnkklkdajlhlaaGreatDoorL06
import Derived.Test.YtfnkklkdajlhlaaGreatDoorL05
import Derived.Test.YtfnkklkdajlhlaaGreatDoorL01
import Derived.Test.YtfnkklkdajlhlaaGreatDoorL02
import Derived.Deep.MidRow
import Derived.Test.YtfnkklkdajlhlaaGreatDoorL00
import Derived.Test.YtfnkklkdajlhlaaGreatDoorRows
import Derived.ChangeSame
set_option linter.unusedVariables false
set_option linter.unusedSimpArgs false
set_option maxRecDepth 100000
set_option maxHeartbeats 16000000
namespace Go.Proofs.YtfnkklkdajlhlaaGreatDoor
open Num Bit
abbrev RA9 := FA
def fSame (a b : FA) : Bool := decide (a.N = b.N) && decide (a.M = b.M) && (decide (a.k = b.k) && decide (a.V = b.V) && (decide (a.LM = b.LM) && decide (a.xs = b.xs))) && (decide (a.H = b.H) && decide (a.ys = b.ys))
theorem fSame_iff (a b : FA) : fSame a b = true ↔ a = b := by
 obtain ⟨a1, a2, a3, a4, a5, a6, a7, a8⟩ := a
 obtain ⟨b1, b2, b3, b4, b5, b6, b7, b8⟩ := b
 unfold fSame
 simp only [Bool.and_eq_true, decide_eq_true_eq, FA.mk.injEq]
 constructor
 ·rintro ⟨⟨⟨rfl, rfl⟩, ⟨rfl, rfl⟩, rfl, rfl⟩, rfl, rfl⟩
  exact ⟨rfl, rfl, rfl, rfl, rfl, rfl, rfl, rfl⟩
 ·rintro ⟨rfl, rfl, rfl, rfl, rfl, rfl, rfl, rfl⟩
  exact ⟨⟨⟨rfl, rfl⟩, ⟨rfl, rfl⟩, rfl, rfl⟩, rfl, rfl⟩
def kOk9 (a : RA9) : Bool :=
 match fRow a with
 | some l => fSame a (fOf a.N.toNat l)
 | none => false
def kRow (a : RA9) : List Nat := (fRow a).getD []
def kBN9 (a : RA9) : Int := if kOk9 a = true then a.N else 0
def kBX9 (a : RA9) : List Nat := if kOk9 a = true then rowOf a.N.toNat (isIn (kRow a)) else []
def kZ9 (a : RA9) : Int := if kOk9 a = true then a.LM + a.H + 64 else 0
def kB9 (N : Int) (xs : List Nat) : RA9 := if chk N xs = true then fOf N.toNat (plc (bitAt xs) N.toNat) else ⟨0, 0, 0, 0, 0, [], 0, []⟩
def kE9 (N : Int) (xs : List Nat) : Int := if chk N xs = true then 0 else 2
theorem kOk_row (a : RA9) (h : kOk9 a = true) : fRow a = some (kRow a) ∧ a = fOf a.N.toNat (kRow a) := by
 unfold kOk9 at h
 unfold kRow
 cases e : fRow a with
 | none => rw [e] at h; cases h
 | some l =>
  rw [e] at h
  exact ⟨rfl, (fSame_iff _ _).1 h⟩
theorem isIn_plc (f : Nat → Bool) (n j : Nat) : isIn (plc f n) j = (decide (j < n) && f j) := by
 rw [Bool.eq_iff_iff, mem_isIn, mem_plc, Bool.and_eq_true, decide_eq_true_eq]
end Go.Proofs.YtfnkklkdajlhlaaGreatDoor
namespace Go.Proofs.YtfnkklkdajlhlaaGreatDoor
open Go.RowKit Go.Shelf Num Bit
attribute [local go_sem] Oper.semAt_some
theorem Wd.blk {w : World} {ao : Option Addr} {xs : List Nat} (h : Wd w ao xs) {p : Addr} (hp : ao = some p) (h0 : 0 < xs.length) : p.block < w.heap.size := by
 obtain ⟨g, off, e, hg, _⟩ := h h0
 rw [e] at hp
 cases hp
 exact hg
theorem Cel.at {w : World} {b b' : Nat} {cs : List Value} {T : TypeId} (h : Cel w b cs T) (e : b = b') : Cel w b' cs T := e ▸ h
theorem Cel.put {w : World} {b D : Nat} {cs : List Value} {T : TypeId} (h : Cel w b cs T) (o : Obj) (e : b ≠ D) : Cel (w.putObj D o) b cs T := (World.putObj_heap_other e).trans h
end Go.Proofs.YtfnkklkdajlhlaaGreatDoor
namespace Go.Proofs.YtfnkklkdajlhlaaGreatDoor
open Go.RowKit Num Bit
def KArg9 (w : World) (cs : List Value) (a : RA9) : Prop := ∃ ao cap qo dap, cs = [.int .i64 a.N, .int .i64 a.M, .int .i64 a.k, .int .i64 a.V, .int .i64 a.LM, .slice ao a.xs.length cap, .int .i64 a.H, .slice qo a.ys.length dap] ∧ (I64 a.N ∧ I64 a.M ∧ I64 a.k ∧ I64 a.V ∧ I64 a.LM ∧ I64 a.H) ∧ Wd w ao a.xs ∧ Fit a.xs ∧ a.xs.length ≤ cap ∧ Wd w qo a.ys ∧ Fit a.ys ∧ a.ys.length ≤ dap
structure KI9 (w : World) (cs : List Value) (a : RA9) : Prop where
 arg : KArg9 w cs a
 n3 : a.N ≤ 3000
 xl : a.xs.length ≤ 1048576
 yl : a.ys.length ≤ 1048576
theorem KArg9.keep {w w' : World} {cs : List Value} {a : RA9} (h : KArg9 w cs a) (hb : Below w.heap.size w w') : KArg9 w' cs a := by
 obtain ⟨ao, cap, qo, dap, e, r, a1, a2, a3, a4, a5, a6⟩ := h
 exact ⟨ao, cap, qo, dap, e, r, a1.keep hb, a2, a3, a4.keep hb, a5, a6⟩
theorem KI9.keep {w w' : World} {cs : List Value} {a : RA9} (h : KI9 w cs a) (hb : Below w.heap.size w w') : KI9 w' cs a := ⟨h.arg.keep hb, h.n3, h.xl, h.yl⟩
theorem KArg9.len {w : World} {cs : List Value} {a : RA9} (h : KArg9 w cs a) : (Tryz.prog.info? 43).map (·.size) = some cs.length := by
 obtain ⟨ao, cap, qo, dap, rfl, _⟩ := h
 kernel_rfl
theorem KArg9.nine {w : World} {cs : List Value} {a : RA9} (h : KArg9 w cs a) : 8 = cs.length := by
 obtain ⟨ao, cap, qo, dap, rfl, _⟩ := h
 rfl
theorem KArg9.one {w : World} {cs : List Value} {a : RA9} (h : KArg9 w cs a) : cs.toArray.all (·.oneCell') = true := by
 obtain ⟨ao, cap, qo, dap, rfl, _⟩ := h
 simp [Value.oneCell']
theorem kRow_n (a : RA9) (h : kOk9 a = true) : 0 ≤ a.N ∧ a.N ≤ 1048576 ∧ Rise (kRow a) a.N.toNat := by
 obtain ⟨h1, _⟩ := kOk_row a h
 unfold fRow at h1
 simp only at h1
 split at h1
 ·rename_i c
  obtain ⟨⟨c1, c2, c3, c4⟩, c5, c6, c7, c8⟩ := c
  exact ⟨c1, c2, (fdec_len _ _ _ _ _ _ h1).2⟩
 ·cases h1
theorem kB_chk9 (a : RA9) (h : kOk9 a = true) : chk (kBN9 a) (kBX9 a) = true := by
 obtain ⟨h0, h1, _⟩ := kRow_n a h
 unfold kBN9 kBX9
 rw [if_pos h, if_pos h]
 have := chk_rowOf a.N.toNat (isIn (kRow a)) (by omega)
 rw [Int.toNat_of_nonneg h0] at this
 exact this
theorem kB_fit9 (a : RA9) : Fit (kBX9 a) := by
 unfold kBX9
 split
 ·exact fit_rowOf _ _
 ·intro i; unfold gt; simp
theorem plc_cnt (xs : List Nat) (n : Nat) : (plc (bitAt xs) n).length = cntB xs n := by
 induction n with
 | zero => rfl
 | succ n ih =>
  rw [plc_succ, List.length_append, ih]
  show _ = cntB xs n + (if bitAt xs n then 1 else 0)
  cases bitAt xs n <;> rfl
def Rws (w : World) (b : Nat) (l : List (Int × Nat)) : Prop := b < w.heap.size ∧ ∀ i, i < l.length → w.cell? ⟨b, i * 2, none⟩ = some (.int .i64 (l.getD i (0, 0)).1) ∧ ∃ ao cap, w.cell? ⟨b, i * 2 + 1, none⟩ = some (.slice ao (l.getD i (0, 0)).2 cap)
def norw (l : List (Int × Nat)) : Bool := l.all fun p => decide (p.1 = 0) && decide ((p.2 : Int) = 0)
theorem norw_true (l : List (Int × Nat)) (h : ∀ j, j < l.length → (l.getD j (0, 0)).1 = 0 ∧ (l.getD j (0, 0)).2 = 0) : norw l = true := by
 unfold norw
 rw [List.all_eq_true]
 intro p hp
 obtain ⟨j, hj, rfl⟩ := List.mem_iff_getElem.1 hp
 have := h j hj
 rw [List.getD_eq_getElem?_getD, List.getElem?_eq_getElem hj] at this
 simp [show (l[j]).1 = 0 from this.1, show (l[j]).2 = 0 from this.2]
theorem norw_false (l : List (Int × Nat)) (j : Nat) (hj : j < l.length) (h : (l.getD j (0, 0)).1 ≠ 0 ∨ (l.getD j (0, 0)).2 ≠ 0) : norw l = false := by
 refine Bool.eq_false_iff.2 fun e => ?_
 unfold norw at e
 rw [List.all_eq_true] at e
 have := e _ (List.getElem_mem hj)
 rw [List.getD_eq_getElem?_getD, List.getElem?_eq_getElem hj] at h
 simp at this
 rcases h with h | h
 ·exact h this.1
 ·exact h (by have := this.2; simp only [Option.getD_some] at *; omega)
theorem noRows_c (b cap : Nat) (l : List (Int × Nat)) (w : World) (hx : Rws w b l) (hl : l.length ≤ 2) :
  Calls Tryz.prog 173 #[.slice (some ⟨b, 0, none⟩) l.length cap] w fun e w' => e = .returned (.bool (norw l)) ∧ Below w.heap.size w w' := by
 obtain ⟨R, hR⟩ : ∃ R, Hid (R = norw l) := ⟨_, rfl⟩
 rw [← hR.out]
 go_enter Tryz.func173, Tryz.ntmps173
 go_wp2
 go_loopw [7] (fun i wr => ∃ k : Nat, k ≤ l.length ∧ i = .int .i64 k ∧ Hid (∀ j, j < k → (l.getD j (0, 0)).1 = 0 ∧ (l.getD j (0, 0)).2 = 0) ∧ Below w.heap.size w wr) (fun i _ => l.length - (intOf i).toNat)
 case atStart => exact ⟨0, by omega, rfl, fun j hj => absurd hj (by omega), Below.refl _ _⟩
 case round =>
  obtain ⟨k, hk, rfl, H, hw⟩ := hrel
  by_cases hlt : k < l.length
  ·obtain ⟨h1, ao, cp, h2⟩ := hx.2 k hlt
   have e1 := (hw.cell (p := ⟨b, k * 2, none⟩) hx.1).trans h1
   have e2 := (hw.cell (p := ⟨b, k * 2 + 1, none⟩) hx.1).trans h2
   obtain ⟨N, hN⟩ : ∃ N, N = (l.getD k (0, 0)).1 := ⟨_, rfl⟩
   obtain ⟨n, hn⟩ : ∃ n, n = (l.getD k (0, 0)).2 := ⟨_, rfl⟩
   rw [← hN] at e1
   rw [← hn] at e2
   have hlt3 : (k : Int) < (l.length : Int) := by omega
   have HN : Hid (N = (l.getD k (0, 0)).1 ∧ n = (l.getD k (0, 0)).2) := And.intro hN hn
   clear hN hn h1 h2
   have bA := hw.alloc hw.size (.cells #[.int .i64 N, .slice ao n cp] 33)
   by_cases hv : N = 0
   ·by_cases hv2 : n = 0
    ·subst hv hv2
     go_wp2
     refine ⟨⟨k + 1, by omega, by go_num, ?_, bA⟩, by simp only [intOf]; omega⟩
     intro j hj
     by_cases e : j = k
     ·subst e; exact ⟨HN.out.1.symm, HN.out.2.symm⟩
     ·exact H.out j (by omega)
    ·have hne : ((n : Int) != 0) = true := by simp; omega
     have E : Hid (R = false) := by
      show R = false
      rw [hR.out]
      exact norw_false l k hlt (.inr (by rw [← HN.out.2]; exact hv2))
     subst hv
     go_wp2
     go_ret
     rw [E.out]
     exact ⟨rfl, bA⟩
   ·have hne : (N != 0) = true := by simp [hv]
    have E : Hid (R = false) := by
     show R = false
     rw [hR.out]
     exact norw_false l k hlt (.inl (by rw [← HN.out.1]; exact hv))
    go_wp2
    go_ret
    rw [E.out]
    exact ⟨rfl, bA⟩
  ·have E : Hid (R = true) := by
    show R = true
    rw [hR.out]
    exact norw_true l (fun j hj => H.out j (by omega))
   go_wp2
   go_ret
   rw [E.out]
   exact ⟨rfl, hw⟩
structure RA7 where
 N : Int
 xs : List Nat
 S : List Int
 T : List Int
def KArg7 (w : World) (cs : List Value) (a : RA7) : Prop := ∃ ao cap so sc tO tc, cs = [.int .i64 a.N, .slice ao a.xs.length cap, .slice so a.S.length sc, .slice tO a.T.length tc] ∧ PlArg w a.N ao a.xs cap so a.S sc tO a.T tc
structure KI7 (w : World) (cs : List Value) (a : RA7) : Prop where
 arg : KArg7 w cs a
 xl : a.xs.length ≤ 1048576
 sl : a.S.length ≤ 1048576
 tl : a.T.length ≤ 1048576
theorem KArg7.keep {w w' : World} {cs : List Value} {a : RA7} (h : KArg7 w cs a) (hb : Below w.heap.size w w') : KArg7 w' cs a := by
 obtain ⟨ao, cap, so, sc, tO, tc, e, h⟩ := h
 exact ⟨ao, cap, so, sc, tO, tc, e, ⟨h.n, h.x.keep hb, h.f, h.c, h.s.keep hb, h.sf, h.sc, h.t.keep hb, h.tf, h.tc⟩⟩
theorem KI7.keep {w w' : World} {cs : List Value} {a : RA7} (h : KI7 w cs a) (hb : Below w.heap.size w w') : KI7 w' cs a := ⟨h.arg.keep hb, h.xl, h.sl, h.tl⟩
theorem KArg7.len {w : World} {cs : List Value} {a : RA7} (h : KArg7 w cs a) : (Tryz.prog.info? 37).map (·.size) = some cs.length := by
 obtain ⟨ao, cap, so, sc, tO, tc, rfl, _⟩ := h
 kernel_rfl
theorem KArg7.four {w : World} {cs : List Value} {a : RA7} (h : KArg7 w cs a) : cs.length = 4 := by
 obtain ⟨ao, cap, so, sc, tO, tc, rfl, _⟩ := h
 rfl
theorem KArg7.one {w : World} {cs : List Value} {a : RA7} (h : KArg7 w cs a) : cs.toArray.all (·.oneCell') = true := by
 obtain ⟨ao, cap, so, sc, tO, tc, rfl, _⟩ := h
 simp [Value.oneCell']
def kOk7 (a : RA7) : Bool := pchk a.N a.xs a.S a.T
def kBN7 (a : RA7) : Int := piN a.N a.xs a.S a.T
def kBX7 (a : RA7) : List Nat := piX a.N a.xs a.S a.T
def kZ7 (a : RA7) : Int := pzN a.N a.xs a.S a.T
def kB7 (N : Int) (xs : List Nat) : RA7 := ⟨pbN N xs, pbX N xs, pbS N xs, pbT N xs⟩
def kE7 (N : Int) (xs : List Nat) : Int := pbE N xs
theorem kB_ok7 (N : Int) (xs : List Nat) (hk : chk N xs = true) : kOk7 (kB7 N xs) = true ∧ kBN7 (kB7 N xs) = N ∧ kBX7 (kB7 N xs) = xs := by
 have e : kB7 N xs = ⟨N, xs, supL N xs, subL N xs⟩ := by unfold kB7 pbN pbX pbS pbT; rw [if_pos hk, if_pos hk, if_pos hk, if_pos hk]
 have k : pchk N xs (supL N xs) (subL N xs) = true := by unfold pchk; simp [hk]
 rw [e]
 unfold kOk7 kBN7 kBX7 piN piX
 simp only
 rw [if_pos k, if_pos k]
 exact ⟨k, rfl, rfl⟩
theorem kB_chk7 (a : RA7) (h : kOk7 a = true) : chk (kBN7 a) (kBX7 a) = true := by
 unfold kBN7 kBX7 piN piX
 unfold kOk7 at h
 rw [if_pos h, if_pos h]
 unfold pchk at h
 simp only [Bool.and_eq_true] at h
 exact h.1
structure RA where
 K : Int
 p : RA7
 r : RA8
 f : RA9
def KArg (w : World) (cs : List Value) (a : RA) : Prop := ∃ cp cr cf, cs = .int .i64 a.K :: (cp ++ (cr ++ cf)) ∧ I64 a.K ∧ KArg7 w cp a.p ∧ KArg8 w cr a.r ∧ KArg9 w cf a.f
structure Sm (a : RA) : Prop where
 p1 : a.p.xs.length ≤ 1048576
 p2 : a.p.S.length ≤ 1048576
 p3 : a.p.T.length ≤ 1048576
 r1 : a.r.xs.length ≤ 1048576
 r2 : a.r.ys.length ≤ 1048576
 r3 : a.r.S.length ≤ 1048576
 r4 : a.r.T.length ≤ 1048576
 f0 : a.f.N ≤ 3000
 f1 : a.f.xs.length ≤ 1048576
 f2 : a.f.ys.length ≤ 1048576
structure KI (w : World) (cs : List Value) (a : RA) : Prop where
 arg : KArg w cs a
 sm : Sm a
 gv : GV w
theorem KArg.keep {w w' : World} {cs : List Value} {a : RA} (h : KArg w cs a) (hb : Below w.heap.size w w') : KArg w' cs a := by
 obtain ⟨cp, cr, cf, e, k, h1, h2, h3⟩ := h
 exact ⟨cp, cr, cf, e, k, h1.keep hb, h2.keep hb, h3.keep hb⟩
theorem KI.keep {w w' : World} {cs : List Value} {a : RA} (h : KI w cs a) (hb : Below w.heap.size w w') : KI w' cs a := ⟨h.arg.keep hb, h.sm, h.gv.keep hb⟩
theorem KArg.nine {w : World} {cs : List Value} {a : RA} (h : KArg w cs a) : 22 = cs.length := by
 obtain ⟨cp, cr, cf, rfl, _, h1, h2, h3⟩ := h
 have := h1.four
 have := h2.nine
 have := h3.nine
 simp only [List.length_cons, List.length_append]
 omega
theorem info_v : (Tryz.prog.info? 45).map (·.size) = some 22 := by kernel_rfl
theorem KArg.len {w : World} {cs : List Value} {a : RA} (h : KArg w cs a) : (Tryz.prog.info? 45).map (·.size) = some cs.length := by
 rw [← h.nine]
 exact info_v
theorem KArg.one {w : World} {cs : List Value} {a : RA} (h : KArg w cs a) : cs.toArray.all (·.oneCell') = true := by
 obtain ⟨cp, cr, cf, rfl, _, h1, h2, h3⟩ := h
 have a1 := h1.one
 have a2 := h2.one
 have a3 := h3.one
 simp only [List.all_toArray] at a1 a2 a3 ⊢
 rw [List.all_cons, List.all_append, List.all_append, a1, a2, a3]
 rfl
def z7 (a : RA7) : Bool := norw [(a.N, a.xs.length)] && (decide ((a.S.length : Int) = 0) && decide ((a.T.length : Int) = 0))
def z8 (a : RA8) : Bool := decide (a.N = 0) && (decide (a.k = 0) && (decide (a.V = 0) && (norw [(a.M, a.xs.length), (a.L, a.ys.length)] && (decide ((a.S.length : Int) = 0) && decide ((a.T.length : Int) = 0)))))
def z9 (a : RA9) : Bool := decide (a.N = 0) && (decide (a.M = 0) && (decide (a.k = 0) && (decide (a.V = 0) && norw [(a.LM, a.xs.length), (a.H, a.ys.length)])))
def kZs (a : RA) : Bool := (decide (a.K = 1) || z7 a.p) && ((decide (a.K = 2) || z8 a.r) && (decide (a.K = 3) || z9 a.f))
def kOn (a : RA) : Int := if kZs a = true then a.K else 0
def kOk (a : RA) : Bool := if kOn a = 1 then kOk7 a.p else if kOn a = 2 then kOk8 a.r else if kOn a = 3 then kOk9 a.f else false
def kBN (a : RA) : Int := if kOn a = 1 then kBN7 a.p else if kOn a = 2 then kBN8 a.r else if kOn a = 3 then kBN9 a.f else 0
def kBX (a : RA) : List Nat := if kOn a = 1 then kBX7 a.p else if kOn a = 2 then kBX8 a.r else if kOn a = 3 then kBX9 a.f else []
def kZ (a : RA) : Int := if kOn a = 1 then kZ7 a.p else if kOn a = 2 then kZ8 a.r else if kOn a = 3 then kZ9 a.f else 0
def n7 : RA7 := ⟨0, [], [], []⟩
def n8 : RA8 := ⟨0, 0, 0, 0, [], 0, [], [], []⟩
def n9 : RA9 := ⟨0, 0, 0, 0, 0, [], 0, []⟩
def kE (k : Int) (N : Int) (xs : List Nat) : Int := if k = 1 then kE7 N xs else if k = 2 then kE8 N xs else if k = 3 then kE9 N xs else 5
def kB (k : Int) (N : Int) (xs : List Nat) : RA := if kE k N xs = 0 then ⟨k, if k = 1 then kB7 N xs else n7, if k = 2 then kB8 N xs else n8, if k = 3 then kB9 N xs else n9⟩ else ⟨0, n7, n8, n9⟩
theorem on_p {a : RA} (h : kOn a = 1) : kOk a = kOk7 a.p ∧ kBN a = kBN7 a.p ∧ kBX a = kBX7 a.p ∧ kZ a = kZ7 a.p := by
 unfold kOk kBN kBX kZ
 rw [if_pos h, if_pos h, if_pos h, if_pos h]
 exact ⟨rfl, rfl, rfl, rfl⟩
theorem on_r {a : RA} (h : kOn a = 2) : kOk a = kOk8 a.r ∧ kBN a = kBN8 a.r ∧ kBX a = kBX8 a.r ∧ kZ a = kZ8 a.r := by
 unfold kOk kBN kBX kZ
 have e : ¬ kOn a = 1 := by omega
 rw [if_neg e, if_neg e, if_neg e, if_neg e, if_pos h, if_pos h, if_pos h, if_pos h]
 exact ⟨rfl, rfl, rfl, rfl⟩
theorem on_f {a : RA} (h : kOn a = 3) : kOk a = kOk9 a.f ∧ kBN a = kBN9 a.f ∧ kBX a = kBX9 a.f ∧ kZ a = kZ9 a.f := by
 unfold kOk kBN kBX kZ
 have e : ¬ kOn a = 1 := by omega
 have e2 : ¬ kOn a = 2 := by omega
 rw [if_neg e, if_neg e, if_neg e, if_neg e, if_neg e2, if_neg e2, if_neg e2, if_neg e2, if_pos h, if_pos h, if_pos h, if_pos h]
 exact ⟨rfl, rfl, rfl, rfl⟩
theorem on_n {a : RA} (h1 : kOn a ≠ 1) (h2 : kOn a ≠ 2) (h3 : kOn a ≠ 3) : kOk a = false ∧ kBN a = 0 ∧ kBX a = [] ∧ kZ a = 0 := by
 unfold kOk kBN kBX kZ
 rw [if_neg h1, if_neg h1, if_neg h1, if_neg h1, if_neg h2, if_neg h2, if_neg h2, if_neg h2, if_neg h3, if_neg h3, if_neg h3, if_neg h3]
 exact ⟨rfl, rfl, rfl, rfl⟩
theorem kB_chk (a : RA) (h : kOk a = true) : chk (kBN a) (kBX a) = true := by
 by_cases h1 : kOn a = 1
 ·obtain ⟨e1, e2, e3, _⟩ := on_p h1
  rw [e2, e3]
  exact kB_chk7 _ (e1.symm.trans h)
 by_cases h2 : kOn a = 2
 ·obtain ⟨e1, e2, e3, _⟩ := on_r h2
  rw [e2, e3]
  exact kB_chk8 _ (e1.symm.trans h)
 by_cases h3 : kOn a = 3
 ·obtain ⟨e1, e2, e3, _⟩ := on_f h3
  rw [e2, e3]
  exact kB_chk9 _ (e1.symm.trans h)
 rw [(on_n h1 h2 h3).1] at h
 cases h
theorem kE_ok (k N : Int) (xs : List Nat) (h1 : 1 ≤ k) (h3 : k ≤ 3) (hk : chk N xs = true) : kE k N xs = 0 := by
 unfold kE kE7 kE8 kE9 pbE rbE
 simp only [hk]
 split
 ·rfl
 ·split
  ·rfl
  ·split
   ·rfl
   ·omega
structure VC (P : RA → Prop) : Prop where
 check : ∀ (cs : List Value) (a : RA) (w : World), KI w cs a → P a → Calls Tryz.prog 47 #[.agg cs.toArray] w fun e w' => e = .returned (.bool (kOk a)) ∧ Below w.heap.size w w'
 size : ∀ (cs : List Value) (a : RA) (w : World), KI w cs a → P a → Calls Tryz.prog 42 #[.agg cs.toArray] w fun e w' => e = .returned (.int .i64 (kZ a)) ∧ Below w.heap.size w w'
structure VR (P : RA → Prop) : Prop where
 bits : ∀ (cs : List Value) (a : RA) (w : World), KI w cs a → P a → Calls Tryz.prog 49 #[.agg cs.toArray] w fun e w' => ∃ bo bc, e = .returned (.agg #[.int .i64 (kBN a), .slice bo (kBX a).length bc]) ∧ Wd w' bo (kBX a) ∧ (kBX a).length ≤ bc ∧ Below w.heap.size w w'
 access : ∀ (cs : List Value) (a : RA) (i : Int) (w : World), KI w cs a → P a → I64 i → Calls Tryz.prog 32 #[.agg cs.toArray, .int .i64 i] w fun e w' => e = .returned (.tuple #[.bool (gaB (kOk a) (kBN a) (kBX a) i), .int .i64 (gaE (kOk a) (kBN a) (kBX a) i)]) ∧ Below w.heap.size w w'
 rank : ∀ (cs : List Value) (a : RA) (bit : Bool) (i : Int) (w : World), KI w cs a → P a → I64 i → Calls Tryz.prog 66 #[.agg cs.toArray, .bool bit, .int .i64 i] w fun e w' => e = .returned (.tuple #[.int .i64 (grN (kOk a) (kBN a) (kBX a) bit i), .int .i64 (grE (kOk a) (kBN a) i)]) ∧ Below w.heap.size w w'
 select : ∀ (cs : List Value) (a : RA) (bit : Bool) (k : Int) (w : World), KI w cs a → P a → I64 k → Calls Tryz.prog 46 #[.agg cs.toArray, .bool bit, .int .i64 k] w fun e w' => e = .returned (.tuple #[.int .i64 (gsX (kOk a) (kBN a) (kBX a) bit k), .int .i64 (gsE (kOk a) (kBN a) (kBX a) bit k)]) ∧ Below w.heap.size w w'
theorem load_part {ops : Array Oper} {rest : List Oper} {d : Option Tmp} {ty T : TypeId} {ps : String} {af : Array Edge} {gd : Option (Nat × Bool)} {a : Act} {w : World} {Q : Exit → Act → World → Prop} {x : Operand}
  (g o : Nat) (cs : List Value) {fs : Array Field} (hwn : Region.wanted (⟨d, .load T x, ty, ps, af, gd⟩ : Oper) (yielded ops a.tmps) = true) (hx : a.eval x = .pointer (some ⟨g, o, none⟩)) (hc : w.rangeAt g o cs) (hu : Tryz.prog.underlying T = some (.struct fs)) (hi : (Tryz.prog.info? T).map (·.size) = some cs.length)
  (h : wpList Tryz.prog ops Q rest (a.put d (.agg cs.toArray)) w) :
  wpList Tryz.prog ops Q (⟨d, .load T x, ty, ps, af, gd⟩ :: rest) a w :=
 wpList_step fun K hK => by
  rw [if_pos hwn]
  exact wp_load_mid T x rfl g o hx cs _ hc hu rfl hi (hK _ _ h)
theorem Cel.part {w : World} {b : Nat} {T : TypeId} (pre cs post : List Value) (h : Cel w b (pre ++ (cs ++ post)) T) : w.rangeAt b pre.length cs := fun j v hv => by
 refine h.cell (pre.length + j) ?_
 have hj : j < cs.length := (List.getElem?_eq_some_iff.1 hv).1
 rw [List.getElem?_append_right (by omega), List.getElem?_append_left (by omega), show pre.length + j - pre.length = j by omega]
 exact hv
theorem rws1 (w : World) (N : Int) (ao : Option Addr) (n cap : Nat) (T : TypeId) : Rws (w.alloc (.cells #[.int .i64 N, .slice ao n cap] T)) w.heap.size [(N, n)] := by
 have hc := Cel.new w [.int .i64 N, .slice ao n cap] T
 refine ⟨hc.lt, fun i hi => ?_⟩
 have hi : i < 1 := hi
 obtain rfl : i = 0 := by omega
 exact ⟨hc.cell 0 rfl, ao, cap, hc.cell 1 rfl⟩
theorem rws2 (w : World) (N : Int) (ao : Option Addr) (n cap : Nat) (M : Int) (bo : Option Addr) (m dap : Nat) (T : TypeId) : Rws (w.alloc (.cells #[.int .i64 N, .slice ao n cap, .int .i64 M, .slice bo m dap] T)) w.heap.size [(N, n), (M, m)] := by
 have hc := Cel.new w [.int .i64 N, .slice ao n cap, .int .i64 M, .slice bo m dap] T
 refine ⟨hc.lt, fun i hi => ?_⟩
 have hi : i < 2 := hi
 have : i = 0 ∨ i = 1 := by omega
 rcases this with rfl | rfl
 ·exact ⟨hc.cell 0 rfl, ao, cap, hc.cell 1 rfl⟩
 ·exact ⟨hc.cell 2 rfl, bo, dap, hc.cell 3 rfl⟩
theorem noPlain_c (cs : List Value) (a : RA7) (w : World) (h : KArg7 w cs a) :
  Calls Tryz.prog 114 #[.agg cs.toArray] w fun e w' => e = .returned (.bool (z7 a)) ∧ Below w.heap.size w w' := by
 obtain ⟨ao, cap, so, sc, tO, tc, rfl, -⟩ := h
 obtain ⟨N, xs, S, T⟩ := a
 dsimp only
 obtain ⟨Z, hZ⟩ : ∃ Z, Hid (Z = z7 ⟨N, xs, S, T⟩) := ⟨_, rfl⟩
 rw [← hZ.out]
 obtain ⟨W, hW⟩ : ∃ W, W = (w.alloc (.cells #[.int .i64 N, .slice ao xs.length cap, .slice so S.length sc, .slice tO T.length tc] 37)).alloc (.cells #[.int .i64 N, .slice ao xs.length cap] 33) := ⟨_, rfl⟩
 have bW := yb2 hW
 have R : Hid (∀ w0 : World, w0 = W → Calls Tryz.prog 173 #[.slice (some ⟨w.heap.size + 1, 0, none⟩) 1 1] w0 fun e w' => e = .returned (.bool (norw [(N, xs.length)])) ∧ Below w0.heap.size w0 w') := fun w0 g => by
  subst g
  refine noRows_c _ 1 [(N, xs.length)] w0 ?_ (by simp)
  have hx := rws1 (w.alloc (.cells #[.int .i64 N, .slice ao xs.length cap, .slice so S.length sc, .slice tO T.length tc] 37)) N ao xs.length cap 33
  rw [show (w.alloc (.cells #[.int .i64 N, .slice ao xs.length cap, .slice so S.length sc, .slice tO T.length tc] 37)).heap.size = w.heap.size + 1 by simp] at hx
  rw [hW]
  exact hx
 subst hW
 cases hn : norw [(N, xs.length)] with
 | false =>
  have E : Hid (Z = false) := by
   show Z = _
   rw [hZ.out]
   unfold z7
   simp [hn]
  clear hZ
  rw [hn] at R
  go_enter Tryz.func114, Tryz.ntmps114
  go_wp2_with fail
  refine (R.out _ (by rfl)).mono ?_
  rintro e w1 ⟨rfl, hb⟩
  have g0 := ((Cel.new w [.int .i64 N, .slice ao xs.length cap, .slice so S.length sc, .slice tO T.length tc] 37).kept (below_alloc _ _)).kept hb
  have g1 := g0.cell 2 rfl
  have g2 := g0.cell 3 rfl
  clear g0
  replace hb := bW.trans (hb.mono bW.size)
  go_wp2
  go_ret
  rw [E.out]
  exact ⟨rfl, hb⟩
 | true =>
  by_cases qS : (S.length : Int) = 0
  rotate_left
  ·have dS : ((S.length : Int) == 0) = false := beq_eq_false_iff_ne.2 qS
   have E : Hid (Z = false) := by
    show Z = _
    rw [hZ.out]
    unfold z7
    simp [hn, show ¬ S = [] from fun e => qS (by rw [e]; rfl)]
   clear hZ
   rw [hn] at R
   go_enter Tryz.func114, Tryz.ntmps114
   go_wp2_with fail
   refine (R.out _ (by rfl)).mono ?_
   rintro e w1 ⟨rfl, hb⟩
   have g0 := ((Cel.new w [.int .i64 N, .slice ao xs.length cap, .slice so S.length sc, .slice tO T.length tc] 37).kept (below_alloc _ _)).kept hb
   have g1 := g0.cell 2 rfl
   have g2 := g0.cell 3 rfl
   clear g0
   replace hb := bW.trans (hb.mono bW.size)
   go_wp2
   go_ret
   rw [E.out]
   exact ⟨rfl, hb⟩
  have dS : ((S.length : Int) == 0) = true := by simp only [qS]; rfl
  by_cases qT : (T.length : Int) = 0
  rotate_left
  ·have dT : ((T.length : Int) == 0) = false := beq_eq_false_iff_ne.2 qT
   have E : Hid (Z = false) := by
    show Z = _
    rw [hZ.out]
    unfold z7
    simp [hn, show S = [] from List.eq_nil_of_length_eq_zero (by omega), show ¬ T = [] from fun e => qT (by rw [e]; rfl)]
   clear hZ
   rw [hn] at R
   go_enter Tryz.func114, Tryz.ntmps114
   go_wp2_with fail
   refine (R.out _ (by rfl)).mono ?_
   rintro e w1 ⟨rfl, hb⟩
   have g0 := ((Cel.new w [.int .i64 N, .slice ao xs.length cap, .slice so S.length sc, .slice tO T.length tc] 37).kept (below_alloc _ _)).kept hb
   have g1 := g0.cell 2 rfl
   have g2 := g0.cell 3 rfl
   clear g0
   replace hb := bW.trans (hb.mono bW.size)
   go_wp2
   go_ret
   rw [E.out]
   exact ⟨rfl, hb⟩
  have dT : ((T.length : Int) == 0) = true := by simp only [qT]; rfl
  have E : Hid (Z = true) := by
   show Z = _
   rw [hZ.out]
   unfold z7
   simp [hn, show S = [] from List.eq_nil_of_length_eq_zero (by omega), show T = [] from List.eq_nil_of_length_eq_zero (by omega)]
  clear hZ
  rw [hn] at R
  go_enter Tryz.func114, Tryz.ntmps114
  go_wp2_with fail
  refine (R.out _ (by rfl)).mono ?_
  rintro e w1 ⟨rfl, hb⟩
  have g0 := ((Cel.new w [.int .i64 N, .slice ao xs.length cap, .slice so S.length sc, .slice tO T.length tc] 37).kept (below_alloc _ _)).kept hb
  have g1 := g0.cell 2 rfl
  have g2 := g0.cell 3 rfl
  clear g0
  replace hb := bW.trans (hb.mono bW.size)
  go_wp2
  go_ret
  rw [E.out]
  exact ⟨rfl, hb⟩
theorem noRrr_c (cs : List Value) (a : RA8) (w : World) (h : KArg8 w cs a) :
  Calls Tryz.prog 115 #[.agg cs.toArray] w fun e w' => e = .returned (.bool (z8 a)) ∧ Below w.heap.size w w' := by
 obtain ⟨ao, cap, qo, dap, so, sc, tO, tc, rfl, -⟩ := h
 obtain ⟨N, k, V, M, xs, L, ys, S, T⟩ := a
 dsimp only
 obtain ⟨Z, hZ⟩ : ∃ Z, Hid (Z = z8 ⟨N, k, V, M, xs, L, ys, S, T⟩) := ⟨_, rfl⟩
 rw [← hZ.out]
 by_cases qN : N = 0
 rotate_left
 ·have dN : (N == 0) = false := by simp [qN]
  have E : Hid (Z = false) := by
   show Z = _
   rw [hZ.out]
   unfold z8
   simp [qN]
  clear hZ
  go_enter Tryz.func115, Tryz.ntmps115
  go_wp2
  go_ret
  rw [E.out]
  exact ⟨rfl, below_alloc _ _⟩
 subst qN
 by_cases qk : k = 0
 rotate_left
 ·have dk : (k == 0) = false := by simp [qk]
  have E : Hid (Z = false) := by
   show Z = _
   rw [hZ.out]
   unfold z8
   simp [qk]
  clear hZ
  go_enter Tryz.func115, Tryz.ntmps115
  go_wp2
  go_ret
  rw [E.out]
  exact ⟨rfl, below_alloc _ _⟩
 subst qk
 by_cases qV : V = 0
 rotate_left
 ·have dV : (V == 0) = false := by simp [qV]
  have E : Hid (Z = false) := by
   show Z = _
   rw [hZ.out]
   unfold z8
   simp [qV]
  clear hZ
  go_enter Tryz.func115, Tryz.ntmps115
  go_wp2
  go_ret
  rw [E.out]
  exact ⟨rfl, below_alloc _ _⟩
 subst qV
 obtain ⟨W, hW⟩ : ∃ W, W = (w.alloc (.cells #[.int .i64 0, .int .i64 0, .int .i64 0, .int .i64 M, .slice ao xs.length cap, .int .i64 L, .slice qo ys.length dap, .slice so S.length sc, .slice tO T.length tc] 41)).alloc (.cells #[.int .i64 M, .slice ao xs.length cap, .int .i64 L, .slice qo ys.length dap] 33) := ⟨_, rfl⟩
 have bW := yb2 hW
 have R : Hid (∀ w0 : World, w0 = W → Calls Tryz.prog 173 #[.slice (some ⟨w.heap.size + 1, 0, none⟩) 2 2] w0 fun e w' => e = .returned (.bool (norw [(M, xs.length), (L, ys.length)])) ∧ Below w0.heap.size w0 w') := fun w0 g => by
  subst g
  refine noRows_c _ 2 [(M, xs.length), (L, ys.length)] w0 ?_ (by simp)
  have hx := rws2 (w.alloc (.cells #[.int .i64 0, .int .i64 0, .int .i64 0, .int .i64 M, .slice ao xs.length cap, .int .i64 L, .slice qo ys.length dap, .slice so S.length sc, .slice tO T.length tc] 41)) M ao xs.length cap L qo ys.length dap 33
  rw [show (w.alloc (.cells #[.int .i64 0, .int .i64 0, .int .i64 0, .int .i64 M, .slice ao xs.length cap, .int .i64 L, .slice qo ys.length dap, .slice so S.length sc, .slice tO T.length tc] 41)).heap.size = w.heap.size + 1 by simp] at hx
  rw [hW]
  exact hx
 subst hW
 cases hn : norw [(M, xs.length), (L, ys.length)] with
 | false =>
  have E : Hid (Z = false) := by
   show Z = _
   rw [hZ.out]
   unfold z8
   simp [hn]
  clear hZ
  rw [hn] at R
  go_enter Tryz.func115, Tryz.ntmps115
  go_wp2_with fail
  refine (R.out _ (by rfl)).mono ?_
  rintro e w1 ⟨rfl, hb⟩
  have g0 := ((Cel.new w [.int .i64 0, .int .i64 0, .int .i64 0, .int .i64 M, .slice ao xs.length cap, .int .i64 L, .slice qo ys.length dap, .slice so S.length sc, .slice tO T.length tc] 41).kept (below_alloc _ _)).kept hb
  have g1 := g0.cell 7 rfl
  have g2 := g0.cell 8 rfl
  clear g0
  replace hb := bW.trans (hb.mono bW.size)
  go_wp2
  go_ret
  rw [E.out]
  exact ⟨rfl, hb⟩
 | true =>
  by_cases qS : (S.length : Int) = 0
  rotate_left
  ·have dS : ((S.length : Int) == 0) = false := beq_eq_false_iff_ne.2 qS
   have E : Hid (Z = false) := by
    show Z = _
    rw [hZ.out]
    unfold z8
    simp [hn, show ¬ S = [] from fun e => qS (by rw [e]; rfl)]
   clear hZ
   rw [hn] at R
   go_enter Tryz.func115, Tryz.ntmps115
   go_wp2_with fail
   refine (R.out _ (by rfl)).mono ?_
   rintro e w1 ⟨rfl, hb⟩
   have g0 := ((Cel.new w [.int .i64 0, .int .i64 0, .int .i64 0, .int .i64 M, .slice ao xs.length cap, .int .i64 L, .slice qo ys.length dap, .slice so S.length sc, .slice tO T.length tc] 41).kept (below_alloc _ _)).kept hb
   have g1 := g0.cell 7 rfl
   have g2 := g0.cell 8 rfl
   clear g0
   replace hb := bW.trans (hb.mono bW.size)
   go_wp2
   go_ret
   rw [E.out]
   exact ⟨rfl, hb⟩
  have dS : ((S.length : Int) == 0) = true := by simp only [qS]; rfl
  by_cases qT : (T.length : Int) = 0
  rotate_left
  ·have dT : ((T.length : Int) == 0) = false := beq_eq_false_iff_ne.2 qT
   have E : Hid (Z = false) := by
    show Z = _
    rw [hZ.out]
    unfold z8
    simp [hn, show S = [] from List.eq_nil_of_length_eq_zero (by omega), show ¬ T = [] from fun e => qT (by rw [e]; rfl)]
   clear hZ
   rw [hn] at R
   go_enter Tryz.func115, Tryz.ntmps115
   go_wp2_with fail
   refine (R.out _ (by rfl)).mono ?_
   rintro e w1 ⟨rfl, hb⟩
   have g0 := ((Cel.new w [.int .i64 0, .int .i64 0, .int .i64 0, .int .i64 M, .slice ao xs.length cap, .int .i64 L, .slice qo ys.length dap, .slice so S.length sc, .slice tO T.length tc] 41).kept (below_alloc _ _)).kept hb
   have g1 := g0.cell 7 rfl
   have g2 := g0.cell 8 rfl
   clear g0
   replace hb := bW.trans (hb.mono bW.size)
   go_wp2
   go_ret
   rw [E.out]
   exact ⟨rfl, hb⟩
  have dT : ((T.length : Int) == 0) = true := by simp only [qT]; rfl
  have E : Hid (Z = true) := by
   show Z = _
   rw [hZ.out]
   unfold z8
   simp [hn, show S = [] from List.eq_nil_of_length_eq_zero (by omega), show T = [] from List.eq_nil_of_length_eq_zero (by omega)]
  clear hZ
  rw [hn] at R
  go_enter Tryz.func115, Tryz.ntmps115
  go_wp2_with fail
  refine (R.out _ (by rfl)).mono ?_
  rintro e w1 ⟨rfl, hb⟩
  have g0 := ((Cel.new w [.int .i64 0, .int .i64 0, .int .i64 0, .int .i64 M, .slice ao xs.length cap, .int .i64 L, .slice qo ys.length dap, .slice so S.length sc, .slice tO T.length tc] 41).kept (below_alloc _ _)).kept hb
  have g1 := g0.cell 7 rfl
  have g2 := g0.cell 8 rfl
  clear g0
  replace hb := bW.trans (hb.mono bW.size)
  go_wp2
  go_ret
  rw [E.out]
  exact ⟨rfl, hb⟩
theorem noFano_c (cs : List Value) (a : RA9) (w : World) (h : KArg9 w cs a) :
  Calls Tryz.prog 116 #[.agg cs.toArray] w fun e w' => e = .returned (.bool (z9 a)) ∧ Below w.heap.size w w' := by
 obtain ⟨ao, cap, qo, dap, rfl, -⟩ := h
 obtain ⟨N, M, k, V, LM, xs, H, ys⟩ := a
 dsimp only
 obtain ⟨Z, hZ⟩ : ∃ Z, Hid (Z = z9 ⟨N, M, k, V, LM, xs, H, ys⟩) := ⟨_, rfl⟩
 rw [← hZ.out]
 by_cases qN : N = 0
 rotate_left
 ·have dN : (N == 0) = false := by simp [qN]
  have E : Hid (Z = false) := by
   show Z = _
   rw [hZ.out]
   unfold z9
   simp [qN]
  clear hZ
  go_enter Tryz.func116, Tryz.ntmps116
  go_wp2
  go_ret
  rw [E.out]
  exact ⟨rfl, below_alloc _ _⟩
 subst qN
 by_cases qM : M = 0
 rotate_left
 ·have dM : (M == 0) = false := by simp [qM]
  have E : Hid (Z = false) := by
   show Z = _
   rw [hZ.out]
   unfold z9
   simp [qM]
  clear hZ
  go_enter Tryz.func116, Tryz.ntmps116
  go_wp2
  go_ret
  rw [E.out]
  exact ⟨rfl, below_alloc _ _⟩
 subst qM
 by_cases qk : k = 0
 rotate_left
 ·have dk : (k == 0) = false := by simp [qk]
  have E : Hid (Z = false) := by
   show Z = _
   rw [hZ.out]
   unfold z9
   simp [qk]
  clear hZ
  go_enter Tryz.func116, Tryz.ntmps116
  go_wp2
  go_ret
  rw [E.out]
  exact ⟨rfl, below_alloc _ _⟩
 subst qk
 by_cases qV : V = 0
 rotate_left
 ·have dV : (V == 0) = false := by simp [qV]
  have E : Hid (Z = false) := by
   show Z = _
   rw [hZ.out]
   unfold z9
   simp [qV]
  clear hZ
  go_enter Tryz.func116, Tryz.ntmps116
  go_wp2
  go_ret
  rw [E.out]
  exact ⟨rfl, below_alloc _ _⟩
 subst qV
 obtain ⟨W, hW⟩ : ∃ W, W = (w.alloc (.cells #[.int .i64 0, .int .i64 0, .int .i64 0, .int .i64 0, .int .i64 LM, .slice ao xs.length cap, .int .i64 H, .slice qo ys.length dap] 43)).alloc (.cells #[.int .i64 LM, .slice ao xs.length cap, .int .i64 H, .slice qo ys.length dap] 33) := ⟨_, rfl⟩
 have bW := yb2 hW
 have R : Hid (∀ w0 : World, w0 = W → Calls Tryz.prog 173 #[.slice (some ⟨w.heap.size + 1, 0, none⟩) 2 2] w0 fun e w' => e = .returned (.bool (norw [(LM, xs.length), (H, ys.length)])) ∧ Below w0.heap.size w0 w') := fun w0 g => by
  subst g
  refine noRows_c _ 2 [(LM, xs.length), (H, ys.length)] w0 ?_ (by simp)
  have hx := rws2 (w.alloc (.cells #[.int .i64 0, .int .i64 0, .int .i64 0, .int .i64 0, .int .i64 LM, .slice ao xs.length cap, .int .i64 H, .slice qo ys.length dap] 43)) LM ao xs.length cap H qo ys.length dap 33
  rw [show (w.alloc (.cells #[.int .i64 0, .int .i64 0, .int .i64 0, .int .i64 0, .int .i64 LM, .slice ao xs.length cap, .int .i64 H, .slice qo ys.length dap] 43)).heap.size = w.heap.size + 1 by simp] at hx
  rw [hW]
  exact hx
 subst hW
 cases hn : norw [(LM, xs.length), (H, ys.length)] with
 | false =>
  have E : Hid (Z = false) := by
   show Z = _
   rw [hZ.out]
   unfold z9
   simp [hn]
  clear hZ
  rw [hn] at R
  go_enter Tryz.func116, Tryz.ntmps116
  go_wp2_with fail
  refine (R.out _ (by rfl)).mono ?_
  rintro e w1 ⟨rfl, hb⟩
  replace hb := bW.trans (hb.mono bW.size)
  go_wp2
  go_ret
  rw [E.out]
  exact ⟨rfl, hb⟩
 | true =>
  have E : Hid (Z = true) := by
   show Z = _
   rw [hZ.out]
   unfold z9
   simp [hn]
  clear hZ
  rw [hn] at R
  go_enter Tryz.func116, Tryz.ntmps116
  go_wp2_with fail
  refine (R.out _ (by rfl)).mono ?_
  rintro e w1 ⟨rfl, hb⟩
  replace hb := bW.trans (hb.mono bW.size)
  go_wp2
  go_ret
  rw [E.out]
  exact ⟨rfl, hb⟩
end Go.Proofs.YtfnkklkdajlhlaaGreatDoor
namespace Go.Proofs.YtfnkklkdajlhlaaGreatDoor
open Go.ChangeShapes Go.WideShapes Go.ChangeAt Go.RowKit Go.Joins Go.Deep Num Bit Bn
theorem row_back (m : Nat) (xs : List Nat) (hf : Fit xs) (hk : chk (m : Int) xs = true) : rowOf m (bitAt xs) = xs := by
 have := chk_row m xs hf hk
 rw [Int.toNat_natCast] at this
 exact this.symm
theorem kB_ok8 (N : Int) (xs : List Nat) (hf : Fit xs) (hk : chk N xs = true) : kOk8 (kB8 N xs) = true ∧ kBN8 (kB8 N xs) = N ∧ kBX8 (kB8 N xs) = xs := by
 obtain ⟨h0, h1, _, _⟩ := chk_out N xs hk
 obtain ⟨m, rfl⟩ := Int.eq_ofNat_of_zero_le h0
 have hm : m ≤ 1048576 := by omega
 have e : kB8 (m : Int) xs = ⟨m, nb m, 4, (nb m : Int) * 4, rC m (bitAt xs), bat m (bitAt xs) (nb m), rO m (bitAt xs), rS m (bitAt xs), rT m (bitAt xs)⟩ := by
  unfold kB8 rbN rbK rbV rbM rbC rbL rbO rbS rbT
  rw [hk, Int.toNat_natCast]
  rfl
 have hd : rDec m (nb m) 4 (rC m (bitAt xs)) (bat m (bitAt xs) (nb m)) (rO m (bitAt xs)) = some ((List.range m).map (bitAt xs)) := rDec_built m (bitAt xs) hm
 have e1 : rwN (some ((List.range m).map (bitAt xs))) = m := by simp [rwN]
 have e2 : rwX (some ((List.range m).map (bitAt xs))) = xs := by
  show frL _ = xs
  rw [fr_row, row_back m xs hf hk]
 have hn := nb_le m hm
 have hb := bat_le m (bitAt xs) (nb m)
 have i1 : ichk (nb m : Int) 4 ((nb m : Int) * 4) (rC m (bitAt xs)) = true := by
  have := ichk_mk (bclP m (bitAt xs) (nb m)) 4 (by decide) (by decide) (by rw [length_bclP]; omega)
  rw [length_bclP] at this
  unfold rC
  rw [show ((nb m : Int) * 4) = ((nb m * 4 : Nat) : Int) by omega]
  exact this
 have i2 : chk (bat m (bitAt xs) (nb m) : Int) (rO m (bitAt xs)) = true := by
  unfold rO
  rw [fr_off]
  exact chk_rowOf _ _ (by omega)
 have ok : rOk m (nb m) 4 ((nb m : Int) * 4) (rC m (bitAt xs)) (bat m (bitAt xs) (nb m)) (rO m (bitAt xs)) (rS m (bitAt xs)) (rT m (bitAt xs)) = true := by
  unfold rOk
  rw [hd, e1, e2, i1, i2, decide_eq_true (show (0 : Int) ≤ m ∧ (m : Int) ≤ 1048576 by omega), rEq_self]
  rfl
 rw [e]
 refine ⟨ok, ?_, ?_⟩
 ·unfold kBN8 rBN
  rw [if_pos ok, hd, e1]
 ·unfold kBX8 rBX
  rw [if_pos ok, hd, e2]
theorem kE_ok8 (N : Int) (xs : List Nat) (hk : chk N xs = true) : kE8 N xs = 0 := by unfold kE8 rbE; rw [hk]; rfl
end Go.Proofs.YtfnkklkdajlhlaaGreatDoor
