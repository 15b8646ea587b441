/-
  The contracts of the program's places: what it makes tells the places of a row by places. Plain: when a row by places may be: it fits, and its places rise below N; what it is then, field by field. The contracts of the program's isOne, ones, sought: what is read of the places. Rows by places as values (KI9): what is handed in, and what stays of it; and plain: places and counts of a row that may be. The contract of the program's noRows: rows that are looked at by a variadic function. Rows of bits of one of the kinds as values: the plain one (RA7, KI7), and all of them (RA, KI); what is told of one; plain.
-/
import Derived.Test.YtcaalcjcpddhaaaGreatS42
set_option linter.unusedVariables false
set_option linter.unusedSimpArgs false
set_option maxRecDepth 100000
namespace Go.Proofs.YtcaalcjcpddhaaaGreat
open Go.RowKit Go.Shelf Num Bit
attribute [local go_sem] Oper.semAt_some
def plq (n mm : Nat) (xs : List Nat) (hh : Nat) (ys : List Nat) (q : Nat) : Nat := (gt (plc (bitAt ys) hh) q - q) * 2 ^ wdF n mm + numAt (wdF n mm) xs q
structure Fits (n mm kn vn : Nat) (LM : Int) (xs : List Nat) (hh : Nat) (ys : List Nat) : Prop where
 hn : n ≤ 1048576
 hm : mm ≤ n
 ik : ichk (kn : Int) (vn : Int) LM xs = true
 ck : chk (hh : Int) ys = true
 on : (plc (bitAt ys) hh).length = mm
 hv : vn = max (wdF n mm) 1
 hk : kn = loN n mm
 hh : hh = mm + n / 2 ^ wdF n mm + 1
theorem fpl_plq {n mm kn vn : Nat} {LM : Int} {xs : List Nat} {hh : Nat} {ys : List Nat} (h : Fits n mm kn vn LM xs hh ys) (q : Nat) (hq : q < mm) : fpl (wdF n mm) ((List.range kn).map (numAt vn xs)) (plc (bitAt ys) hh) q = plq n mm xs hh ys q := by
 unfold fpl plq
 congr 1
 by_cases c : wdF n mm = 0
 ·rw [if_pos c, c]
  rfl
 ·have e1 : vn = wdF n mm := by rw [h.hv]; omega
  have e2 : kn = mm := by rw [h.hk]; unfold loN; rw [if_neg c]
  rw [if_neg c, e1, e2]
  have e3 : gt ((List.range mm).map (numAt (wdF n mm) xs)) q = numAt (wdF n mm) xs q := by
   unfold gt
   rw [List.getD_eq_getElem?_getD, List.getElem?_map, List.getElem?_range hq]
   rfl
  rw [e3]
  exact Nat.mod_eq_of_lt (numOf_lt _ _)
end Go.Proofs.YtcaalcjcpddhaaaGreat
namespace Go.Proofs.YtcaalcjcpddhaaaGreat
open Num Bit
abbrev RA9 := FA
def fSame (a b : FA) : Bool := decide (a.N = b.N) && decide (a.M = b.M) && (decide (a.k = b.k) && decide (a.V = b.V) && (decide (a.LM = b.LM) && decide (a.xs = b.xs))) && (decide (a.H = b.H) && decide (a.ys = b.ys))
theorem fSame_iff (a b : FA) : fSame a b = true ↔ a = b := by
 obtain ⟨a1, a2, a3, a4, a5, a6, a7, a8⟩ := a
 obtain ⟨b1, b2, b3, b4, b5, b6, b7, b8⟩ := b
 unfold fSame
 simp only [Bool.and_eq_true, decide_eq_true_eq, FA.mk.injEq]
 constructor
 ·rintro ⟨⟨⟨rfl, rfl⟩, ⟨rfl, rfl⟩, rfl, rfl⟩, rfl, rfl⟩
  exact ⟨rfl, rfl, rfl, rfl, rfl, rfl, rfl, rfl⟩
 ·rintro ⟨rfl, rfl, rfl, rfl, rfl, rfl, rfl, rfl⟩
  exact ⟨⟨⟨rfl, rfl⟩, ⟨rfl, rfl⟩, rfl, rfl⟩, rfl, rfl⟩
def kOk9 (a : RA9) : Bool :=
 match fRow a with
 | some l => fSame a (fOf a.N.toNat l)
 | none => false
def kRow (a : RA9) : List Nat := (fRow a).getD []
def kBN9 (a : RA9) : Int := if kOk9 a = true then a.N else 0
def kBX9 (a : RA9) : List Nat := if kOk9 a = true then rowOf a.N.toNat (isIn (kRow a)) else []
def kZ9 (a : RA9) : Int := if kOk9 a = true then a.LM + a.H + 64 else 0
def kB9 (N : Int) (xs : List Nat) : RA9 := if chk N xs = true then fOf N.toNat (plc (bitAt xs) N.toNat) else ⟨0, 0, 0, 0, 0, [], 0, []⟩
def kE9 (N : Int) (xs : List Nat) : Int := if chk N xs = true then 0 else 2
theorem kOk_row (a : RA9) (h : kOk9 a = true) : fRow a = some (kRow a) ∧ a = fOf a.N.toNat (kRow a) := by
 unfold kOk9 at h
 unfold kRow
 cases e : fRow a with
 | none => rw [e] at h; cases h
 | some l =>
  rw [e] at h
  exact ⟨rfl, (fSame_iff _ _).1 h⟩
theorem fdec_get (n w : Nat) (lo hi : List Nat) : ∀ q out, fdec n w lo hi q = some out → ∀ j, j < q → gt out j = fpl w lo hi j := by
 intro q
 induction q with
 | zero => intro out _ j hj; omega
 | succ q ih =>
  intro out h j hj
  rw [fdec] at h
  cases hq : fdec n w lo hi q with
  | none => rw [hq] at h; cases h
  | some o =>
   rw [hq] at h
   have hlen := (fdec_len n w lo hi q o hq).1
   simp only at h
   split at h
   ·cases h
   ·obtain rfl := Option.some.inj h
    by_cases c : j < q
    ·rw [gt_app_l o _ j (by omega)]; exact ih o hq j c
    ·obtain rfl : j = o.length := by omega
     rw [gt_app_r, hlen]
theorem ok_fits (n mm kn vn hh : Nat) (LM : Int) (xs ys : List Nat) (h : kOk9 ⟨n, mm, kn, vn, LM, xs, hh, ys⟩ = true) :
  Fits n mm kn vn LM xs hh ys ∧ (kRow ⟨n, mm, kn, vn, LM, xs, hh, ys⟩).length = mm ∧ (∀ q, q < mm → plq n mm xs hh ys q = gt (kRow ⟨n, mm, kn, vn, LM, xs, hh, ys⟩) q) ∧ Rise (kRow ⟨n, mm, kn, vn, LM, xs, hh, ys⟩) n := by
 obtain ⟨h1, h2⟩ := kOk_row _ h
 generalize kRow ⟨n, mm, kn, vn, LM, xs, hh, ys⟩ = l at *
 unfold fRow at h1
 simp only [Int.toNat_natCast] at h1
 split at h1
 ·rename_i c
  obtain ⟨⟨c1, c2, c3, c4⟩, c5, c6, c7, c8⟩ := c
  have c7 : (plc (bitAt ys) hh).length = mm := by omega
  obtain ⟨l1, l2⟩ := fdec_len _ _ _ _ _ _ h1
  rw [c7] at l1
  have l3 := fdec_get _ _ _ _ _ _ h1
  rw [c7] at l3
  simp only [Int.toNat_natCast, fOf, FA.mk.injEq, l1] at h2
  obtain ⟨-, -, e3, e4, -, -, e7, -⟩ := h2
  have F : Fits n mm kn vn LM xs hh ys := by
   refine ⟨by omega, by omega, c5, c6, c7, by omega, ?_, ?_⟩
   ·unfold loN
    by_cases c : wdF n mm = 0
    ·rw [if_pos c]
     rw [c] at e3
     have : loP l 0 = [] := rfl
     rw [this] at e3
     simp at e3
     omega
    ·rw [if_neg c]
     rw [length_loP l _ (by omega)] at e3
     omega
   ·unfold hiN at e7
    rw [l1] at e7
    omega
  exact ⟨F, l1, fun q hq => by rw [l3 q hq, fpl_plq F q hq], l2⟩
 ·cases h1
theorem isIn_plc (f : Nat → Bool) (n j : Nat) : isIn (plc f n) j = (decide (j < n) && f j) := by
 rw [Bool.eq_iff_iff, mem_isIn, mem_plc, Bool.and_eq_true, decide_eq_true_eq]
end Go.Proofs.YtcaalcjcpddhaaaGreat
namespace Go.Proofs.YtcaalcjcpddhaaaGreat
open Go.RowKit Go.Shelf Num Bit
attribute [local go_sem] Oper.semAt_some
theorem Cel.at {w : World} {b b' : Nat} {cs : List Value} {T : TypeId} (h : Cel w b cs T) (e : b = b') : Cel w b' cs T := e ▸ h
end Go.Proofs.YtcaalcjcpddhaaaGreat
namespace Go.Proofs.YtcaalcjcpddhaaaGreat
open Go.RowKit Num Bit
def KArg9 (w : World) (cs : List Value) (a : RA9) : Prop := ∃ ao cap qo dap, cs = [.int .i64 a.N, .int .i64 a.M, .int .i64 a.k, .int .i64 a.V, .int .i64 a.LM, .slice ao a.xs.length cap, .int .i64 a.H, .slice qo a.ys.length dap] ∧ (I64 a.N ∧ I64 a.M ∧ I64 a.k ∧ I64 a.V ∧ I64 a.LM ∧ I64 a.H) ∧ Wd w ao a.xs ∧ Fit a.xs ∧ a.xs.length ≤ cap ∧ Wd w qo a.ys ∧ Fit a.ys ∧ a.ys.length ≤ dap
structure KI9 (w : World) (cs : List Value) (a : RA9) : Prop where
 arg : KArg9 w cs a
 n3 : a.N ≤ 3000
 xl : a.xs.length ≤ 1048576
 yl : a.ys.length ≤ 1048576
theorem KArg9.keep {w w' : World} {cs : List Value} {a : RA9} (h : KArg9 w cs a) (hb : Below w.heap.size w w') : KArg9 w' cs a := by
 obtain ⟨ao, cap, qo, dap, e, r, a1, a2, a3, a4, a5, a6⟩ := h
 exact ⟨ao, cap, qo, dap, e, r, a1.keep hb, a2, a3, a4.keep hb, a5, a6⟩
theorem KI9.keep {w w' : World} {cs : List Value} {a : RA9} (h : KI9 w cs a) (hb : Below w.heap.size w w') : KI9 w' cs a := ⟨h.arg.keep hb, h.n3, h.xl, h.yl⟩
theorem KArg9.len {w : World} {cs : List Value} {a : RA9} (h : KArg9 w cs a) : (Tryz.prog.info? 34).map (·.size) = some cs.length := by
 obtain ⟨ao, cap, qo, dap, rfl, _⟩ := h
 kernel_rfl
theorem KArg9.nine {w : World} {cs : List Value} {a : RA9} (h : KArg9 w cs a) : 8 = cs.length := by
 obtain ⟨ao, cap, qo, dap, rfl, _⟩ := h
 rfl
theorem KArg9.one {w : World} {cs : List Value} {a : RA9} (h : KArg9 w cs a) : cs.toArray.all (·.oneCell') = true := by
 obtain ⟨ao, cap, qo, dap, rfl, _⟩ := h
 simp [Value.oneCell']
theorem kRow_n (a : RA9) (h : kOk9 a = true) : 0 ≤ a.N ∧ a.N ≤ 1048576 ∧ Rise (kRow a) a.N.toNat := by
 obtain ⟨h1, _⟩ := kOk_row a h
 unfold fRow at h1
 simp only at h1
 split at h1
 ·rename_i c
  obtain ⟨⟨c1, c2, c3, c4⟩, c5, c6, c7, c8⟩ := c
  exact ⟨c1, c2, (fdec_len _ _ _ _ _ _ h1).2⟩
 ·cases h1
theorem kB_chk9 (a : RA9) (h : kOk9 a = true) : chk (kBN9 a) (kBX9 a) = true := by
 obtain ⟨h0, h1, _⟩ := kRow_n a h
 unfold kBN9 kBX9
 rw [if_pos h, if_pos h]
 have := chk_rowOf a.N.toNat (isIn (kRow a)) (by omega)
 rw [Int.toNat_of_nonneg h0] at this
 exact this
theorem kB_fit9 (a : RA9) : Fit (kBX9 a) := by
 unfold kBX9
 split
 ·exact fit_rowOf _ _
 ·intro i; unfold gt; simp
theorem plc_cnt (xs : List Nat) (n : Nat) : (plc (bitAt xs) n).length = cntB xs n := by
 induction n with
 | zero => rfl
 | succ n ih =>
  rw [plc_succ, List.length_append, ih]
  show _ = cntB xs n + (if bitAt xs n then 1 else 0)
  cases bitAt xs n <;> rfl
end Go.Proofs.YtcaalcjcpddhaaaGreat
namespace Go.Proofs.YtcaalcjcpddhaaaGreat
open Go.RowKit Num Bit
def norw (l : List (Int × Nat)) : Bool := l.all fun p => decide (p.1 = 0) && decide ((p.2 : Int) = 0)
end Go.Proofs.YtcaalcjcpddhaaaGreat
namespace Go.Proofs.YtcaalcjcpddhaaaGreat
open Go.RowKit Num Bit
structure RA7 where
 N : Int
 xs : List Nat
 S : List Int
 T : List Int
def KArg7 (w : World) (cs : List Value) (a : RA7) : Prop := ∃ ao cap so sc tO tc, cs = [.int .i64 a.N, .slice ao a.xs.length cap, .slice so a.S.length sc, .slice tO a.T.length tc] ∧ PlArg w a.N ao a.xs cap so a.S sc tO a.T tc
structure KI7 (w : World) (cs : List Value) (a : RA7) : Prop where
 arg : KArg7 w cs a
 xl : a.xs.length ≤ 1048576
 sl : a.S.length ≤ 1048576
 tl : a.T.length ≤ 1048576
theorem KArg7.keep {w w' : World} {cs : List Value} {a : RA7} (h : KArg7 w cs a) (hb : Below w.heap.size w w') : KArg7 w' cs a := by
 obtain ⟨ao, cap, so, sc, tO, tc, e, h⟩ := h
 exact ⟨ao, cap, so, sc, tO, tc, e, ⟨h.n, h.x.keep hb, h.f, h.c, h.s.keep hb, h.sf, h.sc, h.t.keep hb, h.tf, h.tc⟩⟩
theorem KI7.keep {w w' : World} {cs : List Value} {a : RA7} (h : KI7 w cs a) (hb : Below w.heap.size w w') : KI7 w' cs a := ⟨h.arg.keep hb, h.xl, h.sl, h.tl⟩
theorem KArg7.len {w : World} {cs : List Value} {a : RA7} (h : KArg7 w cs a) : (Tryz.prog.info? 28).map (·.size) = some cs.length := by
 obtain ⟨ao, cap, so, sc, tO, tc, rfl, _⟩ := h
 kernel_rfl
theorem KArg7.four {w : World} {cs : List Value} {a : RA7} (h : KArg7 w cs a) : cs.length = 4 := by
 obtain ⟨ao, cap, so, sc, tO, tc, rfl, _⟩ := h
 rfl
theorem KArg7.one {w : World} {cs : List Value} {a : RA7} (h : KArg7 w cs a) : cs.toArray.all (·.oneCell') = true := by
 obtain ⟨ao, cap, so, sc, tO, tc, rfl, _⟩ := h
 simp [Value.oneCell']
def kOk7 (a : RA7) : Bool := pchk a.N a.xs a.S a.T
def kBN7 (a : RA7) : Int := piN a.N a.xs a.S a.T
def kBX7 (a : RA7) : List Nat := piX a.N a.xs a.S a.T
def kZ7 (a : RA7) : Int := pzN a.N a.xs a.S a.T
def kB7 (N : Int) (xs : List Nat) : RA7 := ⟨pbN N xs, pbX N xs, pbS N xs, pbT N xs⟩
def kE7 (N : Int) (xs : List Nat) : Int := pbE N xs
theorem kB_ok7 (N : Int) (xs : List Nat) (hk : chk N xs = true) : kOk7 (kB7 N xs) = true ∧ kBN7 (kB7 N xs) = N ∧ kBX7 (kB7 N xs) = xs := by
 have e : kB7 N xs = ⟨N, xs, supL N xs, subL N xs⟩ := by unfold kB7 pbN pbX pbS pbT; rw [if_pos hk, if_pos hk, if_pos hk, if_pos hk]
 have k : pchk N xs (supL N xs) (subL N xs) = true := by unfold pchk; simp [hk]
 rw [e]
 unfold kOk7 kBN7 kBX7 piN piX
 simp only
 rw [if_pos k, if_pos k]
 exact ⟨k, rfl, rfl⟩
theorem kB_chk7 (a : RA7) (h : kOk7 a = true) : chk (kBN7 a) (kBX7 a) = true := by
 unfold kBN7 kBX7 piN piX
 unfold kOk7 at h
 rw [if_pos h, if_pos h]
 unfold pchk at h
 simp only [Bool.and_eq_true] at h
 exact h.1
structure RA where
 K : Int
 p : RA7
 r : RA8
 f : RA9
def KArg (w : World) (cs : List Value) (a : RA) : Prop := ∃ cp cr cf, cs = .int .i64 a.K :: (cp ++ (cr ++ cf)) ∧ I64 a.K ∧ KArg7 w cp a.p ∧ KArg8 w cr a.r ∧ KArg9 w cf a.f
structure Sm (a : RA) : Prop where
 p1 : a.p.xs.length ≤ 1048576
 p2 : a.p.S.length ≤ 1048576
 p3 : a.p.T.length ≤ 1048576
 r1 : a.r.xs.length ≤ 1048576
 r2 : a.r.ys.length ≤ 1048576
 r3 : a.r.S.length ≤ 1048576
 r4 : a.r.T.length ≤ 1048576
 f0 : a.f.N ≤ 3000
 f1 : a.f.xs.length ≤ 1048576
 f2 : a.f.ys.length ≤ 1048576
structure KI (w : World) (cs : List Value) (a : RA) : Prop where
 arg : KArg w cs a
 sm : Sm a
 gv : GV w
theorem KArg.keep {w w' : World} {cs : List Value} {a : RA} (h : KArg w cs a) (hb : Below w.heap.size w w') : KArg w' cs a := by
 obtain ⟨cp, cr, cf, e, k, h1, h2, h3⟩ := h
 exact ⟨cp, cr, cf, e, k, h1.keep hb, h2.keep hb, h3.keep hb⟩
theorem KI.keep {w w' : World} {cs : List Value} {a : RA} (h : KI w cs a) (hb : Below w.heap.size w w') : KI w' cs a := ⟨h.arg.keep hb, h.sm, h.gv.keep hb⟩
theorem KArg.nine {w : World} {cs : List Value} {a : RA} (h : KArg w cs a) : 22 = cs.length := by
 obtain ⟨cp, cr, cf, rfl, _, h1, h2, h3⟩ := h
 have := h1.four
 have := h2.nine
 have := h3.nine
 simp only [List.length_cons, List.length_append]
 omega
theorem info_v : (Tryz.prog.info? 36).map (·.size) = some 22 := by kernel_rfl
theorem KArg.len {w : World} {cs : List Value} {a : RA} (h : KArg w cs a) : (Tryz.prog.info? 36).map (·.size) = some cs.length := by
 rw [← h.nine]
 exact info_v
theorem KArg.one {w : World} {cs : List Value} {a : RA} (h : KArg w cs a) : cs.toArray.all (·.oneCell') = true := by
 obtain ⟨cp, cr, cf, rfl, _, h1, h2, h3⟩ := h
 have a1 := h1.one
 have a2 := h2.one
 have a3 := h3.one
 simp only [List.all_toArray] at a1 a2 a3 ⊢
 rw [List.all_cons, List.all_append, List.all_append, a1, a2, a3]
 rfl
def z7 (a : RA7) : Bool := norw [(a.N, a.xs.length)] && (decide ((a.S.length : Int) = 0) && decide ((a.T.length : Int) = 0))
def z8 (a : RA8) : Bool := decide (a.N = 0) && (decide (a.k = 0) && (decide (a.V = 0) && (norw [(a.M, a.xs.length), (a.L, a.ys.length)] && (decide ((a.S.length : Int) = 0) && decide ((a.T.length : Int) = 0)))))
def z9 (a : RA9) : Bool := decide (a.N = 0) && (decide (a.M = 0) && (decide (a.k = 0) && (decide (a.V = 0) && norw [(a.LM, a.xs.length), (a.H, a.ys.length)])))
def kZs (a : RA) : Bool := (decide (a.K = 1) || z7 a.p) && ((decide (a.K = 2) || z8 a.r) && (decide (a.K = 3) || z9 a.f))
def kOn (a : RA) : Int := if kZs a = true then a.K else 0
def kOk (a : RA) : Bool := if kOn a = 1 then kOk7 a.p else if kOn a = 2 then kOk8 a.r else if kOn a = 3 then kOk9 a.f else false
def kBN (a : RA) : Int := if kOn a = 1 then kBN7 a.p else if kOn a = 2 then kBN8 a.r else if kOn a = 3 then kBN9 a.f else 0
def kBX (a : RA) : List Nat := if kOn a = 1 then kBX7 a.p else if kOn a = 2 then kBX8 a.r else if kOn a = 3 then kBX9 a.f else []
def kZ (a : RA) : Int := if kOn a = 1 then kZ7 a.p else if kOn a = 2 then kZ8 a.r else if kOn a = 3 then kZ9 a.f else 0
def n7 : RA7 := ⟨0, [], [], []⟩
def n8 : RA8 := ⟨0, 0, 0, 0, [], 0, [], [], []⟩
def n9 : RA9 := ⟨0, 0, 0, 0, 0, [], 0, []⟩
def kE (k : Int) (N : Int) (xs : List Nat) : Int := if k = 1 then kE7 N xs else if k = 2 then kE8 N xs else if k = 3 then kE9 N xs else 5
def kB (k : Int) (N : Int) (xs : List Nat) : RA := if kE k N xs = 0 then ⟨k, if k = 1 then kB7 N xs else n7, if k = 2 then kB8 N xs else n8, if k = 3 then kB9 N xs else n9⟩ else ⟨0, n7, n8, n9⟩
theorem on_p {a : RA} (h : kOn a = 1) : kOk a = kOk7 a.p ∧ kBN a = kBN7 a.p ∧ kBX a = kBX7 a.p ∧ kZ a = kZ7 a.p := by
 unfold kOk kBN kBX kZ
 rw [if_pos h, if_pos h, if_pos h, if_pos h]
 exact ⟨rfl, rfl, rfl, rfl⟩
theorem on_r {a : RA} (h : kOn a = 2) : kOk a = kOk8 a.r ∧ kBN a = kBN8 a.r ∧ kBX a = kBX8 a.r ∧ kZ a = kZ8 a.r := by
 unfold kOk kBN kBX kZ
 have e : ¬ kOn a = 1 := by omega
 rw [if_neg e, if_neg e, if_neg e, if_neg e, if_pos h, if_pos h, if_pos h, if_pos h]
 exact ⟨rfl, rfl, rfl, rfl⟩
theorem on_f {a : RA} (h : kOn a = 3) : kOk a = kOk9 a.f ∧ kBN a = kBN9 a.f ∧ kBX a = kBX9 a.f ∧ kZ a = kZ9 a.f := by
 unfold kOk kBN kBX kZ
 have e : ¬ kOn a = 1 := by omega
 have e2 : ¬ kOn a = 2 := by omega
 rw [if_neg e, if_neg e, if_neg e, if_neg e, if_neg e2, if_neg e2, if_neg e2, if_neg e2, if_pos h, if_pos h, if_pos h, if_pos h]
 exact ⟨rfl, rfl, rfl, rfl⟩
theorem on_n {a : RA} (h1 : kOn a ≠ 1) (h2 : kOn a ≠ 2) (h3 : kOn a ≠ 3) : kOk a = false ∧ kBN a = 0 ∧ kBX a = [] ∧ kZ a = 0 := by
 unfold kOk kBN kBX kZ
 rw [if_neg h1, if_neg h1, if_neg h1, if_neg h1, if_neg h2, if_neg h2, if_neg h2, if_neg h2, if_neg h3, if_neg h3, if_neg h3, if_neg h3]
 exact ⟨rfl, rfl, rfl, rfl⟩
theorem kB_chk (a : RA) (h : kOk a = true) : chk (kBN a) (kBX a) = true := by
 by_cases h1 : kOn a = 1
 ·obtain ⟨e1, e2, e3, _⟩ := on_p h1
  rw [e2, e3]
  exact kB_chk7 _ (e1.symm.trans h)
 by_cases h2 : kOn a = 2
 ·obtain ⟨e1, e2, e3, _⟩ := on_r h2
  rw [e2, e3]
  exact kB_chk8 _ (e1.symm.trans h)
 by_cases h3 : kOn a = 3
 ·obtain ⟨e1, e2, e3, _⟩ := on_f h3
  rw [e2, e3]
  exact kB_chk9 _ (e1.symm.trans h)
 rw [(on_n h1 h2 h3).1] at h
 cases h
end Go.Proofs.YtcaalcjcpddhaaaGreat
