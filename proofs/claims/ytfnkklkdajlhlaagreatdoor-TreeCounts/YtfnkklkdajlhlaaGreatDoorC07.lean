/-
  Plain: when a row by places may be: it fits, and its places rise below N; what it is then, field by field. The contracts of the program's isOne, ones, sought: what is read of the places. Rows by places as values (KI9): what is handed in, and what stays of it; and plain: places and counts of a row that may be. The contract of the program's noRows: rows that are looked at by a variadic function. Rows of bits of one of the kinds as values: the plain one (RA7, KI7), and all of them (RA, KI); what is told of one; plain. What is told of rows of the kinds that are looked at: by whichever contracts. The contracts of the program's noPlain, noRrr, noFano; a part of a struct out of its block. A row in blocks that is built, right; an argument of the type api.Rrr, opened.
-/
import Derived.Test.YtfnkklkdajlhlaaGreatDoorC06
import Derived.Test.YtfnkklkdajlhlaaGreatDoorC05
import Derived.Test.YtfnkklkdajlhlaaGreatDoorC01
import Derived.Test.YtfnkklkdajlhlaaGreatDoorC02
import Derived.Deep.MidRow
import Derived.Test.YtfnkklkdajlhlaaGreatDoorC00
import Derived.Test.YtfnkklkdajlhlaaGreatDoorRows
import Derived.ChangeSame
set_option linter.unusedVariables false
set_option linter.unusedSimpArgs false
set_option maxRecDepth 100000
set_option maxHeartbeats 16000000
namespace Go.Proofs.YtfnkklkdajlhlaaGreatDoor
open Num Bit
abbrev RA9 := FA
def fSame (a b : FA) : Bool := decide (a.N = b.N) && decide (a.M = b.M) && (decide (a.k = b.k) && decide (a.V = b.V) && (decide (a.LM = b.LM) && decide (a.xs = b.xs))) && (decide (a.H = b.H) && decide (a.ys = b.ys))
theorem fSame_iff (a b : FA) : fSame a b = true ↔ a = b := by
 obtain ⟨a1, a2, a3, a4, a5, a6, a7, a8⟩ := a
 obtain ⟨b1, b2, b3, b4, b5, b6, b7, b8⟩ := b
 unfold fSame
 simp only [Bool.and_eq_true, decide_eq_true_eq, FA.mk.injEq]
 constructor
 ·rintro ⟨⟨⟨rfl, rfl⟩, ⟨rfl, rfl⟩, rfl, rfl⟩, rfl, rfl⟩
  exact ⟨rfl, rfl, rfl, rfl, rfl, rfl, rfl, rfl⟩
 ·rintro ⟨rfl, rfl, rfl, rfl, rfl, rfl, rfl, rfl⟩
  exact ⟨⟨⟨rfl, rfl⟩, ⟨rfl, rfl⟩, rfl, rfl⟩, rfl, rfl⟩
def kOk9 (a : RA9) : Bool :=
 match fRow a with
 | some l => fSame a (fOf a.N.toNat l)
 | none => false
def kRow (a : RA9) : List Nat := (fRow a).getD []
def kBN9 (a : RA9) : Int := if kOk9 a = true then a.N else 0
def kBX9 (a : RA9) : List Nat := if kOk9 a = true then rowOf a.N.toNat (isIn (kRow a)) else []
def kZ9 (a : RA9) : Int := if kOk9 a = true then a.LM + a.H + 64 else 0
def kB9 (N : Int) (xs : List Nat) : RA9 := if chk N xs = true then fOf N.toNat (plc (bitAt xs) N.toNat) else ⟨0, 0, 0, 0, 0, [], 0, []⟩
def kE9 (N : Int) (xs : List Nat) : Int := if chk N xs = true then 0 else 2
theorem kOk_row (a : RA9) (h : kOk9 a = true) : fRow a = some (kRow a) ∧ a = fOf a.N.toNat (kRow a) := by
 unfold kOk9 at h
 unfold kRow
 cases e : fRow a with
 | none => rw [e] at h; cases h
 | some l =>
  rw [e] at h
  exact ⟨rfl, (fSame_iff _ _).1 h⟩
theorem fdec_get (n w : Nat) (lo hi : List Nat) : ∀ q out, fdec n w lo hi q = some out → ∀ j, j < q → gt out j = fpl w lo hi j := by
 intro q
 induction q with
 | zero => intro out _ j hj; omega
 | succ q ih =>
  intro out h j hj
  rw [fdec] at h
  cases hq : fdec n w lo hi q with
  | none => rw [hq] at h; cases h
  | some o =>
   rw [hq] at h
   have hlen := (fdec_len n w lo hi q o hq).1
   simp only at h
   split at h
   ·cases h
   ·obtain rfl := Option.some.inj h
    by_cases c : j < q
    ·rw [gt_app_l o _ j (by omega)]; exact ih o hq j c
    ·obtain rfl : j = o.length := by omega
     rw [gt_app_r, hlen]
theorem gt_rmap (m : Nat) (f : Nat → Nat) (i : Nat) (h : i < m) : gt ((List.range m).map f) i = f i := by
 unfold gt
 rw [List.getD_eq_getElem?_getD, List.getElem?_map, List.getElem?_range h]
 rfl
theorem fdec_some (n w : Nat) (lo hi : List Nat) : ∀ m, (∀ q, q < m → fpl w lo hi q < n ∧ (0 < q → fpl w lo hi (q - 1) < fpl w lo hi q)) → fdec n w lo hi m = some ((List.range m).map (fpl w lo hi)) := by
 intro m
 induction m with
 | zero => intro _; rfl
 | succ m ih =>
  intro h
  rw [fdec, ih (fun q hq => h q (by omega))]
  simp only
  obtain ⟨h1, h2⟩ := h m (by omega)
  rw [if_neg, List.range_succ, List.map_append]
  ·rfl
  ·rintro (c | ⟨c1, c2⟩)
   ·omega
   ·rw [gt_rmap m _ _ (by omega)] at c2
    have := h2 c1
    omega
def Good (n mm : Nat) (p : Nat → Nat) : Prop := ∀ q, q < mm → p q < n ∧ (0 < q → p (q - 1) < p q)
theorem ok_fits (n mm kn vn hh : Nat) (LM : Int) (xs ys : List Nat) (h : kOk9 ⟨n, mm, kn, vn, LM, xs, hh, ys⟩ = true) :
  Fits n mm kn vn LM xs hh ys ∧ (kRow ⟨n, mm, kn, vn, LM, xs, hh, ys⟩).length = mm ∧ (∀ q, q < mm → plq n mm xs hh ys q = gt (kRow ⟨n, mm, kn, vn, LM, xs, hh, ys⟩) q) ∧ Rise (kRow ⟨n, mm, kn, vn, LM, xs, hh, ys⟩) n := by
 obtain ⟨h1, h2⟩ := kOk_row _ h
 generalize kRow ⟨n, mm, kn, vn, LM, xs, hh, ys⟩ = l at *
 unfold fRow at h1
 simp only [Int.toNat_natCast] at h1
 split at h1
 ·rename_i c
  obtain ⟨⟨c1, c2, c3, c4⟩, c5, c6, c7, c8⟩ := c
  have c7 : (plc (bitAt ys) hh).length = mm := by omega
  obtain ⟨l1, l2⟩ := fdec_len _ _ _ _ _ _ h1
  rw [c7] at l1
  have l3 := fdec_get _ _ _ _ _ _ h1
  rw [c7] at l3
  simp only [Int.toNat_natCast, fOf, FA.mk.injEq, l1] at h2
  obtain ⟨-, -, e3, e4, -, -, e7, -⟩ := h2
  have F : Fits n mm kn vn LM xs hh ys := by
   refine ⟨by omega, by omega, c5, c6, c7, by omega, ?_, ?_⟩
   ·unfold loN
    by_cases c : wdF n mm = 0
    ·rw [if_pos c]
     rw [c] at e3
     have : loP l 0 = [] := rfl
     rw [this] at e3
     simp at e3
     omega
    ·rw [if_neg c]
     rw [length_loP l _ (by omega)] at e3
     omega
   ·unfold hiN at e7
    rw [l1] at e7
    omega
  exact ⟨F, l1, fun q hq => by rw [l3 q hq, fpl_plq F q hq], l2⟩
 ·cases h1
theorem plq_parts (n mm : Nat) (xs : List Nat) (hh : Nat) (ys : List Nat) (q : Nat) : plq n mm xs hh ys q / 2 ^ wdF n mm = gt (plc (bitAt ys) hh) q - q ∧ plq n mm xs hh ys q % 2 ^ wdF n mm = numAt (wdF n mm) xs q := by
 unfold plq
 have h : numAt (wdF n mm) xs q < 2 ^ wdF n mm := numOf_lt _ _
 have hp := Nat.two_pow_pos (wdF n mm)
 rw [Nat.mul_comm, Nat.mul_add_div hp, Nat.mul_add_mod, Nat.mod_eq_of_lt h, Nat.div_eq_of_lt h]
 exact ⟨rfl, rfl⟩
theorem isIn_plc (f : Nat → Bool) (n j : Nat) : isIn (plc f n) j = (decide (j < n) && f j) := by
 rw [Bool.eq_iff_iff, mem_isIn, mem_plc, Bool.and_eq_true, decide_eq_true_eq]
theorem fits_ok (n mm kn vn hh : Nat) (LM : Int) (xs ys : List Nat) (fx : Fit xs) (fy : Fit ys) (F : Fits n mm kn vn LM xs hh ys) (G : Good n mm (plq n mm xs hh ys)) : kOk9 ⟨n, mm, kn, vn, LM, xs, hh, ys⟩ = true := by
 have hd : fdec n (wdF n mm) ((List.range kn).map (numAt vn xs)) (plc (bitAt ys) hh) mm = some ((List.range mm).map (plq n mm xs hh ys)) := by
  rw [fdec_some _ _ _ _ mm]
  ·congr 1
   refine List.map_congr_left fun q hq => ?_
   exact fpl_plq F q (List.mem_range.1 hq)
  ·intro q hq
   rw [fpl_plq F q hq]
   obtain ⟨g1, g2⟩ := G q hq
   refine ⟨g1, fun h0 => ?_⟩
   rw [fpl_plq F (q - 1) (by omega)]
   exact g2 h0
 have hrow : fRow ⟨n, mm, kn, vn, LM, xs, hh, ys⟩ = some ((List.range mm).map (plq n mm xs hh ys)) := by
  unfold fRow
  simp only [Int.toNat_natCast, F.on]
  rw [if_pos]
  ·exact hd
  ·refine ⟨⟨by omega, by have := F.hn; omega, by omega, by have := F.hm; omega⟩, F.ik, F.ck, trivial, ?_⟩
   by_cases c : wdF n mm = 0
   ·exact .inl c
   ·right
    rw [List.length_map, List.length_range, F.hk]
    unfold loN
    rw [if_neg c]
 unfold kOk9
 rw [hrow]
 simp only [Int.toNat_natCast]
 rw [fSame_iff]
 obtain ⟨l, hl⟩ : ∃ l, l = (List.range mm).map (plq n mm xs hh ys) := ⟨_, rfl⟩
 have ll : l.length = mm := by rw [hl]; simp
 have lg : ∀ q, q < mm → gt l q = plq n mm xs hh ys q := fun q hq => by rw [hl]; exact gt_rmap mm _ q hq
 rw [← hl]
 have RS := plc_rise (bitAt ys) hh
 have e_hi : hiP l (wdF n mm) = plc (bitAt ys) hh := by
  refine Bit.list_ext _ _ (by rw [length_hiP, ll, F.on]) fun i hi => ?_
  rw [length_hiP, ll] at hi
  rw [gt_hiP l _ i (by omega), lg i hi, (plq_parts n mm xs hh ys i).1]
  have := RS.step i 0 (by rw [F.on]; omega)
  rw [Nat.zero_add] at this
  omega
 obtain ⟨v1, v2, v3, v4, v5, v6, v7, v8⟩ := ichk_out _ _ _ _ F.ik
 have e_lo : (loP l (wdF n mm)).length = kn := by
  rw [F.hk]
  unfold loN
  by_cases c : wdF n mm = 0
  ·rw [if_pos c, c]; rfl
  ·rw [if_neg c, length_loP l _ (by omega), ll]
 have e_xs : mkS (loP l (wdF n mm)) vn kn = xs := by
  have hx := chk_row LM xs fx v5
  rw [hx]
  unfold mkS
  rw [e_lo, show LM.toNat = kn * vn by rw [← v4, ← Int.natCast_mul, Int.toNat_natCast]]
  refine rowOf_congr _ _ _ fun j hj => ?_
  rw [decide_eq_true hj, Bool.true_and]
  have hw : ¬ wdF n mm = 0 := fun c => by
   have h0 : kn = 0 := by rw [F.hk]; unfold loN; rw [if_pos c]
   rw [h0, Nat.zero_mul] at hj
   omega
  have e1 : vn = wdF n mm := by rw [F.hv]; omega
  have e2 : kn = mm := by rw [F.hk]; unfold loN; rw [if_neg hw]
  have hv0 : 0 < vn := by omega
  have hq : j / vn < mm := by rw [← e2]; exact (Nat.div_lt_iff_lt_mul hv0).2 hj
  have hmod : j % vn < vn := Nat.mod_lt _ hv0
  rw [gt_loP l _ _ (by omega) (by omega), lg _ hq, (plq_parts n mm xs hh ys _).2, ← e1]
  unfold numAt
  rw [testBit_numOf, decide_eq_true hmod, Bool.true_and, Nat.mul_comm, Nat.div_add_mod]
 unfold fOf
 simp only [FA.mk.injEq, ll]
 have hv : ((max (wdF n mm) 1 : Nat) : Int) = (vn : Int) := by rw [F.hv]
 have hv2 : max (wdF n mm) 1 = vn := F.hv.symm
 refine ⟨trivial, trivial, by rw [e_lo], hv.symm, ?_, ?_, ?_, ?_⟩
 ·rw [e_lo, hv, v4]
 ·rw [hv2, e_lo, e_xs]
 ·unfold hiN
  rw [ll, F.hh]
 ·rw [e_hi]
  have e3 : hiN l n (wdF n mm) = hh := by unfold hiN; rw [ll, F.hh]
  rw [e3]
  have hy := chk_row (hh : Int) ys fy F.ck
  rw [Int.toNat_natCast] at hy
  rw [rowOf_congr hh _ (bitAt ys) fun j hj => by rw [isIn_plc, decide_eq_true hj, Bool.true_and]]
  exact hy
end Go.Proofs.YtfnkklkdajlhlaaGreatDoor
namespace Go.Proofs.YtfnkklkdajlhlaaGreatDoor
open Go.RowKit Go.Shelf Num Bit
attribute [local go_sem] Oper.semAt_some
theorem Wd.blk {w : World} {ao : Option Addr} {xs : List Nat} (h : Wd w ao xs) {p : Addr} (hp : ao = some p) (h0 : 0 < xs.length) : p.block < w.heap.size := by
 obtain ⟨g, off, e, hg, _⟩ := h h0
 rw [e] at hp
 cases hp
 exact hg
theorem Cel.at {w : World} {b b' : Nat} {cs : List Value} {T : TypeId} (h : Cel w b cs T) (e : b = b') : Cel w b' cs T := e ▸ h
theorem Cel.put {w : World} {b D : Nat} {cs : List Value} {T : TypeId} (h : Cel w b cs T) (o : Obj) (e : b ≠ D) : Cel (w.putObj D o) b cs T := (World.putObj_heap_other e).trans h
theorem isIn_at {l : List Nat} {n : Nat} (hr : Rise l n) (i q : Nat) (hq : q < l.length) (h1 : ∀ j, j < q → gt l j < i) (h2 : i ≤ gt l q) : isIn l i = decide (gt l q = i) := by
 by_cases c : gt l q = i
 ·rw [decide_eq_true c, isIn_iff]
  exact ⟨q, hq, c⟩
 ·rw [decide_eq_false c]
  refine Bool.eq_false_iff.2 fun h => ?_
  obtain ⟨j, hj, e⟩ := (isIn_iff l i).1 h
  by_cases d : j < q
  ·have := h1 j d; omega
  ·by_cases e2 : j = q
   ·subst e2; exact c e
   ·have := hr.lt (show q < j by omega) hj; omega
theorem isIn_not {l : List Nat} (i : Nat) (h1 : ∀ j, j < l.length → gt l j < i) : isIn l i = false := by
 refine Bool.eq_false_iff.2 fun h => ?_
 obtain ⟨j, hj, e⟩ := (isIn_iff l i).1 h
 have := h1 j hj
 omega
theorem gisOne_c (n mm kn vn hh : Nat) (LM : Int) (ao : Option Addr) (xs : List Nat) (cap : Nat) (qo : Option Addr) (ys : List Nat) (dap : Nat) (l : List Nat) (w : World) (F : Fits n mm kn vn LM xs hh ys) (hx : Wd w ao xs) (fx : Fit xs) (hy : Wd w qo ys) (fy : Fit ys) (hl : l.length = mm) (hg : ∀ q, q < mm → plq n mm xs hh ys q = gt l q) (hr : Rise l n) (i : Nat) (hi : i ≤ 1048576) :
  Calls Tryz.prog 119 #[.agg #[.int .i64 (n : Nat), .int .i64 (mm : Nat), .int .i64 (kn : Nat), .int .i64 (vn : Nat), .int .i64 LM, .slice ao xs.length cap, .int .i64 (hh : Nat), .slice qo ys.length dap], .int .i64 i] w fun e w' => e = .returned (.bool (isIn l i)) ∧ Below w.heap.size w w' := by
 refine (callsIn_wide (n := 0)).1 (callsIn_of_wp_marks Tryz.func119 rfl trivial ?_)
 simp only [Tryz.ntmps119, List.size_toArray, List.length_cons, List.length_nil, Nat.reduceAdd, Nat.reduceSub, Array.replicate_succ, Array.replicate_zero, List.push_toArray, List.append_toArray, List.nil_append, List.cons_append]
 refine wpIn_wide.2 ?_
 have PC : Hid (∀ w0, Calls Tryz.prog 146 #[.agg #[.int .i64 (n : Nat), .int .i64 (mm : Nat), .int .i64 (kn : Nat), .int .i64 (vn : Nat), .int .i64 LM, .slice ao xs.length cap, .int .i64 (hh : Nat), .slice qo ys.length dap]] w0 fun e w' => e = .returned (.func (.func 189) #[] #[.pointer (some ⟨w0.heap.size, 0, none⟩), .pointer (some ⟨w0.heap.size + 1, 0, none⟩)]) ∧ Cel w' w0.heap.size [.int .i64 (n : Nat), .int .i64 (mm : Nat), .int .i64 (kn : Nat), .int .i64 (vn : Nat), .int .i64 LM, .slice ao xs.length cap, .int .i64 (hh : Nat), .slice qo ys.length dap] 43 ∧ Cel w' (w0.heap.size + 1) [.int .i64 (wdF n mm : Nat)] 3 ∧ w'.heap.size = w0.heap.size + 2 ∧ Below w0.heap.size w0 w') := fun w0 => gplaces_c n mm kn vn hh LM ao xs cap qo ys dap F.hn F.hm w0
 obtain ⟨W1, hW1⟩ : ∃ W1, W1 = ((w.alloc (.cells #[.int .i64 (n : Nat), .int .i64 (mm : Nat), .int .i64 (kn : Nat), .int .i64 (vn : Nat), .int .i64 LM, .slice ao xs.length cap, .int .i64 (hh : Nat), .slice qo ys.length dap] 43)).alloc (.cells #[.int .i64 (i : Nat)] 3)).alloc (.cells #[.bool false] 4) := ⟨_, rfl⟩
 have z1 : W1.heap.size = w.heap.size + 3 := by rw [hW1]; simp
 have b1 : Below w.heap.size w W1 := by rw [hW1]; exact (((below_alloc w _).alloc (by simp only [World.size_alloc]; omega) _).alloc (by simp only [World.size_alloc]; omega) _)
 have c0 : Cel W1 (w.heap.size + 0) [.int .i64 (n : Nat), .int .i64 (mm : Nat), .int .i64 (kn : Nat), .int .i64 (vn : Nat), .int .i64 LM, .slice ao xs.length cap, .int .i64 (hh : Nat), .slice qo ys.length dap] 43 := by rw [hW1]; exact ((((Cel.new _ _ _).alloc _).alloc _)).at (by simp)
 have c1 : Cel W1 (w.heap.size + 1) [.int .i64 (i : Nat)] 3 := by rw [hW1]; exact (((Cel.new _ _ _).alloc _)).at (by simp)
 have c2 : Cel W1 (w.heap.size + 2) [.bool false] 4 := by rw [hW1]; exact ((Cel.new _ _ _)).at (by simp)
 go_wp2_with fail
 rw [← hW1]
 clear hW1
 refine (PC.out _).mono ?_
 rintro e w' ⟨rfl, cx, cw, z2, b2⟩
 rw [z1] at cx cw z2
 rw [z1]
 have b3 : Below w.heap.size w w' := b1.trans (b2.mono b1.size)
 replace c0 := c0.kept b2
 replace c1 := c1.kept b2
 replace c2 := c2.kept b2
 go_wp2
 clear b1 b2 PC
 have G := (places1_goes n mm kn vn hh LM ao xs cap qo ys dap (fun b => b ≠ w.heap.size + 2 ∧ b ≠ w'.heap.size + 1) w' (w.heap.size + 3) (w.heap.size + 4) F (hx.keep b3) fx (hy.keep b3) fy cx cw (by omega) (by omega) (fun p hp h0 => by have := hx.blk hp h0; omega) (fun p hp h0 => by have := hy.blk hp h0; omega)).enc (enc' := fun q => #[.int .i64 q, .int .i64 (gt l q : Nat)]) (fun q hq => by rw [hg q hq])
 refine range_law (gf := 189) (lb := #[.pointer (some ⟨w.heap.size + 3, 0, none⟩), .pointer (some ⟨w.heap.size + 4, 0, none⟩)]) (K := fun b => b ≠ w.heap.size + 2) rfl (enters_of Tryz.func189 (by kernel_rfl) rfl) (fun _ => rfl) G (fun b hb => by omega)
  (fun q Wc => Kept (fun b => b ≠ w.heap.size + 2) w' Wc ∧ Cel Wc (w.heap.size + 2) [.bool false] 4 ∧ ∀ j, j < q → gt l j < i) (fun q Wc => Kept (fun b => b ≠ w.heap.size + 2) w' Wc ∧ Cel Wc (w.heap.size + 2) [.bool (isIn l i)] 4) (fun q A B h hb => ⟨h.1.more hb (Nat.le_refl _), h.2.1.keep hb (by omega), h.2.2⟩) (fun q A B h hb => ⟨h.1.more hb (Nat.le_refl _), h.2.keep hb (by omega)⟩) ⟨Kept.refl _ _, c2, fun j hj => absurd hj (by omega)⟩
  (fun q => { tmps := #[.agg #[.int .i64 (n : Nat), .int .i64 (mm : Nat), .int .i64 (kn : Nat), .int .i64 (vn : Nat), .int .i64 LM, .slice ao xs.length cap, .int .i64 (hh : Nat), .slice qo ys.length dap], .int .i64 (i : Nat), .pointer (some ⟨w.heap.size, 0, none⟩), .pointer (some ⟨w.heap.size + 1, 0, none⟩), .pointer (some ⟨w.heap.size + 2, 0, none⟩), undef, .int .i64 (gt l q : Nat), .agg #[.int .i64 (n : Nat), .int .i64 (mm : Nat), .int .i64 (kn : Nat), .int .i64 (vn : Nat), .int .i64 LM, .slice ao xs.length cap, .int .i64 (hh : Nat), .slice qo ys.length dap], .func (.func 189) #[] #[.pointer (some ⟨w.heap.size + 3, 0, none⟩), .pointer (some ⟨w.heap.size + 4, 0, none⟩)], .int .i64 (q : Nat), .int .i64 (gt l q : Nat), undef, undef, undef, undef, undef, undef], defers := [] }) ?assign ?body ?done ?stop
 case assign =>
  intro l1 q Wc K1 hK1
  gi_wp2
  exact hK1
 case body =>
  rintro l1 q Wc hq ⟨hk, cR, hlt⟩ hz
  have cI := (hk.cel c1 (by omega)).cell 0 rfl
  have r0 := cR.cell 0 rfl
  have r1 := cR.frozen 0
  clear G
  have HV := hide9' (isIn_at hr i q (by omega) hlt)
  by_cases hge : i ≤ gt l q
  ·have hge2 : (i : Int) ≤ (gt l q : Int) := by omega
   have HX : Hid (Kept (fun b => b ≠ w.heap.size + 2) Wc (Wc.setCell ⟨w.heap.size + 2, 0, none⟩ (.bool (isIn l i))) ∧ Kept (fun b => b ≠ w.heap.size + 2) w' (Wc.setCell ⟨w.heap.size + 2, 0, none⟩ (.bool (isIn l i))) ∧ Cel (Wc.setCell ⟨w.heap.size + 2, 0, none⟩ (.bool (isIn l i))) (w.heap.size + 2) [.bool (isIn l i)] 4) := ⟨(Kept.refl _ _).setCell (fun h => h rfl) _, hk.setCell (fun h => h rfl) _, cR.set 0 _⟩
   rw [HV.out hge] at HX
   rw [show decide (gt l q = i) = ((gt l q : Int) == (i : Int)) by rw [Bool.eq_iff_iff]; simp; omega] at HX
   gi_wp2
   refine ⟨HX.out.1, HX.out.2.1, ?_⟩
   rw [HV.out hge, show decide (gt l q = i) = ((gt l q : Int) == (i : Int)) by rw [Bool.eq_iff_iff]; simp; omega]
   exact HX.out.2.2
  ·have hge2 : ¬ (i : Int) ≤ (gt l q : Int) := by omega
   gi_wp2
   exact ⟨Kept.refl _ _, hk, cR, fun j hj => by
    by_cases e : j = q
    ·subst e; omega
    ·exact hlt j (by omega)⟩
 case done =>
  rintro D Wc hD ⟨hk, cR, hlt⟩ hd
  have r0 := cR.cell 0 rfl
  have r1 := cR.frozen 0
  have hB := hide9' ((hk.below (B := w.heap.size) (fun x h => by omega) (by omega)))
  have HE := hide9' (isIn_not (l := l) i (fun j hj => hlt j (by omega)))
  have hb := hide9' (hB.out.setCell (p := ⟨w.heap.size + 2, 0, none⟩) (show w.heap.size ≤ w.heap.size + 2 by omega) (.bool false))
  have cS := hide9' (cR.set 0 (.bool false))
  have hd2 := hide9' ((Below.heap_setCell Wc ⟨w.heap.size + 2, 0, none⟩ (.bool false) D (show D ≠ w.heap.size + 2 by omega)).trans hd)
  clear hd hk
  go_wp2
  have cR2 := (cS.out.put (.deferred none) (show w.heap.size + 2 ≠ D by omega)).cell 0 rfl
  exact marks_ret hd2.out (v := .bool (isIn l i)) (by rw [HE.out]; simp [results, Tryz.results119, go_sem, cR2]) ⟨rfl, b3.trans (hb.out.trans (below_putObj (by omega) _))⟩
 case stop =>
  rintro D q Wc hD hq ⟨hk, cR⟩ hd
  go_wp2
  have cR2 := (cR.put (.deferred none) (show w.heap.size + 2 ≠ D by omega)).cell 0 rfl
  exact marks_ret hd (v := .bool (isIn l i)) (by simp [results, Tryz.results119, go_sem, cR2]) ⟨rfl, b3.trans ((hk.below (fun x h => by omega) (by omega)).trans (below_putObj (by omega) _))⟩
structure Cut (l : List Nat) (i c : Nat) : Prop where
 le : c ≤ l.length
 lo : ∀ j, j < c → gt l j < i
 hi : ∀ j, c ≤ j → j < l.length → i ≤ gt l j
theorem Cut.eq {l : List Nat} {i c q : Nat} (h : Cut l i c) (hq : q ≤ l.length) (h1 : ∀ j, j < q → gt l j < i) (h2 : q < l.length → i ≤ gt l q) : c = q := by
 by_cases a : c < q
 ·have := h1 c a
  have := h.hi c (Nat.le_refl _) (by omega)
  omega
 ·by_cases b : q < c
  ·have := h.lo q b
   have := h.le
   have := h2 (by omega)
   omega
  ·omega
theorem gones_c (n mm kn vn hh : Nat) (LM : Int) (ao : Option Addr) (xs : List Nat) (cap : Nat) (qo : Option Addr) (ys : List Nat) (dap : Nat) (l : List Nat) (w : World) (F : Fits n mm kn vn LM xs hh ys) (hx : Wd w ao xs) (fx : Fit xs) (hy : Wd w qo ys) (fy : Fit ys) (hl : l.length = mm) (hg : ∀ q, q < mm → plq n mm xs hh ys q = gt l q) (hr : Rise l n) (i : Nat) (hi : i ≤ 1048576) (c : Nat) (hc : Cut l i c) :
  Calls Tryz.prog 176 #[.agg #[.int .i64 (n : Nat), .int .i64 (mm : Nat), .int .i64 (kn : Nat), .int .i64 (vn : Nat), .int .i64 LM, .slice ao xs.length cap, .int .i64 (hh : Nat), .slice qo ys.length dap], .int .i64 i] w fun e w' => e = .returned (.int .i64 c) ∧ Below w.heap.size w w' := by
 refine (callsIn_wide (n := 0)).1 (callsIn_of_wp_marks Tryz.func176 rfl trivial ?_)
 simp only [Tryz.ntmps176, List.size_toArray, List.length_cons, List.length_nil, Nat.reduceAdd, Nat.reduceSub, Array.replicate_succ, Array.replicate_zero, List.push_toArray, List.append_toArray, List.nil_append, List.cons_append]
 refine wpIn_wide.2 ?_
 have PC : Hid (∀ w0, Calls Tryz.prog 146 #[.agg #[.int .i64 (n : Nat), .int .i64 (mm : Nat), .int .i64 (kn : Nat), .int .i64 (vn : Nat), .int .i64 LM, .slice ao xs.length cap, .int .i64 (hh : Nat), .slice qo ys.length dap]] w0 fun e w' => e = .returned (.func (.func 189) #[] #[.pointer (some ⟨w0.heap.size, 0, none⟩), .pointer (some ⟨w0.heap.size + 1, 0, none⟩)]) ∧ Cel w' w0.heap.size [.int .i64 (n : Nat), .int .i64 (mm : Nat), .int .i64 (kn : Nat), .int .i64 (vn : Nat), .int .i64 LM, .slice ao xs.length cap, .int .i64 (hh : Nat), .slice qo ys.length dap] 43 ∧ Cel w' (w0.heap.size + 1) [.int .i64 (wdF n mm : Nat)] 3 ∧ w'.heap.size = w0.heap.size + 2 ∧ Below w0.heap.size w0 w') := fun w0 => gplaces_c n mm kn vn hh LM ao xs cap qo ys dap F.hn F.hm w0
 obtain ⟨W1, hW1⟩ : ∃ W1, W1 = ((w.alloc (.cells #[.int .i64 (n : Nat), .int .i64 (mm : Nat), .int .i64 (kn : Nat), .int .i64 (vn : Nat), .int .i64 LM, .slice ao xs.length cap, .int .i64 (hh : Nat), .slice qo ys.length dap] 43)).alloc (.cells #[.int .i64 (i : Nat)] 3)).alloc (.cells #[.int .i64 0] 3) := ⟨_, rfl⟩
 have z1 : W1.heap.size = w.heap.size + 3 := by rw [hW1]; simp
 have b1 : Below w.heap.size w W1 := by rw [hW1]; exact (((below_alloc w _).alloc (by simp only [World.size_alloc]; omega) _).alloc (by simp only [World.size_alloc]; omega) _)
 have c0 : Cel W1 (w.heap.size + 0) [.int .i64 (n : Nat), .int .i64 (mm : Nat), .int .i64 (kn : Nat), .int .i64 (vn : Nat), .int .i64 LM, .slice ao xs.length cap, .int .i64 (hh : Nat), .slice qo ys.length dap] 43 := by rw [hW1]; exact ((((Cel.new _ _ _).alloc _).alloc _)).at (by simp)
 have c1 : Cel W1 (w.heap.size + 1) [.int .i64 (i : Nat)] 3 := by rw [hW1]; exact (((Cel.new _ _ _).alloc _)).at (by simp)
 have c2 : Cel W1 (w.heap.size + 2) [.int .i64 0] 3 := by rw [hW1]; exact ((Cel.new _ _ _)).at (by simp)
 go_wp2_with fail
 rw [← hW1]
 clear hW1
 refine (PC.out _).mono ?_
 rintro e w' ⟨rfl, cx, cw, z2, b2⟩
 rw [z1] at cx cw z2
 rw [z1]
 have b3 : Below w.heap.size w w' := b1.trans (b2.mono b1.size)
 replace c0 := c0.kept b2
 replace c1 := c1.kept b2
 replace c2 := c2.kept b2
 go_wp2
 clear b1 b2 PC
 have G := (places1_goes n mm kn vn hh LM ao xs cap qo ys dap (fun b => b ≠ w.heap.size + 2 ∧ b ≠ w'.heap.size + 1) w' (w.heap.size + 3) (w.heap.size + 4) F (hx.keep b3) fx (hy.keep b3) fy cx cw (by omega) (by omega) (fun p hp h0 => by have := hx.blk hp h0; omega) (fun p hp h0 => by have := hy.blk hp h0; omega)).enc (enc' := fun q => #[.int .i64 q, .int .i64 (gt l q : Nat)]) (fun q hq => by rw [hg q hq])
 refine range_law (gf := 189) (lb := #[.pointer (some ⟨w.heap.size + 3, 0, none⟩), .pointer (some ⟨w.heap.size + 4, 0, none⟩)]) (K := fun b => b ≠ w.heap.size + 2) rfl (enters_of Tryz.func189 (by kernel_rfl) rfl) (fun _ => rfl) G (fun b hb => by omega)
  (fun q Wc => Kept (fun b => b ≠ w.heap.size + 2) w' Wc ∧ Cel Wc (w.heap.size + 2) [.int .i64 0] 3 ∧ ∀ j, j < q → gt l j < i) (fun q Wc => Kept (fun b => b ≠ w.heap.size + 2) w' Wc ∧ Cel Wc (w.heap.size + 2) [.int .i64 (c : Nat)] 3) (fun q A B h hb => ⟨h.1.more hb (Nat.le_refl _), h.2.1.keep hb (by omega), h.2.2⟩) (fun q A B h hb => ⟨h.1.more hb (Nat.le_refl _), h.2.keep hb (by omega)⟩) ⟨Kept.refl _ _, c2, fun j hj => absurd hj (by omega)⟩
  (fun q => { tmps := #[.agg #[.int .i64 (n : Nat), .int .i64 (mm : Nat), .int .i64 (kn : Nat), .int .i64 (vn : Nat), .int .i64 LM, .slice ao xs.length cap, .int .i64 (hh : Nat), .slice qo ys.length dap], .int .i64 (i : Nat), .pointer (some ⟨w.heap.size, 0, none⟩), .pointer (some ⟨w.heap.size + 1, 0, none⟩), .pointer (some ⟨w.heap.size + 2, 0, none⟩), .int .i64 (q : Nat), .int .i64 (gt l q : Nat), .agg #[.int .i64 (n : Nat), .int .i64 (mm : Nat), .int .i64 (kn : Nat), .int .i64 (vn : Nat), .int .i64 LM, .slice ao xs.length cap, .int .i64 (hh : Nat), .slice qo ys.length dap], .func (.func 189) #[] #[.pointer (some ⟨w.heap.size + 3, 0, none⟩), .pointer (some ⟨w.heap.size + 4, 0, none⟩)], .int .i64 (q : Nat), .int .i64 (gt l q : Nat), undef, undef, undef, undef, undef, undef], defers := [] }) ?assign ?body ?done ?stop
 case assign =>
  intro l1 q Wc K1 hK1
  gi_wp2
  exact hK1
 case body =>
  rintro l1 q Wc hq ⟨hk, cR, hlt⟩ hz
  have cI := (hk.cel c1 (by omega)).cell 0 rfl
  have r0 := cR.cell 0 rfl
  have r1 := cR.frozen 0
  clear G
  by_cases hge : i ≤ gt l q
  ·have hge2 : (i : Int) ≤ (gt l q : Int) := by omega
   obtain rfl : c = q := hc.eq (by omega) hlt (fun _ => hge)
   have HX : Hid (Kept (fun b => b ≠ w.heap.size + 2) Wc (Wc.setCell ⟨w.heap.size + 2, 0, none⟩ (.int .i64 (c : Nat))) ∧ Kept (fun b => b ≠ w.heap.size + 2) w' (Wc.setCell ⟨w.heap.size + 2, 0, none⟩ (.int .i64 (c : Nat))) ∧ Cel (Wc.setCell ⟨w.heap.size + 2, 0, none⟩ (.int .i64 (c : Nat))) (w.heap.size + 2) [.int .i64 (c : Nat)] 3) := ⟨(Kept.refl _ _).setCell (fun h => h rfl) _, hk.setCell (fun h => h rfl) _, cR.set 0 _⟩
   gi_wp2
   exact HX.out
  ·have hge2 : ¬ (i : Int) ≤ (gt l q : Int) := by omega
   gi_wp2
   exact ⟨Kept.refl _ _, hk, cR, fun j hj => by
    by_cases e : j = q
    ·subst e; omega
    ·exact hlt j (by omega)⟩
 case done =>
  rintro D Wc hD ⟨hk, cR, hlt⟩ hd
  have r0 := cR.cell 0 rfl
  have r1 := cR.frozen 0
  have hB := hide9' ((hk.below (B := w.heap.size) (fun x h => by omega) (by omega)))
  have HE := hide9' (hc.eq (q := mm) (by omega) hlt (fun h => absurd h (by omega)))
  have m1 := (hk.cel c0 (by omega)).cell 1 rfl
  rw [Nat.add_zero] at m1
  have hb := hide9' (hB.out.setCell (p := ⟨w.heap.size + 2, 0, none⟩) (show w.heap.size ≤ w.heap.size + 2 by omega) (.int .i64 (mm : Nat)))
  have cS := hide9' (cR.set 0 (.int .i64 (mm : Nat)))
  have hd2 := hide9' ((Below.heap_setCell Wc ⟨w.heap.size + 2, 0, none⟩ (.int .i64 (mm : Nat)) D (show D ≠ w.heap.size + 2 by omega)).trans hd)
  clear hd hk
  go_wp2
  have cR2 := (cS.out.put (.deferred none) (show w.heap.size + 2 ≠ D by omega)).cell 0 rfl
  exact marks_ret hd2.out (v := .int .i64 (mm : Nat)) (by simp [results, Tryz.results176, go_sem, cR2]) ⟨by rw [HE.out], b3.trans (hb.out.trans (below_putObj (by omega) _))⟩
 case stop =>
  rintro D q Wc hD hq ⟨hk, cR⟩ hd
  go_wp2
  have cR2 := (cR.put (.deferred none) (show w.heap.size + 2 ≠ D by omega)).cell 0 rfl
  exact marks_ret hd (v := .int .i64 (c : Nat)) (by simp [results, Tryz.results176, go_sem, cR2]) ⟨rfl, b3.trans ((hk.below (fun x h => by omega) (by omega)).trans (below_putObj (by omega) _))⟩
structure CutZ (l : List Nat) (k c : Nat) : Prop where
 le : c ≤ l.length
 lo : ∀ j, j < c → gt l j - j ≤ k
 hi : c < l.length → k < gt l c - c
theorem CutZ.eq {l : List Nat} {k c q : Nat} (h : CutZ l k c) (hq : q ≤ l.length) (h1 : ∀ j, j < q → gt l j - j ≤ k) (h2 : q < l.length → k < gt l q - q) : c = q := by
 by_cases a : c < q
 ·have := h1 c a
  have := h.hi (by omega)
  omega
 ·by_cases b : q < c
  ·have := h.lo q b
   have := h.le
   have := h2 (by omega)
   omega
  ·omega
theorem gsought1_c (n mm kn vn hh : Nat) (LM : Int) (ao : Option Addr) (xs : List Nat) (cap : Nat) (qo : Option Addr) (ys : List Nat) (dap : Nat) (l : List Nat) (w : World) (F : Fits n mm kn vn LM xs hh ys) (hx : Wd w ao xs) (fx : Fit xs) (hy : Wd w qo ys) (fy : Fit ys) (hl : l.length = mm) (hg : ∀ q, q < mm → plq n mm xs hh ys q = gt l q) (hr : Rise l n) (k : Nat) (hk0 : k < mm) :
  Calls Tryz.prog 138 #[.agg #[.int .i64 (n : Nat), .int .i64 (mm : Nat), .int .i64 (kn : Nat), .int .i64 (vn : Nat), .int .i64 LM, .slice ao xs.length cap, .int .i64 (hh : Nat), .slice qo ys.length dap], .bool true, .int .i64 k] w fun e w' => e = .returned (.int .i64 (gt l k : Nat)) ∧ Below w.heap.size w w' := by
 have nl := F.hn
 have ml := F.hm
 refine (callsIn_wide (n := 0)).1 (callsIn_of_wp_marks Tryz.func138 rfl trivial ?_)
 simp only [Tryz.ntmps138, List.size_toArray, List.length_cons, List.length_nil, Nat.reduceAdd, Nat.reduceSub, Array.replicate_succ, Array.replicate_zero, List.push_toArray, List.append_toArray, List.nil_append, List.cons_append]
 refine wpIn_wide.2 ?_
 have PC : Hid (∀ w0, Calls Tryz.prog 146 #[.agg #[.int .i64 (n : Nat), .int .i64 (mm : Nat), .int .i64 (kn : Nat), .int .i64 (vn : Nat), .int .i64 LM, .slice ao xs.length cap, .int .i64 (hh : Nat), .slice qo ys.length dap]] w0 fun e w' => e = .returned (.func (.func 189) #[] #[.pointer (some ⟨w0.heap.size, 0, none⟩), .pointer (some ⟨w0.heap.size + 1, 0, none⟩)]) ∧ Cel w' w0.heap.size [.int .i64 (n : Nat), .int .i64 (mm : Nat), .int .i64 (kn : Nat), .int .i64 (vn : Nat), .int .i64 LM, .slice ao xs.length cap, .int .i64 (hh : Nat), .slice qo ys.length dap] 43 ∧ Cel w' (w0.heap.size + 1) [.int .i64 (wdF n mm : Nat)] 3 ∧ w'.heap.size = w0.heap.size + 2 ∧ Below w0.heap.size w0 w') := fun w0 => gplaces_c n mm kn vn hh LM ao xs cap qo ys dap F.hn F.hm w0
 obtain ⟨W1, hW1⟩ : ∃ W1, W1 = (((w.alloc (.cells #[.int .i64 (n : Nat), .int .i64 (mm : Nat), .int .i64 (kn : Nat), .int .i64 (vn : Nat), .int .i64 LM, .slice ao xs.length cap, .int .i64 (hh : Nat), .slice qo ys.length dap] 43)).alloc (.cells #[.bool true] 4)).alloc (.cells #[.int .i64 (k : Nat)] 3)).alloc (.cells #[.int .i64 0] 3) := ⟨_, rfl⟩
 have z1 : W1.heap.size = w.heap.size + 4 := by rw [hW1]; simp
 have b1 : Below w.heap.size w W1 := by rw [hW1]; exact ((((below_alloc w _).alloc (by simp only [World.size_alloc]; omega) _).alloc (by simp only [World.size_alloc]; omega) _).alloc (by simp only [World.size_alloc]; omega) _)
 have c0 : Cel W1 (w.heap.size + 0) [.int .i64 (n : Nat), .int .i64 (mm : Nat), .int .i64 (kn : Nat), .int .i64 (vn : Nat), .int .i64 LM, .slice ao xs.length cap, .int .i64 (hh : Nat), .slice qo ys.length dap] 43 := by rw [hW1]; exact (((((Cel.new _ _ _).alloc _).alloc _).alloc _)).at (by simp)
 have c1 : Cel W1 (w.heap.size + 1) [.bool true] 4 := by rw [hW1]; exact ((((Cel.new _ _ _).alloc _).alloc _)).at (by simp)
 have c2 : Cel W1 (w.heap.size + 2) [.int .i64 (k : Nat)] 3 := by rw [hW1]; exact (((Cel.new _ _ _).alloc _)).at (by simp)
 have c3 : Cel W1 (w.heap.size + 3) [.int .i64 0] 3 := by rw [hW1]; exact ((Cel.new _ _ _)).at (by simp)
 go_wp2_with fail
 rw [← hW1]
 clear hW1
 refine (PC.out _).mono ?_
 rintro e w' ⟨rfl, cx, cw, z2, b2⟩
 rw [z1] at cx cw z2
 rw [z1]
 have b3 : Below w.heap.size w w' := b1.trans (b2.mono b1.size)
 replace c0 := c0.kept b2
 replace c1 := c1.kept b2
 replace c2 := c2.kept b2
 replace c3 := c3.kept b2
 go_wp2
 clear b1 b2 PC
 have G := (places1_goes n mm kn vn hh LM ao xs cap qo ys dap (fun b => b ≠ w.heap.size + 3 ∧ b ≠ w'.heap.size + 1) w' (w.heap.size + 4) (w.heap.size + 5) F (hx.keep b3) fx (hy.keep b3) fy cx cw (by omega) (by omega) (fun p hp h0 => by have := hx.blk hp h0; omega) (fun p hp h0 => by have := hy.blk hp h0; omega)).enc (enc' := fun q => #[.int .i64 q, .int .i64 (gt l q : Nat)]) (fun q hq => by rw [hg q hq])
 refine range_law (gf := 189) (lb := #[.pointer (some ⟨w.heap.size + 4, 0, none⟩), .pointer (some ⟨w.heap.size + 5, 0, none⟩)]) (K := fun b => b ≠ w.heap.size + 3) rfl (enters_of Tryz.func189 (by kernel_rfl) rfl) (fun _ => rfl) G (fun b hb => by omega)
  (fun q Wc => Kept (fun b => b ≠ w.heap.size + 3) w' Wc ∧ Cel Wc (w.heap.size + 3) [.int .i64 0] 3 ∧ (q ≤ k)) (fun q Wc => Kept (fun b => b ≠ w.heap.size + 3) w' Wc ∧ Cel Wc (w.heap.size + 3) [.int .i64 (gt l k : Nat)] 3) (fun q A B h hb => ⟨h.1.more hb (Nat.le_refl _), h.2.1.keep hb (by omega), h.2.2⟩) (fun q A B h hb => ⟨h.1.more hb (Nat.le_refl _), h.2.keep hb (by omega)⟩) ⟨Kept.refl _ _, c3, by omega⟩
  (fun q => { tmps := #[.agg #[.int .i64 (n : Nat), .int .i64 (mm : Nat), .int .i64 (kn : Nat), .int .i64 (vn : Nat), .int .i64 LM, .slice ao xs.length cap, .int .i64 (hh : Nat), .slice qo ys.length dap], .bool true, .int .i64 (k : Nat), .pointer (some ⟨w.heap.size, 0, none⟩), .pointer (some ⟨w.heap.size + 1, 0, none⟩), .pointer (some ⟨w.heap.size + 2, 0, none⟩), .pointer (some ⟨w.heap.size + 3, 0, none⟩), .int .i64 (q : Nat), .int .i64 (gt l q : Nat), .agg #[.int .i64 (n : Nat), .int .i64 (mm : Nat), .int .i64 (kn : Nat), .int .i64 (vn : Nat), .int .i64 LM, .slice ao xs.length cap, .int .i64 (hh : Nat), .slice qo ys.length dap], .func (.func 189) #[] #[.pointer (some ⟨w.heap.size + 4, 0, none⟩), .pointer (some ⟨w.heap.size + 5, 0, none⟩)], .int .i64 (q : Nat), .int .i64 (gt l q : Nat), undef, undef, undef, undef, undef, undef, undef, undef, undef, undef, undef, undef, undef, undef, undef, undef, undef, undef, undef, undef, undef, undef, undef], defers := [] }) ?assign ?body ?done ?stop
 case assign =>
  intro l1 q Wc K1 hK1
  gi_wp2
  exact hK1
 case body =>
  rintro l1 q Wc hq ⟨hk, cR, hlt⟩ hz
  have cI := (hk.cel c1 (by omega)).cell 0 rfl
  have cJ := (hk.cel c2 (by omega)).cell 0 rfl
  have r0 := cR.cell 0 rfl
  have r1 := cR.frozen 0
  clear G
  by_cases hge : q = k
  ·have hge2 : ((q : Int) == (k : Int)) = true := by simp; omega
   obtain rfl := hge
   have HX : Hid (Kept (fun b => b ≠ w.heap.size + 3) Wc (Wc.setCell ⟨w.heap.size + 3, 0, none⟩ (.int .i64 (gt l q : Nat))) ∧ Kept (fun b => b ≠ w.heap.size + 3) w' (Wc.setCell ⟨w.heap.size + 3, 0, none⟩ (.int .i64 (gt l q : Nat))) ∧ Cel (Wc.setCell ⟨w.heap.size + 3, 0, none⟩ (.int .i64 (gt l q : Nat))) (w.heap.size + 3) [.int .i64 (gt l q : Nat)] 3) := ⟨(Kept.refl _ _).setCell (fun h => h rfl) _, hk.setCell (fun h => h rfl) _, cR.set 0 _⟩
   gi_wp2
   exact HX.out
  ·have hge2 : ((q : Int) == (k : Int)) = false := by simp; omega
   gi_wp2
   exact ⟨Kept.refl _ _, hk, cR, by omega⟩
 case done =>
  rintro D Wc hD ⟨hk, cR, hlt⟩ hd
  exact absurd hk0 (by omega)
 case stop =>
  rintro D q Wc hD hq ⟨hk, cR⟩ hd
  go_wp2
  have cR2 := (cR.put (.deferred none) (show w.heap.size + 3 ≠ D by omega)).cell 0 rfl
  exact marks_ret hd (v := .int .i64 (gt l k : Nat)) (by simp [results, Tryz.results138, go_sem, cR2]) ⟨rfl, b3.trans ((hk.below (fun x h => by omega) (by omega)).trans (below_putObj (by omega) _))⟩
theorem gsought0_c (n mm kn vn hh : Nat) (LM : Int) (ao : Option Addr) (xs : List Nat) (cap : Nat) (qo : Option Addr) (ys : List Nat) (dap : Nat) (l : List Nat) (w : World) (F : Fits n mm kn vn LM xs hh ys) (hx : Wd w ao xs) (fx : Fit xs) (hy : Wd w qo ys) (fy : Fit ys) (hl : l.length = mm) (hg : ∀ q, q < mm → plq n mm xs hh ys q = gt l q) (hr : Rise l n) (k : Nat) (hkn : k ≤ 1048576) (c : Nat) (hc : CutZ l k c) :
  Calls Tryz.prog 138 #[.agg #[.int .i64 (n : Nat), .int .i64 (mm : Nat), .int .i64 (kn : Nat), .int .i64 (vn : Nat), .int .i64 LM, .slice ao xs.length cap, .int .i64 (hh : Nat), .slice qo ys.length dap], .bool false, .int .i64 k] w fun e w' => e = .returned (.int .i64 ((k + c : Nat) : Int)) ∧ Below w.heap.size w w' := by
 have nl := F.hn
 have ml := F.hm
 refine (callsIn_wide (n := 0)).1 (callsIn_of_wp_marks Tryz.func138 rfl trivial ?_)
 simp only [Tryz.ntmps138, List.size_toArray, List.length_cons, List.length_nil, Nat.reduceAdd, Nat.reduceSub, Array.replicate_succ, Array.replicate_zero, List.push_toArray, List.append_toArray, List.nil_append, List.cons_append]
 refine wpIn_wide.2 ?_
 have PC : Hid (∀ w0, Calls Tryz.prog 146 #[.agg #[.int .i64 (n : Nat), .int .i64 (mm : Nat), .int .i64 (kn : Nat), .int .i64 (vn : Nat), .int .i64 LM, .slice ao xs.length cap, .int .i64 (hh : Nat), .slice qo ys.length dap]] w0 fun e w' => e = .returned (.func (.func 189) #[] #[.pointer (some ⟨w0.heap.size, 0, none⟩), .pointer (some ⟨w0.heap.size + 1, 0, none⟩)]) ∧ Cel w' w0.heap.size [.int .i64 (n : Nat), .int .i64 (mm : Nat), .int .i64 (kn : Nat), .int .i64 (vn : Nat), .int .i64 LM, .slice ao xs.length cap, .int .i64 (hh : Nat), .slice qo ys.length dap] 43 ∧ Cel w' (w0.heap.size + 1) [.int .i64 (wdF n mm : Nat)] 3 ∧ w'.heap.size = w0.heap.size + 2 ∧ Below w0.heap.size w0 w') := fun w0 => gplaces_c n mm kn vn hh LM ao xs cap qo ys dap F.hn F.hm w0
 obtain ⟨W1, hW1⟩ : ∃ W1, W1 = (((w.alloc (.cells #[.int .i64 (n : Nat), .int .i64 (mm : Nat), .int .i64 (kn : Nat), .int .i64 (vn : Nat), .int .i64 LM, .slice ao xs.length cap, .int .i64 (hh : Nat), .slice qo ys.length dap] 43)).alloc (.cells #[.bool false] 4)).alloc (.cells #[.int .i64 (k : Nat)] 3)).alloc (.cells #[.int .i64 0] 3) := ⟨_, rfl⟩
 have z1 : W1.heap.size = w.heap.size + 4 := by rw [hW1]; simp
 have b1 : Below w.heap.size w W1 := by rw [hW1]; exact ((((below_alloc w _).alloc (by simp only [World.size_alloc]; omega) _).alloc (by simp only [World.size_alloc]; omega) _).alloc (by simp only [World.size_alloc]; omega) _)
 have c0 : Cel W1 (w.heap.size + 0) [.int .i64 (n : Nat), .int .i64 (mm : Nat), .int .i64 (kn : Nat), .int .i64 (vn : Nat), .int .i64 LM, .slice ao xs.length cap, .int .i64 (hh : Nat), .slice qo ys.length dap] 43 := by rw [hW1]; exact (((((Cel.new _ _ _).alloc _).alloc _).alloc _)).at (by simp)
 have c1 : Cel W1 (w.heap.size + 1) [.bool false] 4 := by rw [hW1]; exact ((((Cel.new _ _ _).alloc _).alloc _)).at (by simp)
 have c2 : Cel W1 (w.heap.size + 2) [.int .i64 (k : Nat)] 3 := by rw [hW1]; exact (((Cel.new _ _ _).alloc _)).at (by simp)
 have c3 : Cel W1 (w.heap.size + 3) [.int .i64 0] 3 := by rw [hW1]; exact ((Cel.new _ _ _)).at (by simp)
 go_wp2_with fail
 rw [← hW1]
 clear hW1
 refine (PC.out _).mono ?_
 rintro e w' ⟨rfl, cx, cw, z2, b2⟩
 rw [z1] at cx cw z2
 rw [z1]
 have b3 : Below w.heap.size w w' := b1.trans (b2.mono b1.size)
 replace c0 := c0.kept b2
 replace c1 := c1.kept b2
 replace c2 := c2.kept b2
 replace c3 := c3.kept b2
 go_wp2
 clear b1 b2 PC
 have G := (places1_goes n mm kn vn hh LM ao xs cap qo ys dap (fun b => b ≠ w.heap.size + 3 ∧ b ≠ w'.heap.size + 1) w' (w.heap.size + 4) (w.heap.size + 5) F (hx.keep b3) fx (hy.keep b3) fy cx cw (by omega) (by omega) (fun p hp h0 => by have := hx.blk hp h0; omega) (fun p hp h0 => by have := hy.blk hp h0; omega)).enc (enc' := fun q => #[.int .i64 q, .int .i64 (gt l q : Nat)]) (fun q hq => by rw [hg q hq])
 refine range_law (gf := 189) (lb := #[.pointer (some ⟨w.heap.size + 4, 0, none⟩), .pointer (some ⟨w.heap.size + 5, 0, none⟩)]) (K := fun b => b ≠ w.heap.size + 3) rfl (enters_of Tryz.func189 (by kernel_rfl) rfl) (fun _ => rfl) G (fun b hb => by omega)
  (fun q Wc => Kept (fun b => b ≠ w.heap.size + 3) w' Wc ∧ Cel Wc (w.heap.size + 3) [.int .i64 0] 3 ∧ (∀ j, j < q → gt l j - j ≤ k)) (fun q Wc => Kept (fun b => b ≠ w.heap.size + 3) w' Wc ∧ Cel Wc (w.heap.size + 3) [.int .i64 ((k + c : Nat) : Int)] 3) (fun q A B h hb => ⟨h.1.more hb (Nat.le_refl _), h.2.1.keep hb (by omega), h.2.2⟩) (fun q A B h hb => ⟨h.1.more hb (Nat.le_refl _), h.2.keep hb (by omega)⟩) ⟨Kept.refl _ _, c3, fun j hj => absurd hj (by omega)⟩
  (fun q => { tmps := #[.agg #[.int .i64 (n : Nat), .int .i64 (mm : Nat), .int .i64 (kn : Nat), .int .i64 (vn : Nat), .int .i64 LM, .slice ao xs.length cap, .int .i64 (hh : Nat), .slice qo ys.length dap], .bool false, .int .i64 (k : Nat), .pointer (some ⟨w.heap.size, 0, none⟩), .pointer (some ⟨w.heap.size + 1, 0, none⟩), .pointer (some ⟨w.heap.size + 2, 0, none⟩), .pointer (some ⟨w.heap.size + 3, 0, none⟩), .int .i64 (q : Nat), .int .i64 (gt l q : Nat), .agg #[.int .i64 (n : Nat), .int .i64 (mm : Nat), .int .i64 (kn : Nat), .int .i64 (vn : Nat), .int .i64 LM, .slice ao xs.length cap, .int .i64 (hh : Nat), .slice qo ys.length dap], .func (.func 189) #[] #[.pointer (some ⟨w.heap.size + 4, 0, none⟩), .pointer (some ⟨w.heap.size + 5, 0, none⟩)], .int .i64 (q : Nat), .int .i64 (gt l q : Nat), undef, undef, undef, undef, undef, undef, undef, undef, undef, undef, undef, undef, undef, undef, undef, undef, undef, undef, undef, undef, undef, undef, undef], defers := [] }) ?assign ?body ?done ?stop
 case assign =>
  intro l1 q Wc K1 hK1
  gi_wp2
  exact hK1
 case body =>
  rintro l1 q Wc hq ⟨hk, cR, hlt⟩ hz
  have cI := (hk.cel c1 (by omega)).cell 0 rfl
  have cJ := (hk.cel c2 (by omega)).cell 0 rfl
  have r0 := cR.cell 0 rfl
  have r1 := cR.frozen 0
  clear G
  have hst := hr.step q 0 (by omega)
  rw [Nat.zero_add] at hst
  have hln := hr.1 q (by omega)
  obtain ⟨d, hd⟩ : ∃ d, Hid (d = gt l q - q) := ⟨_, rfl⟩
  have hd2 : (gt l q : Int) - (q : Int) = (d : Int) := by rw [hd.out]; omega
  have dl : d ≤ 1048576 := by rw [hd.out]; omega
  by_cases hge : k < d
  ·have hge2 : (k : Int) < (d : Int) := by omega
   obtain rfl : c = q := hc.eq (by omega) hlt (fun _ => by rw [← hd.out]; exact hge)
   have HX : Hid (Kept (fun b => b ≠ w.heap.size + 3) Wc (Wc.setCell ⟨w.heap.size + 3, 0, none⟩ (.int .i64 ((k + c : Nat) : Int))) ∧ Kept (fun b => b ≠ w.heap.size + 3) w' (Wc.setCell ⟨w.heap.size + 3, 0, none⟩ (.int .i64 ((k + c : Nat) : Int))) ∧ Cel (Wc.setCell ⟨w.heap.size + 3, 0, none⟩ (.int .i64 ((k + c : Nat) : Int))) (w.heap.size + 3) [.int .i64 ((k + c : Nat) : Int)] 3) := ⟨(Kept.refl _ _).setCell (fun h => h rfl) _, hk.setCell (fun h => h rfl) _, cR.set 0 _⟩
   have c20 : c ≤ 1048576 := by omega
   rw [show ((k + c : Nat) : Int) = (k : Int) + (c : Int) by omega] at HX ⊢
   clear hst hln
   gi_wp2
   exact HX.out
  ·have hge2 : ¬ (k : Int) < (d : Int) := by omega
   have hlt2 : Hid (∀ j, j < q + 1 → gt l j - j ≤ k) := fun j hj => by
    by_cases e : j = q
    ·subst e; rw [← hd.out]; omega
    ·exact hlt j (by omega)
   clear hst hln
   gi_wp2
   exact ⟨Kept.refl _ _, hk, cR, fun j hj => by have := hlt2.out j hj; omega⟩
 case done =>
  rintro D Wc hD ⟨hk, cR, hlt⟩ hd
  have r0 := cR.cell 0 rfl
  have r1 := cR.frozen 0
  have hB := hide9' ((hk.below (B := w.heap.size) (fun x h => by omega) (by omega)))
  have HE := hide9' (hc.eq (q := mm) (by omega) hlt (fun h => absurd h (by omega)))
  have m1 := (hk.cel c0 (by omega)).cell 1 rfl
  rw [Nat.add_zero] at m1
  have cJ := (hk.cel c2 (by omega)).cell 0 rfl
  have m20 : mm ≤ 1048576 := by omega
  have hb := hide9' (hB.out.setCell (p := ⟨w.heap.size + 3, 0, none⟩) (show w.heap.size ≤ w.heap.size + 3 by omega) (.int .i64 ((k : Int) + (mm : Int))))
  have cS := hide9' (cR.set 0 (.int .i64 ((k : Int) + (mm : Int))))
  have hd2 := hide9' ((Below.heap_setCell Wc ⟨w.heap.size + 3, 0, none⟩ (.int .i64 ((k : Int) + (mm : Int))) D (show D ≠ w.heap.size + 3 by omega)).trans hd)
  clear hd hk
  go_wp2
  have cR2 := (cS.out.put (.deferred none) (show w.heap.size + 3 ≠ D by omega)).cell 0 rfl
  exact marks_ret hd2.out (v := .int .i64 ((k : Int) + (mm : Int))) (by simp [results, Tryz.results138, go_sem, cR2]) ⟨by rw [HE.out]; congr 1, b3.trans (hb.out.trans (below_putObj (by omega) _))⟩
 case stop =>
  rintro D q Wc hD hq ⟨hk, cR⟩ hd
  go_wp2
  have cR2 := (cR.put (.deferred none) (show w.heap.size + 3 ≠ D by omega)).cell 0 rfl
  exact marks_ret hd (v := .int .i64 ((k + c : Nat) : Int)) (by simp [results, Tryz.results138, go_sem, cR2]) ⟨rfl, b3.trans ((hk.below (fun x h => by omega) (by omega)).trans (below_putObj (by omega) _))⟩
end Go.Proofs.YtfnkklkdajlhlaaGreatDoor
namespace Go.Proofs.YtfnkklkdajlhlaaGreatDoor
open Go.RowKit Num Bit
def KArg9 (w : World) (cs : List Value) (a : RA9) : Prop := ∃ ao cap qo dap, cs = [.int .i64 a.N, .int .i64 a.M, .int .i64 a.k, .int .i64 a.V, .int .i64 a.LM, .slice ao a.xs.length cap, .int .i64 a.H, .slice qo a.ys.length dap] ∧ (I64 a.N ∧ I64 a.M ∧ I64 a.k ∧ I64 a.V ∧ I64 a.LM ∧ I64 a.H) ∧ Wd w ao a.xs ∧ Fit a.xs ∧ a.xs.length ≤ cap ∧ Wd w qo a.ys ∧ Fit a.ys ∧ a.ys.length ≤ dap
structure KI9 (w : World) (cs : List Value) (a : RA9) : Prop where
 arg : KArg9 w cs a
 n3 : a.N ≤ 3000
 xl : a.xs.length ≤ 1048576
 yl : a.ys.length ≤ 1048576
theorem KArg9.keep {w w' : World} {cs : List Value} {a : RA9} (h : KArg9 w cs a) (hb : Below w.heap.size w w') : KArg9 w' cs a := by
 obtain ⟨ao, cap, qo, dap, e, r, a1, a2, a3, a4, a5, a6⟩ := h
 exact ⟨ao, cap, qo, dap, e, r, a1.keep hb, a2, a3, a4.keep hb, a5, a6⟩
theorem KI9.keep {w w' : World} {cs : List Value} {a : RA9} (h : KI9 w cs a) (hb : Below w.heap.size w w') : KI9 w' cs a := ⟨h.arg.keep hb, h.n3, h.xl, h.yl⟩
theorem KArg9.len {w : World} {cs : List Value} {a : RA9} (h : KArg9 w cs a) : (Tryz.prog.info? 43).map (·.size) = some cs.length := by
 obtain ⟨ao, cap, qo, dap, rfl, _⟩ := h
 kernel_rfl
theorem KArg9.nine {w : World} {cs : List Value} {a : RA9} (h : KArg9 w cs a) : 8 = cs.length := by
 obtain ⟨ao, cap, qo, dap, rfl, _⟩ := h
 rfl
theorem KArg9.one {w : World} {cs : List Value} {a : RA9} (h : KArg9 w cs a) : cs.toArray.all (·.oneCell') = true := by
 obtain ⟨ao, cap, qo, dap, rfl, _⟩ := h
 simp [Value.oneCell']
theorem kRow_n (a : RA9) (h : kOk9 a = true) : 0 ≤ a.N ∧ a.N ≤ 1048576 ∧ Rise (kRow a) a.N.toNat := by
 obtain ⟨h1, _⟩ := kOk_row a h
 unfold fRow at h1
 simp only at h1
 split at h1
 ·rename_i c
  obtain ⟨⟨c1, c2, c3, c4⟩, c5, c6, c7, c8⟩ := c
  exact ⟨c1, c2, (fdec_len _ _ _ _ _ _ h1).2⟩
 ·cases h1
theorem kB_chk9 (a : RA9) (h : kOk9 a = true) : chk (kBN9 a) (kBX9 a) = true := by
 obtain ⟨h0, h1, _⟩ := kRow_n a h
 unfold kBN9 kBX9
 rw [if_pos h, if_pos h]
 have := chk_rowOf a.N.toNat (isIn (kRow a)) (by omega)
 rw [Int.toNat_of_nonneg h0] at this
 exact this
theorem kB_fit9 (a : RA9) : Fit (kBX9 a) := by
 unfold kBX9
 split
 ·exact fit_rowOf _ _
 ·intro i; unfold gt; simp
theorem plc_cnt (xs : List Nat) (n : Nat) : (plc (bitAt xs) n).length = cntB xs n := by
 induction n with
 | zero => rfl
 | succ n ih =>
  rw [plc_succ, List.length_append, ih]
  show _ = cntB xs n + (if bitAt xs n then 1 else 0)
  cases bitAt xs n <;> rfl
theorem bit_row (n : Nat) (l : List Nat) (hr : Rise l n) (i : Nat) : bitAt (rowOf n (isIn l)) i = isIn l i := by
 rw [bitAt_rowOf]
 by_cases c : i < n
 ·rw [decide_eq_true c, Bool.true_and]
 ·rw [decide_eq_false c, Bool.false_and]
  symm
  refine Bool.eq_false_iff.2 fun h => ?_
  obtain ⟨j, hj, e⟩ := (isIn_iff l i).1 h
  have := hr.1 j hj
  omega
theorem cut_cnt {n : Nat} {l : List Nat} (hr : Rise l n) (i : Nat) : Cut l i (cntB (rowOf n (isIn l)) i) := by
 induction i with
 | zero => exact ⟨Nat.zero_le _, fun j hj => absurd hj (by show ¬ j < 0; omega), fun j _ _ => Nat.zero_le _⟩
 | succ i ih =>
  have e : cntB (rowOf n (isIn l)) (i + 1) = cntB (rowOf n (isIn l)) i + (if isIn l i then 1 else 0) := by
   show _ + (if bitAt _ i then 1 else 0) = _
   rw [bit_row n l hr]
  generalize cntB (rowOf n (isIn l)) i = c at *
  rw [e]
  cases hb : isIn l i with
  | false =>
   simp only [Bool.false_eq_true, if_false, Nat.add_zero]
   refine ⟨ih.le, fun j hj => by have := ih.lo j hj; omega, fun j hj hl => ?_⟩
   have h1 := ih.hi j hj hl
   refine Nat.lt_of_le_of_ne h1 fun e2 => ?_
   rw [e2, isIn_get l j hl] at hb
   cases hb
  | true =>
   obtain ⟨j, hj, ej⟩ := (isIn_iff l i).1 hb
   have jc : j = c := by
    by_cases c1 : j < c
    ·have := ih.lo j c1; omega
    ·by_cases c2 : c < j
     ·have h1 := hr.lt c2 hj
      have h2 := ih.hi c (Nat.le_refl _) (by omega)
      omega
     ·omega
   subst jc
   simp only [if_true]
   refine ⟨by omega, fun t ht => ?_, fun t ht hl => ?_⟩
   ·by_cases e3 : t = j
    ·subst e3; omega
    ·have := ih.lo t (by omega); omega
   ·have := hr.lt (show j < t by omega) hl
    omega
theorem cut_one {n : Nat} {l : List Nat} (hr : Rise l n) (k : Nat) (hk : k < l.length) : bitAt (rowOf n (isIn l)) (gt l k) = true ∧ cntB (rowOf n (isIn l)) (gt l k) = k := by
 refine ⟨by rw [bit_row n l hr]; exact isIn_get l k hk, ?_⟩
 exact (cut_cnt hr (gt l k)).eq (by omega) (fun j hj => hr.lt hj hk) (fun _ => Nat.le_refl _)
theorem cut_all {n : Nat} {l : List Nat} (hr : Rise l n) : cntB (rowOf n (isIn l)) n = l.length :=
 (cut_cnt hr n).eq (Nat.le_refl _) (fun j hj => hr.1 j hj) (fun h => absurd h (by omega))
theorem cut_zero {n : Nat} {l : List Nat} (hr : Rise l n) (k : Nat) (hk : k < n - l.length) : ∃ c, CutZ l k c ∧ k + c < n ∧ bitAt (rowOf n (isIn l)) (k + c) = false ∧ (k + c) - cntB (rowOf n (isIn l)) (k + c) = k := by
 have hlen := hr.len
 -- the first place that has more than k noughts ahead
 have ex : ∀ d, d ≤ l.length → (∃ c, CutZ l k c) ∨ (∀ j, j < d → gt l j - j ≤ k) := by
  intro d
  induction d with
  | zero => intro _; exact .inr fun j hj => absurd hj (by omega)
  | succ d ih =>
   intro hd
   rcases ih (by omega) with h | h
   ·exact .inl h
   ·by_cases c : k < gt l d - d
    ·exact .inl ⟨d, by omega, h, fun _ => c⟩
    ·exact .inr fun j hj => by
      by_cases e : j = d
      ·subst e; omega
      ·exact h j (by omega)
 have hc : ∃ c, CutZ l k c := by
  rcases ex l.length (Nat.le_refl _) with h | h
  ·exact h
  ·exact ⟨l.length, Nat.le_refl _, h, fun h => absurd h (by omega)⟩
 obtain ⟨c, hc⟩ := hc
 have hst : ∀ j, j < l.length → j ≤ gt l j := fun j hj => by
  have := hr.step j 0 (by omega)
  rw [Nat.zero_add] at this
  omega
 have h1 : ∀ j, j < c → gt l j < k + c := fun j hj => by
  have := hc.lo j hj
  have := hc.le
  have := hst j (by omega)
  omega
 have h2 : c < l.length → k + c < gt l c := fun h => by
  have := hc.hi h
  have := hst c h
  omega
 have hn : k + c < n := by
  by_cases e : c < l.length
  ·have := h2 e
   have := hr.1 c e
   omega
  ·have := hc.le
   omega
 have hcnt : cntB (rowOf n (isIn l)) (k + c) = c := (cut_cnt hr (k + c)).eq hc.le h1 (fun h => Nat.le_of_lt (h2 h))
 refine ⟨c, hc, hn, ?_, by omega⟩
 rw [bit_row n l hr]
 refine Bool.eq_false_iff.2 fun h => ?_
 obtain ⟨j, hj, e⟩ := (isIn_iff l _).1 h
 by_cases a : j < c
 ·have := h1 j a; omega
 ·by_cases b : j = c
  ·subst b; have := h2 hj; omega
  ·have := hr.lt (show c < j by omega) hj
   have := h2 (by omega)
   omega
def Rws (w : World) (b : Nat) (l : List (Int × Nat)) : Prop := b < w.heap.size ∧ ∀ i, i < l.length → w.cell? ⟨b, i * 2, none⟩ = some (.int .i64 (l.getD i (0, 0)).1) ∧ ∃ ao cap, w.cell? ⟨b, i * 2 + 1, none⟩ = some (.slice ao (l.getD i (0, 0)).2 cap)
def norw (l : List (Int × Nat)) : Bool := l.all fun p => decide (p.1 = 0) && decide ((p.2 : Int) = 0)
theorem norw_true (l : List (Int × Nat)) (h : ∀ j, j < l.length → (l.getD j (0, 0)).1 = 0 ∧ (l.getD j (0, 0)).2 = 0) : norw l = true := by
 unfold norw
 rw [List.all_eq_true]
 intro p hp
 obtain ⟨j, hj, rfl⟩ := List.mem_iff_getElem.1 hp
 have := h j hj
 rw [List.getD_eq_getElem?_getD, List.getElem?_eq_getElem hj] at this
 simp [show (l[j]).1 = 0 from this.1, show (l[j]).2 = 0 from this.2]
theorem norw_false (l : List (Int × Nat)) (j : Nat) (hj : j < l.length) (h : (l.getD j (0, 0)).1 ≠ 0 ∨ (l.getD j (0, 0)).2 ≠ 0) : norw l = false := by
 refine Bool.eq_false_iff.2 fun e => ?_
 unfold norw at e
 rw [List.all_eq_true] at e
 have := e _ (List.getElem_mem hj)
 rw [List.getD_eq_getElem?_getD, List.getElem?_eq_getElem hj] at h
 simp at this
 rcases h with h | h
 ·exact h this.1
 ·exact h (by have := this.2; simp only [Option.getD_some] at *; omega)
theorem noRows_c (b cap : Nat) (l : List (Int × Nat)) (w : World) (hx : Rws w b l) (hl : l.length ≤ 2) :
  Calls Tryz.prog 173 #[.slice (some ⟨b, 0, none⟩) l.length cap] w fun e w' => e = .returned (.bool (norw l)) ∧ Below w.heap.size w w' := by
 obtain ⟨R, hR⟩ : ∃ R, Hid (R = norw l) := ⟨_, rfl⟩
 rw [← hR.out]
 go_enter Tryz.func173, Tryz.ntmps173
 go_wp2
 go_loopw [7] (fun i wr => ∃ k : Nat, k ≤ l.length ∧ i = .int .i64 k ∧ Hid (∀ j, j < k → (l.getD j (0, 0)).1 = 0 ∧ (l.getD j (0, 0)).2 = 0) ∧ Below w.heap.size w wr) (fun i _ => l.length - (intOf i).toNat)
 case atStart => exact ⟨0, by omega, rfl, fun j hj => absurd hj (by omega), Below.refl _ _⟩
 case round =>
  obtain ⟨k, hk, rfl, H, hw⟩ := hrel
  by_cases hlt : k < l.length
  ·obtain ⟨h1, ao, cp, h2⟩ := hx.2 k hlt
   have e1 := (hw.cell (p := ⟨b, k * 2, none⟩) hx.1).trans h1
   have e2 := (hw.cell (p := ⟨b, k * 2 + 1, none⟩) hx.1).trans h2
   obtain ⟨N, hN⟩ : ∃ N, N = (l.getD k (0, 0)).1 := ⟨_, rfl⟩
   obtain ⟨n, hn⟩ : ∃ n, n = (l.getD k (0, 0)).2 := ⟨_, rfl⟩
   rw [← hN] at e1
   rw [← hn] at e2
   have hlt3 : (k : Int) < (l.length : Int) := by omega
   have HN : Hid (N = (l.getD k (0, 0)).1 ∧ n = (l.getD k (0, 0)).2) := And.intro hN hn
   clear hN hn h1 h2
   have bA := hw.alloc hw.size (.cells #[.int .i64 N, .slice ao n cp] 33)
   by_cases hv : N = 0
   ·by_cases hv2 : n = 0
    ·subst hv hv2
     go_wp2
     refine ⟨⟨k + 1, by omega, by go_num, ?_, bA⟩, by simp only [intOf]; omega⟩
     intro j hj
     by_cases e : j = k
     ·subst e; exact ⟨HN.out.1.symm, HN.out.2.symm⟩
     ·exact H.out j (by omega)
    ·have hne : ((n : Int) != 0) = true := by simp; omega
     have E : Hid (R = false) := by
      show R = false
      rw [hR.out]
      exact norw_false l k hlt (.inr (by rw [← HN.out.2]; exact hv2))
     subst hv
     go_wp2
     go_ret
     rw [E.out]
     exact ⟨rfl, bA⟩
   ·have hne : (N != 0) = true := by simp [hv]
    have E : Hid (R = false) := by
     show R = false
     rw [hR.out]
     exact norw_false l k hlt (.inl (by rw [← HN.out.1]; exact hv))
    go_wp2
    go_ret
    rw [E.out]
    exact ⟨rfl, bA⟩
  ·have E : Hid (R = true) := by
    show R = true
    rw [hR.out]
    exact norw_true l (fun j hj => H.out j (by omega))
   go_wp2
   go_ret
   rw [E.out]
   exact ⟨rfl, hw⟩
structure RA7 where
 N : Int
 xs : List Nat
 S : List Int
 T : List Int
def KArg7 (w : World) (cs : List Value) (a : RA7) : Prop := ∃ ao cap so sc tO tc, cs = [.int .i64 a.N, .slice ao a.xs.length cap, .slice so a.S.length sc, .slice tO a.T.length tc] ∧ PlArg w a.N ao a.xs cap so a.S sc tO a.T tc
structure KI7 (w : World) (cs : List Value) (a : RA7) : Prop where
 arg : KArg7 w cs a
 xl : a.xs.length ≤ 1048576
 sl : a.S.length ≤ 1048576
 tl : a.T.length ≤ 1048576
theorem KArg7.keep {w w' : World} {cs : List Value} {a : RA7} (h : KArg7 w cs a) (hb : Below w.heap.size w w') : KArg7 w' cs a := by
 obtain ⟨ao, cap, so, sc, tO, tc, e, h⟩ := h
 exact ⟨ao, cap, so, sc, tO, tc, e, ⟨h.n, h.x.keep hb, h.f, h.c, h.s.keep hb, h.sf, h.sc, h.t.keep hb, h.tf, h.tc⟩⟩
theorem KI7.keep {w w' : World} {cs : List Value} {a : RA7} (h : KI7 w cs a) (hb : Below w.heap.size w w') : KI7 w' cs a := ⟨h.arg.keep hb, h.xl, h.sl, h.tl⟩
theorem KArg7.len {w : World} {cs : List Value} {a : RA7} (h : KArg7 w cs a) : (Tryz.prog.info? 37).map (·.size) = some cs.length := by
 obtain ⟨ao, cap, so, sc, tO, tc, rfl, _⟩ := h
 kernel_rfl
theorem KArg7.four {w : World} {cs : List Value} {a : RA7} (h : KArg7 w cs a) : cs.length = 4 := by
 obtain ⟨ao, cap, so, sc, tO, tc, rfl, _⟩ := h
 rfl
theorem KArg7.one {w : World} {cs : List Value} {a : RA7} (h : KArg7 w cs a) : cs.toArray.all (·.oneCell') = true := by
 obtain ⟨ao, cap, so, sc, tO, tc, rfl, _⟩ := h
 simp [Value.oneCell']
def kOk7 (a : RA7) : Bool := pchk a.N a.xs a.S a.T
def kBN7 (a : RA7) : Int := piN a.N a.xs a.S a.T
def kBX7 (a : RA7) : List Nat := piX a.N a.xs a.S a.T
def kZ7 (a : RA7) : Int := pzN a.N a.xs a.S a.T
def kB7 (N : Int) (xs : List Nat) : RA7 := ⟨pbN N xs, pbX N xs, pbS N xs, pbT N xs⟩
def kE7 (N : Int) (xs : List Nat) : Int := pbE N xs
theorem kB_ok7 (N : Int) (xs : List Nat) (hk : chk N xs = true) : kOk7 (kB7 N xs) = true ∧ kBN7 (kB7 N xs) = N ∧ kBX7 (kB7 N xs) = xs := by
 have e : kB7 N xs = ⟨N, xs, supL N xs, subL N xs⟩ := by unfold kB7 pbN pbX pbS pbT; rw [if_pos hk, if_pos hk, if_pos hk, if_pos hk]
 have k : pchk N xs (supL N xs) (subL N xs) = true := by unfold pchk; simp [hk]
 rw [e]
 unfold kOk7 kBN7 kBX7 piN piX
 simp only
 rw [if_pos k, if_pos k]
 exact ⟨k, rfl, rfl⟩
theorem kB_chk7 (a : RA7) (h : kOk7 a = true) : chk (kBN7 a) (kBX7 a) = true := by
 unfold kBN7 kBX7 piN piX
 unfold kOk7 at h
 rw [if_pos h, if_pos h]
 unfold pchk at h
 simp only [Bool.and_eq_true] at h
 exact h.1
structure RA where
 K : Int
 p : RA7
 r : RA8
 f : RA9
def KArg (w : World) (cs : List Value) (a : RA) : Prop := ∃ cp cr cf, cs = .int .i64 a.K :: (cp ++ (cr ++ cf)) ∧ I64 a.K ∧ KArg7 w cp a.p ∧ KArg8 w cr a.r ∧ KArg9 w cf a.f
structure Sm (a : RA) : Prop where
 p1 : a.p.xs.length ≤ 1048576
 p2 : a.p.S.length ≤ 1048576
 p3 : a.p.T.length ≤ 1048576
 r1 : a.r.xs.length ≤ 1048576
 r2 : a.r.ys.length ≤ 1048576
 r3 : a.r.S.length ≤ 1048576
 r4 : a.r.T.length ≤ 1048576
 f0 : a.f.N ≤ 3000
 f1 : a.f.xs.length ≤ 1048576
 f2 : a.f.ys.length ≤ 1048576
structure KI (w : World) (cs : List Value) (a : RA) : Prop where
 arg : KArg w cs a
 sm : Sm a
 gv : GV w
theorem KArg.keep {w w' : World} {cs : List Value} {a : RA} (h : KArg w cs a) (hb : Below w.heap.size w w') : KArg w' cs a := by
 obtain ⟨cp, cr, cf, e, k, h1, h2, h3⟩ := h
 exact ⟨cp, cr, cf, e, k, h1.keep hb, h2.keep hb, h3.keep hb⟩
theorem KI.keep {w w' : World} {cs : List Value} {a : RA} (h : KI w cs a) (hb : Below w.heap.size w w') : KI w' cs a := ⟨h.arg.keep hb, h.sm, h.gv.keep hb⟩
theorem KArg.nine {w : World} {cs : List Value} {a : RA} (h : KArg w cs a) : 22 = cs.length := by
 obtain ⟨cp, cr, cf, rfl, _, h1, h2, h3⟩ := h
 have := h1.four
 have := h2.nine
 have := h3.nine
 simp only [List.length_cons, List.length_append]
 omega
theorem info_v : (Tryz.prog.info? 45).map (·.size) = some 22 := by kernel_rfl
theorem KArg.len {w : World} {cs : List Value} {a : RA} (h : KArg w cs a) : (Tryz.prog.info? 45).map (·.size) = some cs.length := by
 rw [← h.nine]
 exact info_v
theorem KArg.one {w : World} {cs : List Value} {a : RA} (h : KArg w cs a) : cs.toArray.all (·.oneCell') = true := by
 obtain ⟨cp, cr, cf, rfl, _, h1, h2, h3⟩ := h
 have a1 := h1.one
 have a2 := h2.one
 have a3 := h3.one
 simp only [List.all_toArray] at a1 a2 a3 ⊢
 rw [List.all_cons, List.all_append, List.all_append, a1, a2, a3]
 rfl
def z7 (a : RA7) : Bool := norw [(a.N, a.xs.length)] && (decide ((a.S.length : Int) = 0) && decide ((a.T.length : Int) = 0))
def z8 (a : RA8) : Bool := decide (a.N = 0) && (decide (a.k = 0) && (decide (a.V = 0) && (norw [(a.M, a.xs.length), (a.L, a.ys.length)] && (decide ((a.S.length : Int) = 0) && decide ((a.T.length : Int) = 0)))))
def z9 (a : RA9) : Bool := decide (a.N = 0) && (decide (a.M = 0) && (decide (a.k = 0) && (decide (a.V = 0) && norw [(a.LM, a.xs.length), (a.H, a.ys.length)])))
def kZs (a : RA) : Bool := (decide (a.K = 1) || z7 a.p) && ((decide (a.K = 2) || z8 a.r) && (decide (a.K = 3) || z9 a.f))
def kOn (a : RA) : Int := if kZs a = true then a.K else 0
def kOk (a : RA) : Bool := if kOn a = 1 then kOk7 a.p else if kOn a = 2 then kOk8 a.r else if kOn a = 3 then kOk9 a.f else false
def kBN (a : RA) : Int := if kOn a = 1 then kBN7 a.p else if kOn a = 2 then kBN8 a.r else if kOn a = 3 then kBN9 a.f else 0
def kBX (a : RA) : List Nat := if kOn a = 1 then kBX7 a.p else if kOn a = 2 then kBX8 a.r else if kOn a = 3 then kBX9 a.f else []
def kZ (a : RA) : Int := if kOn a = 1 then kZ7 a.p else if kOn a = 2 then kZ8 a.r else if kOn a = 3 then kZ9 a.f else 0
def n7 : RA7 := ⟨0, [], [], []⟩
def n8 : RA8 := ⟨0, 0, 0, 0, [], 0, [], [], []⟩
def n9 : RA9 := ⟨0, 0, 0, 0, 0, [], 0, []⟩
def kE (k : Int) (N : Int) (xs : List Nat) : Int := if k = 1 then kE7 N xs else if k = 2 then kE8 N xs else if k = 3 then kE9 N xs else 5
def kB (k : Int) (N : Int) (xs : List Nat) : RA := if kE k N xs = 0 then ⟨k, if k = 1 then kB7 N xs else n7, if k = 2 then kB8 N xs else n8, if k = 3 then kB9 N xs else n9⟩ else ⟨0, n7, n8, n9⟩
theorem on_p {a : RA} (h : kOn a = 1) : kOk a = kOk7 a.p ∧ kBN a = kBN7 a.p ∧ kBX a = kBX7 a.p ∧ kZ a = kZ7 a.p := by
 unfold kOk kBN kBX kZ
 rw [if_pos h, if_pos h, if_pos h, if_pos h]
 exact ⟨rfl, rfl, rfl, rfl⟩
theorem on_r {a : RA} (h : kOn a = 2) : kOk a = kOk8 a.r ∧ kBN a = kBN8 a.r ∧ kBX a = kBX8 a.r ∧ kZ a = kZ8 a.r := by
 unfold kOk kBN kBX kZ
 have e : ¬ kOn a = 1 := by omega
 rw [if_neg e, if_neg e, if_neg e, if_neg e, if_pos h, if_pos h, if_pos h, if_pos h]
 exact ⟨rfl, rfl, rfl, rfl⟩
theorem on_f {a : RA} (h : kOn a = 3) : kOk a = kOk9 a.f ∧ kBN a = kBN9 a.f ∧ kBX a = kBX9 a.f ∧ kZ a = kZ9 a.f := by
 unfold kOk kBN kBX kZ
 have e : ¬ kOn a = 1 := by omega
 have e2 : ¬ kOn a = 2 := by omega
 rw [if_neg e, if_neg e, if_neg e, if_neg e, if_neg e2, if_neg e2, if_neg e2, if_neg e2, if_pos h, if_pos h, if_pos h, if_pos h]
 exact ⟨rfl, rfl, rfl, rfl⟩
theorem on_n {a : RA} (h1 : kOn a ≠ 1) (h2 : kOn a ≠ 2) (h3 : kOn a ≠ 3) : kOk a = false ∧ kBN a = 0 ∧ kBX a = [] ∧ kZ a = 0 := by
 unfold kOk kBN kBX kZ
 rw [if_neg h1, if_neg h1, if_neg h1, if_neg h1, if_neg h2, if_neg h2, if_neg h2, if_neg h2, if_neg h3, if_neg h3, if_neg h3, if_neg h3]
 exact ⟨rfl, rfl, rfl, rfl⟩
theorem kB_chk (a : RA) (h : kOk a = true) : chk (kBN a) (kBX a) = true := by
 by_cases h1 : kOn a = 1
 ·obtain ⟨e1, e2, e3, _⟩ := on_p h1
  rw [e2, e3]
  exact kB_chk7 _ (e1.symm.trans h)
 by_cases h2 : kOn a = 2
 ·obtain ⟨e1, e2, e3, _⟩ := on_r h2
  rw [e2, e3]
  exact kB_chk8 _ (e1.symm.trans h)
 by_cases h3 : kOn a = 3
 ·obtain ⟨e1, e2, e3, _⟩ := on_f h3
  rw [e2, e3]
  exact kB_chk9 _ (e1.symm.trans h)
 rw [(on_n h1 h2 h3).1] at h
 cases h
theorem kE_ok (k N : Int) (xs : List Nat) (h1 : 1 ≤ k) (h3 : k ≤ 3) (hk : chk N xs = true) : kE k N xs = 0 := by
 unfold kE kE7 kE8 kE9 pbE rbE
 simp only [hk]
 split
 ·rfl
 ·split
  ·rfl
  ·split
   ·rfl
   ·omega
structure VC (P : RA → Prop) : Prop where
 check : ∀ (cs : List Value) (a : RA) (w : World), KI w cs a → P a → Calls Tryz.prog 47 #[.agg cs.toArray] w fun e w' => e = .returned (.bool (kOk a)) ∧ Below w.heap.size w w'
 size : ∀ (cs : List Value) (a : RA) (w : World), KI w cs a → P a → Calls Tryz.prog 42 #[.agg cs.toArray] w fun e w' => e = .returned (.int .i64 (kZ a)) ∧ Below w.heap.size w w'
structure VR (P : RA → Prop) : Prop where
 bits : ∀ (cs : List Value) (a : RA) (w : World), KI w cs a → P a → Calls Tryz.prog 49 #[.agg cs.toArray] w fun e w' => ∃ bo bc, e = .returned (.agg #[.int .i64 (kBN a), .slice bo (kBX a).length bc]) ∧ Wd w' bo (kBX a) ∧ (kBX a).length ≤ bc ∧ Below w.heap.size w w'
 access : ∀ (cs : List Value) (a : RA) (i : Int) (w : World), KI w cs a → P a → I64 i → Calls Tryz.prog 32 #[.agg cs.toArray, .int .i64 i] w fun e w' => e = .returned (.tuple #[.bool (gaB (kOk a) (kBN a) (kBX a) i), .int .i64 (gaE (kOk a) (kBN a) (kBX a) i)]) ∧ Below w.heap.size w w'
 rank : ∀ (cs : List Value) (a : RA) (bit : Bool) (i : Int) (w : World), KI w cs a → P a → I64 i → Calls Tryz.prog 66 #[.agg cs.toArray, .bool bit, .int .i64 i] w fun e w' => e = .returned (.tuple #[.int .i64 (grN (kOk a) (kBN a) (kBX a) bit i), .int .i64 (grE (kOk a) (kBN a) i)]) ∧ Below w.heap.size w w'
 select : ∀ (cs : List Value) (a : RA) (bit : Bool) (k : Int) (w : World), KI w cs a → P a → I64 k → Calls Tryz.prog 46 #[.agg cs.toArray, .bool bit, .int .i64 k] w fun e w' => e = .returned (.tuple #[.int .i64 (gsX (kOk a) (kBN a) (kBX a) bit k), .int .i64 (gsE (kOk a) (kBN a) (kBX a) bit k)]) ∧ Below w.heap.size w w'
theorem load_part {ops : Array Oper} {rest : List Oper} {d : Option Tmp} {ty T : TypeId} {ps : String} {af : Array Edge} {gd : Option (Nat × Bool)} {a : Act} {w : World} {Q : Exit → Act → World → Prop} {x : Operand}
  (g o : Nat) (cs : List Value) {fs : Array Field} (hwn : Region.wanted (⟨d, .load T x, ty, ps, af, gd⟩ : Oper) (yielded ops a.tmps) = true) (hx : a.eval x = .pointer (some ⟨g, o, none⟩)) (hc : w.rangeAt g o cs) (hu : Tryz.prog.underlying T = some (.struct fs)) (hi : (Tryz.prog.info? T).map (·.size) = some cs.length)
  (h : wpList Tryz.prog ops Q rest (a.put d (.agg cs.toArray)) w) :
  wpList Tryz.prog ops Q (⟨d, .load T x, ty, ps, af, gd⟩ :: rest) a w :=
 wpList_step fun K hK => by
  rw [if_pos hwn]
  exact wp_load_mid T x rfl g o hx cs _ hc hu rfl hi (hK _ _ h)
theorem Cel.part {w : World} {b : Nat} {T : TypeId} (pre cs post : List Value) (h : Cel w b (pre ++ (cs ++ post)) T) : w.rangeAt b pre.length cs := fun j v hv => by
 refine h.cell (pre.length + j) ?_
 have hj : j < cs.length := (List.getElem?_eq_some_iff.1 hv).1
 rw [List.getElem?_append_right (by omega), List.getElem?_append_left (by omega), show pre.length + j - pre.length = j by omega]
 exact hv
theorem rws1 (w : World) (N : Int) (ao : Option Addr) (n cap : Nat) (T : TypeId) : Rws (w.alloc (.cells #[.int .i64 N, .slice ao n cap] T)) w.heap.size [(N, n)] := by
 have hc := Cel.new w [.int .i64 N, .slice ao n cap] T
 refine ⟨hc.lt, fun i hi => ?_⟩
 have hi : i < 1 := hi
 obtain rfl : i = 0 := by omega
 exact ⟨hc.cell 0 rfl, ao, cap, hc.cell 1 rfl⟩
theorem rws2 (w : World) (N : Int) (ao : Option Addr) (n cap : Nat) (M : Int) (bo : Option Addr) (m dap : Nat) (T : TypeId) : Rws (w.alloc (.cells #[.int .i64 N, .slice ao n cap, .int .i64 M, .slice bo m dap] T)) w.heap.size [(N, n), (M, m)] := by
 have hc := Cel.new w [.int .i64 N, .slice ao n cap, .int .i64 M, .slice bo m dap] T
 refine ⟨hc.lt, fun i hi => ?_⟩
 have hi : i < 2 := hi
 have : i = 0 ∨ i = 1 := by omega
 rcases this with rfl | rfl
 ·exact ⟨hc.cell 0 rfl, ao, cap, hc.cell 1 rfl⟩
 ·exact ⟨hc.cell 2 rfl, bo, dap, hc.cell 3 rfl⟩
theorem noPlain_c (cs : List Value) (a : RA7) (w : World) (h : KArg7 w cs a) :
  Calls Tryz.prog 114 #[.agg cs.toArray] w fun e w' => e = .returned (.bool (z7 a)) ∧ Below w.heap.size w w' := by
 obtain ⟨ao, cap, so, sc, tO, tc, rfl, -⟩ := h
 obtain ⟨N, xs, S, T⟩ := a
 dsimp only
 obtain ⟨Z, hZ⟩ : ∃ Z, Hid (Z = z7 ⟨N, xs, S, T⟩) := ⟨_, rfl⟩
 rw [← hZ.out]
 obtain ⟨W, hW⟩ : ∃ W, W = (w.alloc (.cells #[.int .i64 N, .slice ao xs.length cap, .slice so S.length sc, .slice tO T.length tc] 37)).alloc (.cells #[.int .i64 N, .slice ao xs.length cap] 33) := ⟨_, rfl⟩
 have bW := yb2 hW
 have R : Hid (∀ w0 : World, w0 = W → Calls Tryz.prog 173 #[.slice (some ⟨w.heap.size + 1, 0, none⟩) 1 1] w0 fun e w' => e = .returned (.bool (norw [(N, xs.length)])) ∧ Below w0.heap.size w0 w') := fun w0 g => by
  subst g
  refine noRows_c _ 1 [(N, xs.length)] w0 ?_ (by simp)
  have hx := rws1 (w.alloc (.cells #[.int .i64 N, .slice ao xs.length cap, .slice so S.length sc, .slice tO T.length tc] 37)) N ao xs.length cap 33
  rw [show (w.alloc (.cells #[.int .i64 N, .slice ao xs.length cap, .slice so S.length sc, .slice tO T.length tc] 37)).heap.size = w.heap.size + 1 by simp] at hx
  rw [hW]
  exact hx
 subst hW
 cases hn : norw [(N, xs.length)] with
 | false =>
  have E : Hid (Z = false) := by
   show Z = _
   rw [hZ.out]
   unfold z7
   simp [hn]
  clear hZ
  rw [hn] at R
  go_enter Tryz.func114, Tryz.ntmps114
  go_wp2_with fail
  refine (R.out _ (by rfl)).mono ?_
  rintro e w1 ⟨rfl, hb⟩
  have g0 := ((Cel.new w [.int .i64 N, .slice ao xs.length cap, .slice so S.length sc, .slice tO T.length tc] 37).kept (below_alloc _ _)).kept hb
  have g1 := g0.cell 2 rfl
  have g2 := g0.cell 3 rfl
  clear g0
  replace hb := bW.trans (hb.mono bW.size)
  go_wp2
  go_ret
  rw [E.out]
  exact ⟨rfl, hb⟩
 | true =>
  by_cases qS : (S.length : Int) = 0
  rotate_left
  ·have dS : ((S.length : Int) == 0) = false := beq_eq_false_iff_ne.2 qS
   have E : Hid (Z = false) := by
    show Z = _
    rw [hZ.out]
    unfold z7
    simp [hn, show ¬ S = [] from fun e => qS (by rw [e]; rfl)]
   clear hZ
   rw [hn] at R
   go_enter Tryz.func114, Tryz.ntmps114
   go_wp2_with fail
   refine (R.out _ (by rfl)).mono ?_
   rintro e w1 ⟨rfl, hb⟩
   have g0 := ((Cel.new w [.int .i64 N, .slice ao xs.length cap, .slice so S.length sc, .slice tO T.length tc] 37).kept (below_alloc _ _)).kept hb
   have g1 := g0.cell 2 rfl
   have g2 := g0.cell 3 rfl
   clear g0
   replace hb := bW.trans (hb.mono bW.size)
   go_wp2
   go_ret
   rw [E.out]
   exact ⟨rfl, hb⟩
  have dS : ((S.length : Int) == 0) = true := by simp only [qS]; rfl
  by_cases qT : (T.length : Int) = 0
  rotate_left
  ·have dT : ((T.length : Int) == 0) = false := beq_eq_false_iff_ne.2 qT
   have E : Hid (Z = false) := by
    show Z = _
    rw [hZ.out]
    unfold z7
    simp [hn, show S = [] from List.eq_nil_of_length_eq_zero (by omega), show ¬ T = [] from fun e => qT (by rw [e]; rfl)]
   clear hZ
   rw [hn] at R
   go_enter Tryz.func114, Tryz.ntmps114
   go_wp2_with fail
   refine (R.out _ (by rfl)).mono ?_
   rintro e w1 ⟨rfl, hb⟩
   have g0 := ((Cel.new w [.int .i64 N, .slice ao xs.length cap, .slice so S.length sc, .slice tO T.length tc] 37).kept (below_alloc _ _)).kept hb
   have g1 := g0.cell 2 rfl
   have g2 := g0.cell 3 rfl
   clear g0
   replace hb := bW.trans (hb.mono bW.size)
   go_wp2
   go_ret
   rw [E.out]
   exact ⟨rfl, hb⟩
  have dT : ((T.length : Int) == 0) = true := by simp only [qT]; rfl
  have E : Hid (Z = true) := by
   show Z = _
   rw [hZ.out]
   unfold z7
   simp [hn, show S = [] from List.eq_nil_of_length_eq_zero (by omega), show T = [] from List.eq_nil_of_length_eq_zero (by omega)]
  clear hZ
  rw [hn] at R
  go_enter Tryz.func114, Tryz.ntmps114
  go_wp2_with fail
  refine (R.out _ (by rfl)).mono ?_
  rintro e w1 ⟨rfl, hb⟩
  have g0 := ((Cel.new w [.int .i64 N, .slice ao xs.length cap, .slice so S.length sc, .slice tO T.length tc] 37).kept (below_alloc _ _)).kept hb
  have g1 := g0.cell 2 rfl
  have g2 := g0.cell 3 rfl
  clear g0
  replace hb := bW.trans (hb.mono bW.size)
  go_wp2
  go_ret
  rw [E.out]
  exact ⟨rfl, hb⟩
theorem noRrr_c (cs : List Value) (a : RA8) (w : World) (h : KArg8 w cs a) :
  Calls Tryz.prog 115 #[.agg cs.toArray] w fun e w' => e = .returned (.bool (z8 a)) ∧ Below w.heap.size w w' := by
 obtain ⟨ao, cap, qo, dap, so, sc, tO, tc, rfl, -⟩ := h
 obtain ⟨N, k, V, M, xs, L, ys, S, T⟩ := a
 dsimp only
 obtain ⟨Z, hZ⟩ : ∃ Z, Hid (Z = z8 ⟨N, k, V, M, xs, L, ys, S, T⟩) := ⟨_, rfl⟩
 rw [← hZ.out]
 by_cases qN : N = 0
 rotate_left
 ·have dN : (N == 0) = false := by simp [qN]
  have E : Hid (Z = false) := by
   show Z = _
   rw [hZ.out]
   unfold z8
   simp [qN]
  clear hZ
  go_enter Tryz.func115, Tryz.ntmps115
  go_wp2
  go_ret
  rw [E.out]
  exact ⟨rfl, below_alloc _ _⟩
 subst qN
 by_cases qk : k = 0
 rotate_left
 ·have dk : (k == 0) = false := by simp [qk]
  have E : Hid (Z = false) := by
   show Z = _
   rw [hZ.out]
   unfold z8
   simp [qk]
  clear hZ
  go_enter Tryz.func115, Tryz.ntmps115
  go_wp2
  go_ret
  rw [E.out]
  exact ⟨rfl, below_alloc _ _⟩
 subst qk
 by_cases qV : V = 0
 rotate_left
 ·have dV : (V == 0) = false := by simp [qV]
  have E : Hid (Z = false) := by
   show Z = _
   rw [hZ.out]
   unfold z8
   simp [qV]
  clear hZ
  go_enter Tryz.func115, Tryz.ntmps115
  go_wp2
  go_ret
  rw [E.out]
  exact ⟨rfl, below_alloc _ _⟩
 subst qV
 obtain ⟨W, hW⟩ : ∃ W, W = (w.alloc (.cells #[.int .i64 0, .int .i64 0, .int .i64 0, .int .i64 M, .slice ao xs.length cap, .int .i64 L, .slice qo ys.length dap, .slice so S.length sc, .slice tO T.length tc] 41)).alloc (.cells #[.int .i64 M, .slice ao xs.length cap, .int .i64 L, .slice qo ys.length dap] 33) := ⟨_, rfl⟩
 have bW := yb2 hW
 have R : Hid (∀ w0 : World, w0 = W → Calls Tryz.prog 173 #[.slice (some ⟨w.heap.size + 1, 0, none⟩) 2 2] w0 fun e w' => e = .returned (.bool (norw [(M, xs.length), (L, ys.length)])) ∧ Below w0.heap.size w0 w') := fun w0 g => by
  subst g
  refine noRows_c _ 2 [(M, xs.length), (L, ys.length)] w0 ?_ (by simp)
  have hx := rws2 (w.alloc (.cells #[.int .i64 0, .int .i64 0, .int .i64 0, .int .i64 M, .slice ao xs.length cap, .int .i64 L, .slice qo ys.length dap, .slice so S.length sc, .slice tO T.length tc] 41)) M ao xs.length cap L qo ys.length dap 33
  rw [show (w.alloc (.cells #[.int .i64 0, .int .i64 0, .int .i64 0, .int .i64 M, .slice ao xs.length cap, .int .i64 L, .slice qo ys.length dap, .slice so S.length sc, .slice tO T.length tc] 41)).heap.size = w.heap.size + 1 by simp] at hx
  rw [hW]
  exact hx
 subst hW
 cases hn : norw [(M, xs.length), (L, ys.length)] with
 | false =>
  have E : Hid (Z = false) := by
   show Z = _
   rw [hZ.out]
   unfold z8
   simp [hn]
  clear hZ
  rw [hn] at R
  go_enter Tryz.func115, Tryz.ntmps115
  go_wp2_with fail
  refine (R.out _ (by rfl)).mono ?_
  rintro e w1 ⟨rfl, hb⟩
  have g0 := ((Cel.new w [.int .i64 0, .int .i64 0, .int .i64 0, .int .i64 M, .slice ao xs.length cap, .int .i64 L, .slice qo ys.length dap, .slice so S.length sc, .slice tO T.length tc] 41).kept (below_alloc _ _)).kept hb
  have g1 := g0.cell 7 rfl
  have g2 := g0.cell 8 rfl
  clear g0
  replace hb := bW.trans (hb.mono bW.size)
  go_wp2
  go_ret
  rw [E.out]
  exact ⟨rfl, hb⟩
 | true =>
  by_cases qS : (S.length : Int) = 0
  rotate_left
  ·have dS : ((S.length : Int) == 0) = false := beq_eq_false_iff_ne.2 qS
   have E : Hid (Z = false) := by
    show Z = _
    rw [hZ.out]
    unfold z8
    simp [hn, show ¬ S = [] from fun e => qS (by rw [e]; rfl)]
   clear hZ
   rw [hn] at R
   go_enter Tryz.func115, Tryz.ntmps115
   go_wp2_with fail
   refine (R.out _ (by rfl)).mono ?_
   rintro e w1 ⟨rfl, hb⟩
   have g0 := ((Cel.new w [.int .i64 0, .int .i64 0, .int .i64 0, .int .i64 M, .slice ao xs.length cap, .int .i64 L, .slice qo ys.length dap, .slice so S.length sc, .slice tO T.length tc] 41).kept (below_alloc _ _)).kept hb
   have g1 := g0.cell 7 rfl
   have g2 := g0.cell 8 rfl
   clear g0
   replace hb := bW.trans (hb.mono bW.size)
   go_wp2
   go_ret
   rw [E.out]
   exact ⟨rfl, hb⟩
  have dS : ((S.length : Int) == 0) = true := by simp only [qS]; rfl
  by_cases qT : (T.length : Int) = 0
  rotate_left
  ·have dT : ((T.length : Int) == 0) = false := beq_eq_false_iff_ne.2 qT
   have E : Hid (Z = false) := by
    show Z = _
    rw [hZ.out]
    unfold z8
    simp [hn, show S = [] from List.eq_nil_of_length_eq_zero (by omega), show ¬ T = [] from fun e => qT (by rw [e]; rfl)]
   clear hZ
   rw [hn] at R
   go_enter Tryz.func115, Tryz.ntmps115
   go_wp2_with fail
   refine (R.out _ (by rfl)).mono ?_
   rintro e w1 ⟨rfl, hb⟩
   have g0 := ((Cel.new w [.int .i64 0, .int .i64 0, .int .i64 0, .int .i64 M, .slice ao xs.length cap, .int .i64 L, .slice qo ys.length dap, .slice so S.length sc, .slice tO T.length tc] 41).kept (below_alloc _ _)).kept hb
   have g1 := g0.cell 7 rfl
   have g2 := g0.cell 8 rfl
   clear g0
   replace hb := bW.trans (hb.mono bW.size)
   go_wp2
   go_ret
   rw [E.out]
   exact ⟨rfl, hb⟩
  have dT : ((T.length : Int) == 0) = true := by simp only [qT]; rfl
  have E : Hid (Z = true) := by
   show Z = _
   rw [hZ.out]
   unfold z8
   simp [hn, show S = [] from List.eq_nil_of_length_eq_zero (by omega), show T = [] from List.eq_nil_of_length_eq_zero (by omega)]
  clear hZ
  rw [hn] at R
  go_enter Tryz.func115, Tryz.ntmps115
  go_wp2_with fail
  refine (R.out _ (by rfl)).mono ?_
  rintro e w1 ⟨rfl, hb⟩
  have g0 := ((Cel.new w [.int .i64 0, .int .i64 0, .int .i64 0, .int .i64 M, .slice ao xs.length cap, .int .i64 L, .slice qo ys.length dap, .slice so S.length sc, .slice tO T.length tc] 41).kept (below_alloc _ _)).kept hb
  have g1 := g0.cell 7 rfl
  have g2 := g0.cell 8 rfl
  clear g0
  replace hb := bW.trans (hb.mono bW.size)
  go_wp2
  go_ret
  rw [E.out]
  exact ⟨rfl, hb⟩
theorem noFano_c (cs : List Value) (a : RA9) (w : World) (h : KArg9 w cs a) :
  Calls Tryz.prog 116 #[.agg cs.toArray] w fun e w' => e = .returned (.bool (z9 a)) ∧ Below w.heap.size w w' := by
 obtain ⟨ao, cap, qo, dap, rfl, -⟩ := h
 obtain ⟨N, M, k, V, LM, xs, H, ys⟩ := a
 dsimp only
 obtain ⟨Z, hZ⟩ : ∃ Z, Hid (Z = z9 ⟨N, M, k, V, LM, xs, H, ys⟩) := ⟨_, rfl⟩
 rw [← hZ.out]
 by_cases qN : N = 0
 rotate_left
 ·have dN : (N == 0) = false := by simp [qN]
  have E : Hid (Z = false) := by
   show Z = _
   rw [hZ.out]
   unfold z9
   simp [qN]
  clear hZ
  go_enter Tryz.func116, Tryz.ntmps116
  go_wp2
  go_ret
  rw [E.out]
  exact ⟨rfl, below_alloc _ _⟩
 subst qN
 by_cases qM : M = 0
 rotate_left
 ·have dM : (M == 0) = false := by simp [qM]
  have E : Hid (Z = false) := by
   show Z = _
   rw [hZ.out]
   unfold z9
   simp [qM]
  clear hZ
  go_enter Tryz.func116, Tryz.ntmps116
  go_wp2
  go_ret
  rw [E.out]
  exact ⟨rfl, below_alloc _ _⟩
 subst qM
 by_cases qk : k = 0
 rotate_left
 ·have dk : (k == 0) = false := by simp [qk]
  have E : Hid (Z = false) := by
   show Z = _
   rw [hZ.out]
   unfold z9
   simp [qk]
  clear hZ
  go_enter Tryz.func116, Tryz.ntmps116
  go_wp2
  go_ret
  rw [E.out]
  exact ⟨rfl, below_alloc _ _⟩
 subst qk
 by_cases qV : V = 0
 rotate_left
 ·have dV : (V == 0) = false := by simp [qV]
  have E : Hid (Z = false) := by
   show Z = _
   rw [hZ.out]
   unfold z9
   simp [qV]
  clear hZ
  go_enter Tryz.func116, Tryz.ntmps116
  go_wp2
  go_ret
  rw [E.out]
  exact ⟨rfl, below_alloc _ _⟩
 subst qV
 obtain ⟨W, hW⟩ : ∃ W, W = (w.alloc (.cells #[.int .i64 0, .int .i64 0, .int .i64 0, .int .i64 0, .int .i64 LM, .slice ao xs.length cap, .int .i64 H, .slice qo ys.length dap] 43)).alloc (.cells #[.int .i64 LM, .slice ao xs.length cap, .int .i64 H, .slice qo ys.length dap] 33) := ⟨_, rfl⟩
 have bW := yb2 hW
 have R : Hid (∀ w0 : World, w0 = W → Calls Tryz.prog 173 #[.slice (some ⟨w.heap.size + 1, 0, none⟩) 2 2] w0 fun e w' => e = .returned (.bool (norw [(LM, xs.length), (H, ys.length)])) ∧ Below w0.heap.size w0 w') := fun w0 g => by
  subst g
  refine noRows_c _ 2 [(LM, xs.length), (H, ys.length)] w0 ?_ (by simp)
  have hx := rws2 (w.alloc (.cells #[.int .i64 0, .int .i64 0, .int .i64 0, .int .i64 0, .int .i64 LM, .slice ao xs.length cap, .int .i64 H, .slice qo ys.length dap] 43)) LM ao xs.length cap H qo ys.length dap 33
  rw [show (w.alloc (.cells #[.int .i64 0, .int .i64 0, .int .i64 0, .int .i64 0, .int .i64 LM, .slice ao xs.length cap, .int .i64 H, .slice qo ys.length dap] 43)).heap.size = w.heap.size + 1 by simp] at hx
  rw [hW]
  exact hx
 subst hW
 cases hn : norw [(LM, xs.length), (H, ys.length)] with
 | false =>
  have E : Hid (Z = false) := by
   show Z = _
   rw [hZ.out]
   unfold z9
   simp [hn]
  clear hZ
  rw [hn] at R
  go_enter Tryz.func116, Tryz.ntmps116
  go_wp2_with fail
  refine (R.out _ (by rfl)).mono ?_
  rintro e w1 ⟨rfl, hb⟩
  replace hb := bW.trans (hb.mono bW.size)
  go_wp2
  go_ret
  rw [E.out]
  exact ⟨rfl, hb⟩
 | true =>
  have E : Hid (Z = true) := by
   show Z = _
   rw [hZ.out]
   unfold z9
   simp [hn]
  clear hZ
  rw [hn] at R
  go_enter Tryz.func116, Tryz.ntmps116
  go_wp2_with fail
  refine (R.out _ (by rfl)).mono ?_
  rintro e w1 ⟨rfl, hb⟩
  replace hb := bW.trans (hb.mono bW.size)
  go_wp2
  go_ret
  rw [E.out]
  exact ⟨rfl, hb⟩
end Go.Proofs.YtfnkklkdajlhlaaGreatDoor
namespace Go.Proofs.YtfnkklkdajlhlaaGreatDoor
open Go.ChangeShapes Go.WideShapes Go.ChangeAt Go.RowKit Go.Joins Go.Deep Num Bit Bn
theorem row_back (m : Nat) (xs : List Nat) (hf : Fit xs) (hk : chk (m : Int) xs = true) : rowOf m (bitAt xs) = xs := by
 have := chk_row m xs hf hk
 rw [Int.toNat_natCast] at this
 exact this.symm
theorem kB_ok8 (N : Int) (xs : List Nat) (hf : Fit xs) (hk : chk N xs = true) : kOk8 (kB8 N xs) = true ∧ kBN8 (kB8 N xs) = N ∧ kBX8 (kB8 N xs) = xs := by
 obtain ⟨h0, h1, _, _⟩ := chk_out N xs hk
 obtain ⟨m, rfl⟩ := Int.eq_ofNat_of_zero_le h0
 have hm : m ≤ 1048576 := by omega
 have e : kB8 (m : Int) xs = ⟨m, nb m, 4, (nb m : Int) * 4, rC m (bitAt xs), bat m (bitAt xs) (nb m), rO m (bitAt xs), rS m (bitAt xs), rT m (bitAt xs)⟩ := by
  unfold kB8 rbN rbK rbV rbM rbC rbL rbO rbS rbT
  rw [hk, Int.toNat_natCast]
  rfl
 have hd : rDec m (nb m) 4 (rC m (bitAt xs)) (bat m (bitAt xs) (nb m)) (rO m (bitAt xs)) = some ((List.range m).map (bitAt xs)) := rDec_built m (bitAt xs) hm
 have e1 : rwN (some ((List.range m).map (bitAt xs))) = m := by simp [rwN]
 have e2 : rwX (some ((List.range m).map (bitAt xs))) = xs := by
  show frL _ = xs
  rw [fr_row, row_back m xs hf hk]
 have hn := nb_le m hm
 have hb := bat_le m (bitAt xs) (nb m)
 have i1 : ichk (nb m : Int) 4 ((nb m : Int) * 4) (rC m (bitAt xs)) = true := by
  have := ichk_mk (bclP m (bitAt xs) (nb m)) 4 (by decide) (by decide) (by rw [length_bclP]; omega)
  rw [length_bclP] at this
  unfold rC
  rw [show ((nb m : Int) * 4) = ((nb m * 4 : Nat) : Int) by omega]
  exact this
 have i2 : chk (bat m (bitAt xs) (nb m) : Int) (rO m (bitAt xs)) = true := by
  unfold rO
  rw [fr_off]
  exact chk_rowOf _ _ (by omega)
 have ok : rOk m (nb m) 4 ((nb m : Int) * 4) (rC m (bitAt xs)) (bat m (bitAt xs) (nb m)) (rO m (bitAt xs)) (rS m (bitAt xs)) (rT m (bitAt xs)) = true := by
  unfold rOk
  rw [hd, e1, e2, i1, i2, decide_eq_true (show (0 : Int) ≤ m ∧ (m : Int) ≤ 1048576 by omega), rEq_self]
  rfl
 rw [e]
 refine ⟨ok, ?_, ?_⟩
 ·unfold kBN8 rBN
  rw [if_pos ok, hd, e1]
 ·unfold kBX8 rBX
  rw [if_pos ok, hd, e2]
theorem kE_ok8 (N : Int) (xs : List Nat) (hk : chk N xs = true) : kE8 N xs = 0 := by unfold kE8 rbE; rw [hk]; rfl
end Go.Proofs.YtfnkklkdajlhlaaGreatDoor
