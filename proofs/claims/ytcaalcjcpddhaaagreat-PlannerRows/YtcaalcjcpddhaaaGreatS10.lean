/-
  Things in an array of one block: what it holds, what a store makes of it, what stays. The comparison of two things. The contracts of the sort's exchange of two rows, and of its rotation.
-/
import Derived.Test.YtcaalcjcpddhaaaGreatS09
import Derived.Deep.MidRow
set_option linter.unusedVariables false
set_option linter.unusedSimpArgs false
set_option maxRecDepth 100000
namespace Go.Proofs.YtcaalcjcpddhaaaGreat.Zz
open Go.RowKit
structure T4 where
 sy : Nat
 ct : Nat
 it : Nat
 ln : Nat
def fld (x : T4) (k : Nat) : Value := if k = 0 then .int .i64 (x.sy : Nat) else if k = 1 then .int .i64 (x.ct : Nat) else if k = 2 then .int .i64 (x.it : Nat) else .int .i64 (x.ln : Nat)
def tc (x : T4) : List Value := [.int .i64 (x.sy : Nat), .int .i64 (x.ct : Nat), .int .i64 (x.it : Nat), .int .i64 (x.ln : Nat)]
def tv (f : Nat → T4) : List Value := (List.range 2044).map fun j => fld (f (j / 4)) (j % 4)
def TH (w : World) (g : Nat) (f : Nat → T4) : Prop := Cel w g (tv f) 129
def upd (f : Nat → T4) (i : Nat) (x : T4) : Nat → T4 := fun k => if k = i then x else f k
theorem length_tv (f : Nat → T4) : (tv f).length = 2044 := by simp [tv]
theorem tv_get (f : Nat → T4) (j : Nat) (h : j < 2044) : (tv f)[j]? = some (fld (f (j / 4)) (j % 4)) := by
 unfold tv
 rw [List.getElem?_map, List.getElem?_range h]
 rfl
theorem tv_at (f : Nat → T4) (i k : Nat) (h : i < 511) (hk : k < 4) : (tv f)[i * 4 + k]? = some (fld (f i) k) := by
 rw [tv_get f _ (by omega), show (i * 4 + k) / 4 = i by omega, show (i * 4 + k) % 4 = k by omega]
theorem TH.lt {w : World} {g : Nat} {f : Nat → T4} (h : TH w g f) : g < w.heap.size := Cel.lt h
theorem TH.cell {w : World} {g : Nat} {f : Nat → T4} (h : TH w g f) (i k : Nat) (hi : i < 511) (hk : k < 4) : w.cell? ⟨g, i * 4 + k, none⟩ = some (fld (f i) k) := Cel.cell h _ (tv_at f i k hi hk)
theorem TH.c0 {w : World} {g : Nat} {f : Nat → T4} (h : TH w g f) (i : Nat) (hi : i < 511) : w.cell? ⟨g, i * 4, none⟩ = some (.int .i64 ((f i).sy : Nat)) := h.cell i 0 hi (by omega)
theorem TH.c1 {w : World} {g : Nat} {f : Nat → T4} (h : TH w g f) (i : Nat) (hi : i < 511) : w.cell? ⟨g, i * 4 + 1, none⟩ = some (.int .i64 ((f i).ct : Nat)) := h.cell i 1 hi (by omega)
theorem TH.c2 {w : World} {g : Nat} {f : Nat → T4} (h : TH w g f) (i : Nat) (hi : i < 511) : w.cell? ⟨g, i * 4 + 2, none⟩ = some (.int .i64 ((f i).it : Nat)) := h.cell i 2 hi (by omega)
theorem TH.c3 {w : World} {g : Nat} {f : Nat → T4} (h : TH w g f) (i : Nat) (hi : i < 511) : w.cell? ⟨g, i * 4 + 3, none⟩ = some (.int .i64 ((f i).ln : Nat)) := h.cell i 3 hi (by omega)
theorem TH.frozen {w : World} {g : Nat} {f : Nat → T4} (h : TH w g f) (j : Nat) : w.frozen? ⟨g, j, none⟩ = false := Cel.frozen h j
theorem TH.range {w : World} {g : Nat} {f : Nat → T4} (h : TH w g f) (i : Nat) (hi : i < 511) : w.rangeAt g (i * 4) (tc (f i)) := fun j v hv => by
 have hj : j < 4 := (List.getElem?_eq_some_iff.1 hv).1
 rw [h.cell i j hi hj, ← hv]
 match j, hj with
 | 0, _ => rfl
 | 1, _ => rfl
 | 2, _ => rfl
 | 3, _ => rfl
theorem TH.there {w : World} {g : Nat} {f : Nat → T4} (h : TH w g f) (i : Nat) (hi : i < 511) : w.there g (i * 4) 4 := fun j hj => ⟨by rw [h.cell i j hi hj]; rfl, h.frozen _⟩
theorem tv_set (f : Nat → T4) (i k : Nat) (hi : i < 511) (hk : k < 4) (x : T4) (hx : ∀ t, t < 4 → t ≠ k → fld x t = fld (f i) t) : (tv f).set (i * 4 + k) (fld x k) = tv (upd f i x) := by
 refine List.ext_getElem? fun j => ?_
 by_cases c : j < 2044
 ·rw [tv_get _ j c, List.getElem?_set, length_tv]
  by_cases e : i * 4 + k = j
  ·subst e
   rw [if_pos rfl, if_pos c, show (i * 4 + k) / 4 = i by omega, show (i * 4 + k) % 4 = k by omega]
   unfold upd; rw [if_pos rfl]
  ·rw [if_neg e, tv_get _ j c]
   unfold upd
   by_cases e2 : j / 4 = i
   ·rw [if_pos e2, hx (j % 4) (by omega) (by omega), e2]
   ·rw [if_neg e2]
 ·rw [List.getElem?_eq_none (by rw [List.length_set, length_tv]; omega), List.getElem?_eq_none (by rw [length_tv]; omega)]
theorem upd_upd (f : Nat → T4) (i : Nat) (x y : T4) : upd (upd f i x) i y = upd f i y := by
 funext k; unfold upd; split <;> rfl
theorem upd_at (f : Nat → T4) (i : Nat) (x : T4) : upd f i x i = x := by unfold upd; rw [if_pos rfl]
theorem upd_ne (f : Nat → T4) (i k : Nat) (x : T4) (h : k ≠ i) : upd f i x k = f k := by unfold upd; rw [if_neg h]
theorem TH.set {w : World} {g : Nat} {f : Nat → T4} (h : TH w g f) (i k : Nat) (hi : i < 511) (hk : k < 4) (x : T4) (hx : ∀ t, t < 4 → t ≠ k → fld x t = fld (f i) t) : TH (w.setCell ⟨g, i * 4 + k, none⟩ (fld x k)) g (upd f i x) := by
 have := Cel.set h (i * 4 + k) (fld x k)
 rw [tv_set f i k hi hk x hx] at this
 exact this
theorem TH.setIt {w : World} {g : Nat} {f : Nat → T4} (h : TH w g f) (i v : Nat) (hi : i < 511) : TH (w.setCell ⟨g, i * 4 + 2, none⟩ (.int .i64 (v : Nat))) g (upd f i { f i with it := v }) :=
 h.set i 2 hi (by omega) { f i with it := v } (fun t ht hn => by
  match t, ht, hn with
  | 0, _, _ => rfl
  | 1, _, _ => rfl
  | 3, _, _ => rfl)
theorem TH.setLn {w : World} {g : Nat} {f : Nat → T4} (h : TH w g f) (i v : Nat) (hi : i < 511) : TH (w.setCell ⟨g, i * 4 + 3, none⟩ (.int .i64 (v : Nat))) g (upd f i { f i with ln := v }) :=
 h.set i 3 hi (by omega) { f i with ln := v } (fun t ht hn => by
  match t, ht, hn with
  | 0, _, _ => rfl
  | 1, _, _ => rfl
  | 2, _, _ => rfl
  | 3, _, hn => exact absurd rfl hn)
theorem TH.cells {w : World} {g : Nat} {f : Nat → T4} (h : TH w g f) (i : Nat) (hi : i < 511) (x : T4) : TH (w.setCells g (i * 4) (tc x)) g (upd f i x) := by
 have h0 := h.set i 0 hi (by omega) ⟨x.sy, (f i).ct, (f i).it, (f i).ln⟩ (fun t ht hn => by
  match t, ht, hn with
  | 1, _, _ => rfl
  | 2, _, _ => rfl
  | 3, _, _ => rfl)
 have h1 := h0.set i 1 hi (by omega) ⟨x.sy, x.ct, (f i).it, (f i).ln⟩ (fun t ht hn => by
  rw [upd_at]
  match t, ht, hn with
  | 0, _, _ => rfl
  | 2, _, _ => rfl
  | 3, _, _ => rfl)
 rw [upd_upd] at h1
 have h2 := h1.set i 2 hi (by omega) ⟨x.sy, x.ct, x.it, (f i).ln⟩ (fun t ht hn => by
  rw [upd_at]
  match t, ht, hn with
  | 0, _, _ => rfl
  | 1, _, _ => rfl
  | 3, _, _ => rfl)
 rw [upd_upd] at h2
 have h3 := h2.set i 3 hi (by omega) x (fun t ht hn => by
  rw [upd_at]
  match t, ht, hn with
  | 0, _, _ => rfl
  | 1, _, _ => rfl
  | 2, _, _ => rfl
  | 3, _, hn => exact absurd rfl hn)
 rw [upd_upd] at h3
 exact h3
structure Bar (g : Nat) (w w' : World) : Prop where
 os : w'.os = w.os
 tape : w'.tape = w.tape
 output : w'.output = w.output
 size : w.heap.size ≤ w'.heap.size
 block : ∀ k, k < w.heap.size → k ≠ g → w'.heap[k]? = w.heap[k]?
theorem Bar.refl (g : Nat) (w : World) : Bar g w w := ⟨rfl, rfl, rfl, Nat.le_refl _, fun _ _ _ => rfl⟩
theorem Bar.trans {g : Nat} {a b c : World} (h : Bar g a b) (k : Bar g b c) : Bar g a c := ⟨k.os.trans h.os, k.tape.trans h.tape, k.output.trans h.output, Nat.le_trans h.size k.size, fun i hi hn => (k.block i (Nat.lt_of_lt_of_le hi h.size) hn).trans (h.block i hi hn)⟩
theorem Bar.of {g : Nat} {w w' : World} (h : Below w.heap.size w w') : Bar g w w' := ⟨h.os, h.tape, h.output, h.size, fun k hk _ => h.block k hk⟩
theorem Bar.only {g : Nat} {w w' : World} (h : Only g w w') : Bar g w w' := ⟨h.os, h.tape, h.output, by rw [h.size]; exact Nat.le_refl _, fun k _ hn => h.block k hn⟩
theorem Bar.below {g base : Nat} {w w' : World} (h : Bar g w w') (h1 : base ≤ g) (h2 : base ≤ w.heap.size) : Below base w w' := ⟨h.os, h.tape, h.output, h.size, fun k hk => h.block k (by omega) (by omega)⟩
theorem Bar.cel {g b : Nat} {w w' : World} {cs : List Value} {T : TypeId} (h : Bar g w w') (hc : Cel w b cs T) (hb : b ≠ g) : Cel w' b cs T := (h.block b hc.lt hb).trans hc
theorem Bar.drew {g : Nat} {a w : World} (h : Bar g a w) : Bar g a w.drew := h.trans (Bar.of (Below.refl _ _).drew)
theorem Bar.set {g : Nat} {a w : World} (h : Bar g a w) (i : Nat) (v : Value) : Bar g a (w.setCell ⟨g, i, none⟩ v) := h.trans (Bar.only ((Only.refl g w).set i v))
theorem Only.cells (g : Nat) : ∀ (vs : List Value) (o : Nat) (a w : World), Only g a w → Only g a (w.setCells g o vs)
 | [], _, _, _, h => h
 | v :: r, o, a, w, h => Only.cells g r (o + 1) a _ (h.set o v)
theorem Bar.cells {g : Nat} {a w : World} (h : Bar g a w) (o : Nat) (vs : List Value) : Bar g a (w.setCells g o vs) := h.trans (Bar.only (Only.cells g vs o w w (Only.refl g w)))
theorem TH.kept {w w' : World} {g : Nat} {f : Nat → T4} (h : TH w g f) (hb : Below w.heap.size w w') : TH w' g f := Cel.kept h hb
theorem TH.drew {w : World} {g : Nat} {f : Nat → T4} (h : TH w g f) : TH w.drew g f := h
def SO (g : Nat) (w : World) (P : (Nat → T4) → Prop) (w' : World) : Prop := ∃ f', TH w' g f' ∧ P f' ∧ Bar g w w'
theorem SO.mk {g : Nat} {w w' : World} {P : (Nat → T4) → Prop} (f' : Nat → T4) (h : TH w' g f') (hp : P f') (hb : Bar g w w') : SO g w P w' := ⟨f', h, hp, hb⟩
theorem tc_one (x : T4) : (tc x).toArray.all (·.oneCell') = true := all_oneCell_toArray fun v hv => by
 simp only [tc, List.mem_cons, List.not_mem_nil, or_false] at hv
 rcases hv with rfl | rfl | rfl | rfl <;> rfl
theorem tc_size : (Tryz.prog.info? 127).map (·.size) = some 4 := by kernel_rfl
theorem run_load_th {w : World} {x : Operand} {ρ : Operand → Value} {d : Option Tmp} {ty : TypeId} {ps : String} {af : Array Edge} {gd : Option (Nat × Bool)}
  (g : Nat) (f : Nat → T4) (i o : Nat) (hi : i < 511) (ho : o = i * 4) (hx : ρ x = .pointer (some ⟨g, o, none⟩)) (hc : TH w g f) :
  (execOp ρ (⟨d, .load 127 x, ty, ps, af, gd⟩ : Oper)).run Tryz.prog w = .ok (.value (.agg (tc (f i)).toArray)) w := by
 subst ho
 have hl := run_loadVar_mid (P := Tryz.prog) w g (i * 4) 127 (tc (f i)) _ (hc.range i hi) Tryz.underlying127 rfl tc_size
 unfold execOp
 simp only [hx, Instr.loadAt, Instr.sureAddr, Sem.run_bind, Sem.run_pure, Result.andThen_ok, hl]
theorem wp_store_th {op : Oper} {a : Act} {w : World} {K : Act → World → Prop} {Q : Exit → Act → World → Prop} (x y : Operand) (ho : op.op = .store 127 x y)
  (g : Nat) (f : Nat → T4) (i o : Nat) (v : T4) (hi : i < 511) (e : o = i * 4) (hx : a.eval x = .pointer (some ⟨g, o, none⟩)) (hy : a.eval y = .agg (tc v).toArray) (hc : TH w g f)
  (h : ∀ w1, TH w1 g (upd f i v) → Bar g w w1 → K (a.put op.dst undef) w1) : op.wp Tryz.prog a w K Q := by
 subst e
 exact wp_store_mid _ x y ho g (i * 4) (tc v).toArray hx hy (hc.there i hi) tc_size (tc_one v) (h _ (hc.cells i hi v) ((Bar.refl g w).cells _ _))
theorem wpList_store_th {ops : Array Oper} {rest : List Oper} {d : Option Tmp} {ty : TypeId} {ps : String} {af : Array Edge} {a : Act} {w : World} {Q : Exit → Act → World → Prop} {x y : Operand}
  (g : Nat) (f : Nat → T4) (i o : Nat) (v : T4) (hi : i < 511) (e : o = i * 4) (hx : a.eval x = .pointer (some ⟨g, o, none⟩)) (hy : a.eval y = .agg (tc v).toArray) (hc : TH w g f)
  (h : ∀ w1, TH w1 g (upd f i v) → Bar g w w1 → wpList Tryz.prog ops Q rest (a.put d undef) w1) :
  wpList Tryz.prog ops Q (⟨d, .store 127 x y, ty, ps, af, none⟩ :: rest) a w :=
 wpList_plain rfl fun _ hK => wp_store_th x y rfl g f i o v hi e hx hy hc fun w1 h1 h2 => hK _ _ (h w1 h1 h2)
theorem upd_swp (f : Nat → T4) (i j : Nat) (h : i ≠ j) : upd (upd f i (f j)) j (f i) = Sx.swp f i j := by
 funext k
 unfold upd Sx.swp
 by_cases c1 : k = i
 ·subst c1; rw [if_neg h, if_pos rfl, if_pos rfl]
 ·rw [if_neg c1, if_neg c1]
end Go.Proofs.YtcaalcjcpddhaaaGreat.Zz
namespace Go.Proofs.YtcaalcjcpddhaaaGreat.Zz
open Go.RowKit
theorem jnan_c (x : Int) (w : World) : Calls Tryz.prog 109 #[.int .i64 x] w fun e w' => e = .returned (.bool false) ∧ w' = w := by
 have h : (x != x) = false := by simp
 go_enter Tryz.func109, Tryz.ntmps109
 go_wp2
 go_ret
 exact ⟨by simp, rfl⟩
def cvI (x y : Int) : Int := if x < y then -1 else if y < x then 1 else 0
theorem jcompare_c (x y : Int) (w : World) : Calls Tryz.prog 100 #[.int .i64 x, .int .i64 y] w fun e w' => e = .returned (.int .i64 (cvI x y)) ∧ w' = w := by
 by_cases h1 : x < y
 ·have R : Hid (cvI x y = -1) := by show cvI x y = -1; unfold cvI; rw [if_pos h1]
  go_enter Tryz.func100, Tryz.ntmps100
  go_wp2_with (go_at_call 109; refine (jnan_c _ _).mono ?_; rintro e w' ⟨rfl, rfl⟩)
  go_ret
  rw [R.out]
  exact ⟨rfl, rfl⟩
 ·by_cases h2 : y < x
  ·have R : Hid (cvI x y = 1) := by show cvI x y = 1; unfold cvI; rw [if_neg h1, if_pos h2]
   go_enter Tryz.func100, Tryz.ntmps100
   go_wp2_with (go_at_call 109; refine (jnan_c _ _).mono ?_; rintro e w' ⟨rfl, rfl⟩)
   go_ret
   rw [R.out]
   exact ⟨rfl, rfl⟩
  ·have R : Hid (cvI x y = 0) := by show cvI x y = 0; unfold cvI; rw [if_neg h1, if_neg h2]
   go_enter Tryz.func100, Tryz.ntmps100
   go_wp2_with (go_at_call 109; refine (jnan_c _ _).mono ?_; rintro e w' ⟨rfl, rfl⟩)
   go_ret
   rw [R.out]
   exact ⟨rfl, rfl⟩
def cvT (x y : T4) : Int := cvI (x.ct : Nat) (y.ct : Nat)
def cT (x y : T4) : Bool := decide (cvT x y < 0)
def ltT (x y : T4) : Prop := x.ct < y.ct ∨ (x.ct = y.ct ∧ x.sy < y.sy)
theorem ltT_trans (x y z : T4) (h1 : ltT x y) (h2 : ltT y z) : ltT x z := by
 unfold ltT at *; omega
theorem cT_iff (x y : T4) : cT x y = true ↔ x.ct < y.ct := by
 unfold cT cvT cvI
 rw [decide_eq_true_eq]
 split
 ·rename_i h; constructor <;> intro <;> omega
 ·rename_i h
  split <;> constructor <;> intro <;> omega
theorem cr_of (x y : T4) (h : x.sy < y.sy) : Sx.Cr cT ltT x y := by
 constructor
 ·intro hc
  exact .inl ((cT_iff _ _).1 hc)
 ·intro hc
  have : ¬ y.ct < x.ct := fun e => by rw [(cT_iff y x).2 e] at hc; cases hc
  unfold ltT; omega
theorem jless_c (x y : T4) (w : World) : Calls Tryz.prog 99 #[.agg (tc x).toArray, .agg (tc y).toArray] w fun e w' => e = .returned (.int .i64 (cvT x y)) ∧ Below w.heap.size w w' := by
 have C : Hid (∀ w0, Calls Tryz.prog 100 #[.int .i64 (x.ct : Nat), .int .i64 (y.ct : Nat)] w0 fun e w' => e = .returned (.int .i64 (cvT x y)) ∧ w' = w0) := fun w0 => jcompare_c _ _ w0
 unfold tc
 generalize cvT x y = v at *
 go_enter Tryz.func99, Tryz.ntmps99
 go_wp2_with fail
 refine (C.out _).mono ?_
 rintro e w' ⟨rfl, rfl⟩
 go_wp2
 go_ret
 exact ⟨rfl, (below_alloc w _).alloc (by simp) _⟩
end Go.Proofs.YtcaalcjcpddhaaaGreat.Zz
namespace Go.Proofs.YtcaalcjcpddhaaaGreat.Zz
open Go.RowKit
set_option maxHeartbeats 8000000 in
theorem jswr_c (g L cap a b n : Nat) (f : Nat → T4) (w : World) (hT : TH w g f) (h1 : a + n ≤ b) (h2 : b + n ≤ L) (h3 : L ≤ 511) :
  Calls Tryz.prog 119 #[.slice (some ⟨g, 0, none⟩) L cap, .int .i64 a, .int .i64 b, .int .i64 n, .func (.func 99) #[] #[]] w fun e w' => e = .returned (.tuple #[]) ∧ SO g w (fun f' => f' = Sx.swr f a b n) w' := by
 have HT : Hid (TH w g (Sx.swr f a b 0)) := by show TH w g (Sx.swr f a b 0); rw [Sx.swr_start]; exact hT
 clear hT
 go_enter Tryz.func119, Tryz.ntmps119
 go_wp2
 go_loopw [10] (fun i wr => ∃ t : Nat, t ≤ n ∧ i = .int .i64 t ∧ Hid (TH wr g (Sx.swr f a b t)) ∧ Hid (Bar g w wr)) (fun i _ => n - (intOf i).toNat)
 case atStart => exact ⟨0, Nat.zero_le _, rfl, HT, Bar.refl _ _⟩
 case round =>
  obtain ⟨t, ht, rfl, HH, HB⟩ := hrel
  by_cases hlt : t < n
  ·have hlt2 : (t : Int) < (n : Int) := by omega
   have k1 : (a : Int) + (t : Int) < (L : Int) := by omega
   have k2 : (b : Int) + (t : Int) < (L : Int) := by omega
   have k3 : a + t < L := by omega
   have k4 : b + t < L := by omega
   obtain ⟨F, hF⟩ : ∃ F, Hid (F = Sx.swr f a b t) := ⟨_, rfl⟩
   have HE := hide (Sx.swr_step f a b t (by omega))
   replace HH : Hid (TH wr g F) := by show TH wr g F; rw [hF.out]; exact HH.out
   replace HE : Hid (Sx.swp F (a + t) (b + t) = Sx.swr f a b (t + 1)) := by show _ = _; rw [hF.out]; exact HE.out
   have p1 : 0 ≤ (a : Int) + (t : Int) := by omega
   have p2 : 0 ≤ (b : Int) + (t : Int) := by omega
   have e1 : ((a : Int) + (t : Int)).toNat = a + t := by omega
   have e2 : ((b : Int) + (t : Int)).toNat = b + t := by omega
   have sl1 : IntKind.i64.wrap ((a : Int) + (t : Int)) = (a : Int) + (t : Int) := by rw [IntKind.wrap_i64]; omega
   have sl2 : IntKind.i64.wrap ((b : Int) + (t : Int)) = (b : Int) + (t : Int) := by rw [IntKind.wrap_i64]; omega
   go_wp2
   refine region_g [21, 23] (fun w' => TH w' g F) (by kernel_rfl) ?_
   have hS : TH wr.drew g F := HH.out.drew
   have HB2 : Hid (Bar g w wr.drew) := HB.out.drew
   generalize wr.drew = Y at *
   refine AnyG.take 0 (v := ?vv1) rfl (by kernel_rfl) (by kernel_rfl) (by kernel_rfl) (by kernel_rfl) (fun _ _ _ h => h) hS ?hy1 (by rfl) ?rest1
   case hy1 =>
    intro w0 h0
    go_simp
    try with_reducible rfl
   simp only [Act.put, yq0, yq1, yq2, yq3, yq4, yq5]
   refine AnyG.take 1 (v := ?vv2) rfl (by kernel_rfl) (by kernel_rfl) (by kernel_rfl) (by kernel_rfl) (fun _ _ _ h => h) hS ?hy2 (by rfl) ?rest2
   case hy2 =>
    intro w0 h0
    go_simp
    try with_reducible rfl
   simp only [Act.put, yq0, yq1, yq2, yq3, yq4, yq5]
   refine AnyG.take 2 (v := ?vv3) rfl (by kernel_rfl) (by kernel_rfl) (by kernel_rfl) (by kernel_rfl) (fun _ _ _ h => h) hS ?hy3 (by rfl) ?rest3
   case hy3 =>
    intro w0 h0
    go_simp
    try with_reducible rfl
   simp only [Act.put, yq0, yq1, yq2, yq3, yq4, yq5]
   refine AnyG.take 3 (v := ?vv4) rfl (by kernel_rfl) (by kernel_rfl) (by kernel_rfl) (by kernel_rfl) (fun _ _ _ h => h) hS ?hy4 (by rfl) ?rest4
   case hy4 =>
    intro w0 h0
    go_simp
    try with_reducible rfl
   simp only [Act.put, yq0, yq1, yq2, yq3, yq4, yq5]
   refine AnyG.take 8 (v := ?vv5) rfl (by kernel_rfl) (by kernel_rfl) (by kernel_rfl) (by kernel_rfl) (fun _ _ _ h => h) hS ?hy5 (by rfl) ?rest5
   case hy5 =>
    intro w0 h0
    go_simp
    try with_reducible rfl
   simp only [Act.put, yq0, yq1, yq2, yq3, yq4, yq5]
   refine AnyG.take 9 (v := ?vv6) rfl (by kernel_rfl) (by kernel_rfl) (by kernel_rfl) (by kernel_rfl) (fun _ _ _ h => h) hS ?hy6 (by rfl) ?rest6
   case hy6 =>
    intro w0 h0
    go_simp
    try with_reducible rfl
   simp only [Act.put, yq0, yq1, yq2, yq3, yq4, yq5]
   refine AnyG.take 10 (v := ?vv7) rfl (by kernel_rfl) (by kernel_rfl) (by kernel_rfl) (by kernel_rfl) (fun _ _ _ h => h) hS ?hy7 (by rfl) ?rest7
   case hy7 =>
    intro w0 h0
    go_simp
    try with_reducible rfl
   simp only [Act.put, yq0, yq1, yq2, yq3, yq4, yq5]
   refine AnyG.take 11 (v := ?vv8) rfl (by kernel_rfl) (by kernel_rfl) (by kernel_rfl) (by kernel_rfl) (fun _ _ _ h => h) hS ?hy8 (by rfl) ?rest8
   case hy8 =>
    intro w0 h0
    go_simp
    try with_reducible rfl
   simp only [Act.put, yq0, yq1, yq2, yq3, yq4, yq5]
   refine AnyG.take 12 (v := ?vv9) rfl (by kernel_rfl) (by kernel_rfl) (by kernel_rfl) (by kernel_rfl) (fun _ _ _ h => h) hS ?hy9 (by rfl) ?rest9
   case hy9 =>
    intro w0 h0
    go_simp
    try with_reducible rfl
   simp only [Act.put, yq0, yq1, yq2, yq3, yq4, yq5]
   refine AnyG.take 13 (v := .agg (tc (F (b + t))).toArray) rfl (by kernel_rfl) (by kernel_rfl) (by kernel_rfl) (by kernel_rfl) (fun _ _ _ h => h) hS (fun w0 h0 => run_load_th g F (b + t) _ (by omega) (by omega) rfl h0) (by rfl) ?rest10
   simp only [Act.put, yq0, yq1, yq2, yq3, yq4, yq5]
   refine AnyG.takeW 14 (v := ?vv11) rfl (by kernel_rfl) (by kernel_rfl) (by kernel_rfl) (fun _ _ _ h => h) ?hy11 (by rfl) ?rest11
   case hy11 =>
    intro w0
    go_simp
    try with_reducible rfl
   simp only [Act.put, yq0, yq1, yq2, yq3, yq4, yq5]
   refine AnyG.takeW 15 (v := ?vv12) rfl (by kernel_rfl) (by kernel_rfl) (by kernel_rfl) (fun _ _ _ h => h) ?hy12 (by rfl) ?rest12
   case hy12 =>
    intro w0
    go_simp
    try with_reducible rfl
   simp only [Act.put, yq0, yq1, yq2, yq3, yq4, yq5]
   refine AnyG.takeW 16 (v := ?vv13) rfl (by kernel_rfl) (by kernel_rfl) (by kernel_rfl) (fun _ _ _ h => h) ?hy13 (by rfl) ?rest13
   case hy13 =>
    intro w0
    go_simp
    try with_reducible rfl
   simp only [Act.put, yq0, yq1, yq2, yq3, yq4, yq5]
   refine AnyG.takeW 17 (v := ?vv14) rfl (by kernel_rfl) (by kernel_rfl) (by kernel_rfl) (fun _ _ _ h => h) ?hy14 (by rfl) ?rest14
   case hy14 =>
    intro w0
    go_simp
    try with_reducible rfl
   simp only [Act.put, yq0, yq1, yq2, yq3, yq4, yq5]
   refine AnyG.takeW 18 (v := ?vv15) rfl (by kernel_rfl) (by kernel_rfl) (by kernel_rfl) (fun _ _ _ h => h) ?hy15 (by rfl) ?rest15
   case hy15 =>
    intro w0
    go_simp
    try with_reducible rfl
   simp only [Act.put, yq0, yq1, yq2, yq3, yq4, yq5]
   refine AnyG.take 19 (v := .agg (tc (F (a + t))).toArray) rfl (by kernel_rfl) (by kernel_rfl) (by kernel_rfl) (by kernel_rfl) (fun _ _ _ h => h) hS (fun w0 h0 => run_load_th g F (a + t) _ (by omega) (by omega) rfl h0) (by rfl) ?rest16
   simp only [Act.put, yq0, yq1, yq2, yq3, yq4, yq5]
   refine AnyG.takeW 4 (v := ?vv17) rfl (by kernel_rfl) (by kernel_rfl) (by kernel_rfl) (fun _ _ _ h => h) ?hy17 (by rfl) ?rest17
   case hy17 =>
    intro w0
    go_simp
    try with_reducible rfl
   simp only [Act.put, yq0, yq1, yq2, yq3, yq4, yq5]
   refine AnyG.takeW 5 (v := ?vv18) rfl (by kernel_rfl) (by kernel_rfl) (by kernel_rfl) (fun _ _ _ h => h) ?hy18 (by rfl) ?rest18
   case hy18 =>
    intro w0
    go_simp
    try with_reducible rfl
   simp only [Act.put, yq0, yq1, yq2, yq3, yq4, yq5]
   refine AnyG.takeW 6 (v := ?vv19) rfl (by kernel_rfl) (by kernel_rfl) (by kernel_rfl) (fun _ _ _ h => h) ?hy19 (by rfl) ?rest19
   case hy19 =>
    intro w0
    go_simp
    try with_reducible rfl
   simp only [Act.put, yq0, yq1, yq2, yq3, yq4, yq5]
   refine AnyG.takeW 7 (v := ?vv20) rfl (by kernel_rfl) (by kernel_rfl) (by kernel_rfl) (fun _ _ _ h => h) ?hy20 (by rfl) ?rest20
   case hy20 =>
    intro w0
    go_simp
    try with_reducible rfl
   simp only [Act.put, yq0, yq1, yq2, yq3, yq4, yq5]
   refine AnyG.takeW 20 (v := ?vv21) rfl (by kernel_rfl) (by kernel_rfl) (by kernel_rfl) (fun _ _ _ h => h) ?hy21 (by rfl) ?rest21
   case hy21 =>
    intro w0
    go_simp
    try with_reducible rfl
   simp only [Act.put, yq0, yq1, yq2, yq3, yq4, yq5]
   refine AnyG.one 21 (by kernel_rfl) rfl ?_
   intro K hK
   refine wp_store_th _ _ rfl g F (a + t) _ (F (b + t)) (by omega) (by omega) rfl rfl hS ?_
   intro w1 hT1 hB1
   refine hK.out _ _ (fun h => absurd (by decide) h) ?_
   clear hK K
   try simp only [Act.put, yq0, yq1, yq2, yq3, yq4, yq5]
   have HB3 : Hid (Bar g w w1) := HB2.out.trans hB1
   clear hB1 HB2 hS HH HB
   refine AnyG.takeW 22 (v := ?vv22) rfl (by kernel_rfl) (by kernel_rfl) (by kernel_rfl) (fun _ _ _ h => h) ?hy22 (by rfl) ?rest22
   case hy22 =>
    intro w0
    go_simp
    try with_reducible rfl
   simp only [Act.put, yq0, yq1, yq2, yq3, yq4, yq5]
   refine AnyG.one 23 (by kernel_rfl) rfl ?_
   intro K hK
   refine wp_store_th _ _ rfl g _ (b + t) _ (F (a + t)) (by omega) (by omega) rfl rfl hT1 ?_
   intro w2 hT2 hB2
   refine hK.out _ _ (fun h => absurd (by decide) h) ?_
   clear hK K
   try simp only [Act.put, yq0, yq1, yq2, yq3, yq4, yq5]
   refine AnyG.done (by kernel_rfl) ?_ _
   have HB4 : Hid (Bar g w w2) := HB3.out.trans hB2
   rw [upd_swp F (a + t) (b + t) (by omega), HE.out] at hT2
   have HT2 := hide hT2
   clear hB2 HB3 hT2 hT1 HE hF
   go_wp2
   exact ⟨⟨t + 1, by omega, by go_num, HT2, HB4⟩, by simp only [intOf]; omega⟩
  ·obtain rfl : t = n := by omega
   go_wp2
   refine bodyPost_end (results_none rfl _ _ _) rfl ?_
   exact ⟨rfl, SO.mk _ HH.out rfl HB.out⟩
theorem jswr_l (g L cap : Nat) (f : Nat → T4) (w : World) (hT : TH w g f) (x y z : Int) (a b n : Nat) (hx : x = (a : Nat)) (hy : y = (b : Nat)) (hz : z = (n : Nat)) (h1 : a + n ≤ b) (h2 : b + n ≤ L) (h3 : L ≤ 511) :
  Calls Tryz.prog 119 #[.slice (some ⟨g, 0, none⟩) L cap, .int .i64 x, .int .i64 y, .int .i64 z, .func (.func 99) #[] #[]] w fun e w' => e = .returned (.tuple #[]) ∧ SO g w (fun f' => f' = Sx.swr f a b n) w' := by
 subst hx hy hz
 exact jswr_c g L cap a b n f w hT h1 h2 h3
set_option maxHeartbeats 8000000 in
theorem jrot_c (g L cap a m b : Nat) (f : Nat → T4) (w : World) (hT : TH w g f) (h1 : a < m) (h2 : m < b) (h3 : b ≤ L) (h4 : L ≤ 511) :
  Calls Tryz.prog 117 #[.slice (some ⟨g, 0, none⟩) L cap, .int .i64 a, .int .i64 m, .int .i64 b, .func (.func 99) #[] #[]] w fun e w' => e = .returned (.tuple #[]) ∧ SO g w (fun f' => f' = Sx.rot f a m b) w' := by
 have HT := hide hT
 have H0 : Hid (Sx.rot f (m - (m - a)) m (m + (b - m)) = Sx.rot f a m b) := by
  show _ = _
  rw [show m - (m - a) = a by omega, show m + (b - m) = b by omega]
 have C : Hid (∀ (F : Nat → T4) (w0 : World), TH w0 g F → ∀ (x y z : Int) (p q n : Nat), x = (p : Nat) → y = (q : Nat) → z = (n : Nat) → p + n ≤ q → q + n ≤ L → Calls Tryz.prog 119 #[.slice (some ⟨g, 0, none⟩) L cap, .int .i64 x, .int .i64 y, .int .i64 z, .func (.func 99) #[] #[]] w0 fun e w' => e = .returned (.tuple #[]) ∧ SO g w0 (fun f' => f' = Sx.swr F p q n) w') := fun F w0 hF x y z p q n e1 e2 e3 g1 g2 => jswr_l g L cap F w0 hF x y z p q n e1 e2 e3 g1 g2 h4
 clear hT
 have i0 : (m : Int) - (a : Int) = ((m - a : Nat) : Int) := by omega
 have j0 : (b : Int) - (m : Int) = ((b - m : Nat) : Int) := by omega
 go_enter Tryz.func117, Tryz.ntmps117
 go_wp2
 go_loopw [10, 11] (fun vi vj wr => ∃ (i j : Nat) (F : Nat → T4), 0 < i ∧ i ≤ m ∧ 0 < j ∧ m + j ≤ L ∧ vi = .int .i64 i ∧ vj = .int .i64 j ∧ Hid (TH wr g F) ∧ Hid (Bar g w wr) ∧ Hid (Sx.rot F (m - i) m (m + j) = Sx.rot f a m b)) (fun vi vj _ => (intOf vi).toNat + (intOf vj).toNat)
 case atStart => exact ⟨m - a, b - m, f, by omega, by omega, by omega, by omega, by go_num, by go_num, HT, Bar.refl _ _, H0⟩
 case round =>
  obtain ⟨i, j, F, hi0, him, hj0, hjL, rfl, rfl, HH, HB, HR⟩ := hrel
  clear i0 j0 HT H0
  by_cases hij : i = j
  ·have hne : ((i : Int) != (j : Int)) = false := by simp [hij]
   have HRn : Hid (Sx.swr F (m - i) m i = Sx.rot f a m b) := by
    show _ = _
    rw [Sx.rot_same F m i him, ← HR.out, hij]
   have HIJ := hide hij
   clear hij
   go_wp2_with fail
   refine (C.out F _ HH.out _ _ _ (m - i) m i (by omega) (by omega) (by omega) (by omega) (by have := HIJ.out; omega)).mono ?_
   rintro e w1 ⟨rfl, f', hT', rfl, hB⟩
   have HB1 := hide (HB.out.trans hB)
   rw [HRn.out] at hT'
   have HT1 := hide hT'
   clear hB hT' HB HH
   go_wp2
   refine bodyPost_end (results_none rfl _ _ _) rfl ?_
   exact ⟨rfl, SO.mk _ HT1.out rfl HB1.out⟩
  ·have hne : ((i : Int) != (j : Int)) = true := by simp; omega
   by_cases hgt : j < i
   ·have hgt2 : (j : Int) < (i : Int) := by omega
    have HRn := hide (Sx.rot_left F m i j him hj0 hgt)
    go_wp2_with fail
    refine (C.out F _ HH.out _ _ _ (m - i) m j (by omega) (by omega) (by omega) (by omega) (by omega)).mono ?_
    rintro e w1 ⟨rfl, f', hT', rfl, hB⟩
    have HB1 := hide (HB.out.trans hB)
    have HT1 := hide hT'
    have HR1 : Hid (Sx.rot (Sx.swr F (m - i) m j) (m - (i - j)) m (m + j) = Sx.rot f a m b) := HRn.out.trans HR.out
    clear hB hT' HB HH HRn HR
    go_wp2
    exact ⟨⟨i - j, j, _, by omega, by omega, by omega, by omega, by go_num, rfl, HT1, HB1, HR1⟩, by simp only [intOf]; omega⟩
   ·have hgt2 : ¬ (j : Int) < (i : Int) := by omega
    have HRn := hide (Sx.rot_right F m i j him hi0 (by omega))
    go_wp2_with fail
    refine (C.out F _ HH.out _ _ _ (m - i) (m + j - i) i (by omega) (by omega) (by omega) (by omega) (by omega)).mono ?_
    rintro e w1 ⟨rfl, f', hT', rfl, hB⟩
    have HB1 := hide (HB.out.trans hB)
    have HT1 := hide hT'
    have HR1 : Hid (Sx.rot (Sx.swr F (m - i) (m + j - i) i) (m - i) m (m + (j - i)) = Sx.rot f a m b) := HRn.out.trans HR.out
    clear hB hT' HB HH HRn HR
    go_wp2
    exact ⟨⟨i, j - i, _, by omega, by omega, by omega, by omega, rfl, by go_num, HT1, HB1, HR1⟩, by simp only [intOf]; omega⟩
end Go.Proofs.YtcaalcjcpddhaaaGreat.Zz
