/-
  What is built of a row that may be; an argument of one of the kinds opened. What stays of a row of a kind where one other block is written; a part of a struct into its block. The contract of the program's Build. The contracts of heads and small. What the row says of the two tables: they lie where the program lays them.
-/
import Derived.Test.YtpeecabfcgijhaaGreatDoorM12
import Derived.Test.YtpeecabfcgijhaaGreatDoorM17
import Derived.Test.YtpeecabfcgijhaaGreatDoorM32
import Derived.Test.YtpeecabfcgijhaaGreatDoorM09
import Derived.Test.YtpeecabfcgijhaaGreatDoorRows
namespace Go.Proofs.YtpeecabfcgijhaaGreatDoor
open Go.ChangeShapes Go.WideShapes Go.ChangeAt Go.RowKit Go.Joins Go.Deep Num Bit Bn
set_option linter.unusedVariables false
set_option maxRecDepth 100000

theorem kB_p (N : Int) (xs : List Nat) (h : kE7 N xs = 0) : kB 1 N xs = ⟨1, kB7 N xs, n8, n9⟩ := by
 have e : kE 1 N xs = 0 := h
 unfold kB
 rw [if_pos e]
 rfl
theorem kB_r (N : Int) (xs : List Nat) (h : kE8 N xs = 0) : kB 2 N xs = ⟨2, n7, kB8 N xs, n9⟩ := by
 have e : kE 2 N xs = 0 := h
 unfold kB
 rw [if_pos e]
 rfl
theorem kB_f (N : Int) (xs : List Nat) (h : kE9 N xs = 0) : kB 3 N xs = ⟨3, n7, n8, kB9 N xs⟩ := by
 have e : kE 3 N xs = 0 := h
 unfold kB
 rw [if_pos e]
 rfl
theorem kB_none (k N : Int) (xs : List Nat) (h : kE k N xs ≠ 0) : kB k N xs = ⟨0, n7, n8, n9⟩ := by
 unfold kB
 rw [if_neg h]
theorem on_mp (p : RA7) : kOn ⟨1, p, n8, n9⟩ = 1 := by
 have : kZs ⟨1, p, n8, n9⟩ = true := rfl
 unfold kOn
 rw [if_pos this]
theorem on_mr (r : RA8) : kOn ⟨2, n7, r, n9⟩ = 2 := by
 have : kZs ⟨2, n7, r, n9⟩ = true := rfl
 unfold kOn
 rw [if_pos this]
theorem on_mf (f : RA9) : kOn ⟨3, n7, n8, f⟩ = 3 := by
 have : kZs ⟨3, n7, n8, f⟩ = true := rfl
 unfold kOn
 rw [if_pos this]
theorem kB_ok (k N : Int) (xs : List Nat) (h1 : 1 ≤ k) (h3 : k ≤ 3) (hf : Fit xs) (hk : chk N xs = true) (hN : N ≤ 3000) : kOk (kB k N xs) = true ∧ kBN (kB k N xs) = N ∧ kBX (kB k N xs) = xs := by
 have e0 := kE_ok k N xs h1 h3 hk
 have h : k = 1 ∨ k = 2 ∨ k = 3 := by omega
 rcases h with rfl | rfl | rfl
 ·rw [kB_p N xs e0]
  obtain ⟨e1, e2, e3, _⟩ := on_p (on_mp (kB7 N xs))
  obtain ⟨g1, g2, g3⟩ := kB_ok7 N xs hk
  exact ⟨e1.trans g1, e2.trans g2, e3.trans g3⟩
 ·rw [kB_r N xs e0]
  obtain ⟨e1, e2, e3, _⟩ := on_r (on_mr (kB8 N xs))
  obtain ⟨g1, g2, g3⟩ := kB_ok8 N xs hf hk
  exact ⟨e1.trans g1, e2.trans g2, e3.trans g3⟩
 ·rw [kB_f N xs e0]
  obtain ⟨e1, e2, e3, _⟩ := on_f (on_mf (kB9 N xs))
  obtain ⟨g1, g2, g3⟩ := kB_ok9 N xs hf hk hN
  exact ⟨e1.trans g1, e2.trans g2, e3.trans g3⟩
theorem kZ_pos (N : Int) (xs : List Nat) (hf : Fit xs) (hk : chk N xs = true) : 0 < kZ (kB 2 N xs) := by
 rw [kB_r N xs (kE_ok8 N xs hk), (on_r (on_mr (kB8 N xs))).2.2.2]
 exact kZ_pos8 N xs hf hk
end Go.Proofs.YtpeecabfcgijhaaGreatDoor

namespace Go.Proofs.YtpeecabfcgijhaaGreatDoor
open Go.RowKit Num Bit
set_option linter.unusedVariables false
set_option linter.unusedSimpArgs false
set_option maxRecDepth 100000

theorem Only.nd {g base : Nat} {w w' : World} {ao : Option Addr} {l : List Int} (h : Only g w w') (hx : Nd w ao l) (hf : Fr base ao) (hg : g < base) : Nd w' ao l := by
 intro h0
 obtain ⟨b, off, rfl, hlt, hc⟩ := hx h0
 have hne : base ≤ b := hf _ rfl
 exact ⟨b, off, rfl, by rw [h.size]; exact hlt, fun i hi => (h.cell (p := ⟨b, off + i, none⟩) (show b ≠ g by omega)).trans (hc i hi)⟩
def Nou (cs : List Value) : Prop := ∀ v ∈ cs, ∀ n, v ≠ .int .u64 n
theorem Nou.app {a b : List Value} (h : Nou a) (g : Nou b) : Nou (a ++ b) := fun v hv n => by
 rcases List.mem_append.1 hv with e | e
 ·exact h v e n
 ·exact g v e n
theorem KArg7.nou {w : World} {cs : List Value} {a : RA7} (h : KArg7 w cs a) : Nou cs := by
 obtain ⟨ao, cap, so, sc, tO, tc, rfl, _⟩ := h
 intro v hv n
 simp at hv
 rcases hv with rfl | rfl | rfl | rfl <;> simp
theorem KArg8.nou {w : World} {cs : List Value} {a : RA8} (h : KArg8 w cs a) : Nou cs := by
 obtain ⟨ao, cap, qo, dap, so, sc, tO, tc, rfl, _⟩ := h
 intro v hv n
 simp at hv
 rcases hv with rfl | rfl | rfl | rfl | rfl | rfl | rfl | rfl | rfl <;> simp
theorem KArg9.nou {w : World} {cs : List Value} {a : RA9} (h : KArg9 w cs a) : Nou cs := by
 obtain ⟨ao, cap, qo, dap, rfl, _⟩ := h
 intro v hv n
 simp at hv
 rcases hv with rfl | rfl | rfl | rfl | rfl | rfl | rfl | rfl <;> simp
theorem KI7.only {w w2 : World} {g base : Nat} {cs gs : List Value} {a : RA7} {T : TypeId} (h : KI7 w cs a) (nf : NF base 2 cs) (hg : g < base) (hc : Cel w g gs T) (hn : Nou gs) (hO : Only g w w2) : KI7 w2 cs a := by
 obtain ⟨⟨ao, cap, so, sc, tO, tc, rfl, h⟩, xl, sl, tl⟩ := h
 exact ⟨⟨ao, cap, so, sc, tO, tc, rfl, ⟨h.n, hO.wd h.x (h.x.apart hc hn), h.f, h.c, hO.nd h.s (nf _ _ _ (.inl rfl)) hg, h.sf, h.sc, hO.nd h.t (nf _ _ _ (.inr rfl)) hg, h.tf, h.tc⟩⟩, xl, sl, tl⟩
theorem KI8.only {w w2 : World} {g base : Nat} {cs gs : List Value} {a : RA8} {T : TypeId} (h : KI8 w cs a) (nf : NF base 7 cs) (hg : g < base) (hc : Cel w g gs T) (hn : Nou gs) (hO : Only g w w2) (G2 : GV w2) : KI8 w2 cs a := by
 obtain ⟨⟨ao, cap, qo, dap, so, sc, tO, tc, rfl, r, a1, a2, a3, a4, a5, a6, a7, a8, a9, a10⟩, xl, yl, sl, tl, _⟩ := h
 exact ⟨⟨ao, cap, qo, dap, so, sc, tO, tc, rfl, r, hO.wd a1 (a1.apart hc hn), a2, a3, hO.wd a4 (a4.apart hc hn), a5, a6, hO.nd a7 (nf _ _ _ (.inl rfl)) hg, a8, hO.nd a9 (nf _ _ _ (.inr rfl)) hg, a10⟩, xl, yl, sl, tl, G2⟩
theorem KI9.only {w w2 : World} {g : Nat} {cs gs : List Value} {a : RA9} {T : TypeId} (h : KI9 w cs a) (hc : Cel w g gs T) (hn : Nou gs) (hO : Only g w w2) : KI9 w2 cs a := by
 obtain ⟨⟨ao, cap, qo, dap, rfl, r, a1, a2, a3, a4, a5, a6⟩, n3, xl, yl⟩ := h
 exact ⟨⟨ao, cap, qo, dap, rfl, r, hO.wd a1 (a1.apart hc hn), a2, a3, hO.wd a4 (a4.apart hc hn), a5, a6⟩, n3, xl, yl⟩
theorem i64_0 : I64 0 := ⟨by decide, by decide⟩
theorem z7arg (w : World) : KI7 w [Value.int .i64 0, .slice none 0 0, .slice none 0 0, .slice none 0 0] n7 := ⟨⟨none, 0, none, 0, none, 0, rfl, ⟨i64_0, wd0' _ _, fit_nil, Nat.le_refl _, nd0 _ _, fitI_nil, Nat.le_refl _, nd0 _ _, fitI_nil, Nat.le_refl _⟩⟩, Nat.zero_le _, Nat.zero_le _, Nat.zero_le _⟩
theorem z8a (w : World) : KArg8 w [Value.int .i64 0, .int .i64 0, .int .i64 0, .int .i64 0, .slice none 0 0, .int .i64 0, .slice none 0 0, .slice none 0 0, .slice none 0 0] n8 := ⟨none, 0, none, 0, none, 0, none, 0, rfl, ⟨i64_0, i64_0, i64_0, i64_0, i64_0, fitI_nil, fitI_nil⟩, wd0' _ _, fit_nil, Nat.le_refl _, wd0' _ _, fit_nil, Nat.le_refl _, nd0 _ _, Nat.le_refl _, nd0 _ _, Nat.le_refl _⟩
theorem z8arg (w : World) (G : GV w) : KI8 w [Value.int .i64 0, .int .i64 0, .int .i64 0, .int .i64 0, .slice none 0 0, .int .i64 0, .slice none 0 0, .slice none 0 0, .slice none 0 0] n8 := ⟨z8a w, Nat.zero_le _, Nat.zero_le _, Nat.zero_le _, Nat.zero_le _, G⟩
theorem z9arg (w : World) : KI9 w [Value.int .i64 0, .int .i64 0, .int .i64 0, .int .i64 0, .int .i64 0, .slice none 0 0, .int .i64 0, .slice none 0 0] n9 := ⟨⟨none, 0, none, 0, rfl, ⟨i64_0, i64_0, i64_0, i64_0, i64_0, i64_0⟩, wd0' _ _, fit_nil, Nat.le_refl _, wd0' _ _, fit_nil, Nat.le_refl _⟩, by decide, Nat.zero_le _, Nat.zero_le _⟩
theorem ki_mk {w : World} {cp cr cf : List Value} {K : Int} {p : RA7} {r : RA8} {f : RA9} (hK : I64 K) (h1 : KI7 w cp p) (h2 : KI8 w cr r) (h3 : KI9 w cf f) : KI w (.int .i64 K :: (cp ++ (cr ++ cf))) ⟨K, p, r, f⟩ :=
 ⟨⟨cp, cr, cf, rfl, hK, h1.arg, h2.arg, h3.arg⟩, ⟨h1.xl, h1.sl, h1.tl, h2.xl, h2.yl, h2.sl, h2.tl, h3.n3, h3.xl, h3.yl⟩, h2.gv⟩
theorem ka_mk {w : World} {cp cr cf : List Value} {K : Int} {p : RA7} {r : RA8} {f : RA9} (hK : I64 K) (h1 : KArg7 w cp p) (h2 : KArg8 w cr r) (h3 : KArg9 w cf f) : KArg w (.int .i64 K :: (cp ++ (cr ++ cf))) ⟨K, p, r, f⟩ := ⟨cp, cr, cf, rfl, hK, h1, h2, h3⟩
theorem nou_mk {cp cr cf : List Value} {K : Int} (h1 : Nou cp) (h2 : Nou cr) (h3 : Nou cf) : Nou (.int .i64 K :: (cp ++ (cr ++ cf))) := fun v hv n => by
 rcases List.mem_cons.1 hv with rfl | e
 ·simp
 ·exact (h1.app (h2.app h3)) v e n
theorem cel_cells {w : World} {g : Nat} {T : TypeId} : ∀ (cs pre old post : List Value), old.length = cs.length → Cel w g (pre ++ (old ++ post)) T → Cel (w.setCells g pre.length cs) g (pre ++ (cs ++ post)) T ∧ Only g w (w.setCells g pre.length cs) := by
 intro cs
 induction cs generalizing w with
 | nil =>
  intro pre old post hl h
  obtain rfl := List.eq_nil_of_length_eq_zero hl
  exact ⟨h, Only.refl _ _⟩
 | cons v r ih =>
  intro pre old post hl h
  match old, hl with
  | u :: o, hl =>
   have h2 : Cel (w.setCell ⟨g, pre.length, none⟩ v) g ((pre ++ [v]) ++ (o ++ post)) T := by
    have := h.set pre.length v
    have e : (pre ++ (u :: o ++ post)).set pre.length v = (pre ++ [v]) ++ (o ++ post) := by
     rw [List.set_append_right _ _ (Nat.le_refl _), Nat.sub_self]
     simp
    rw [e] at this
    exact this
   have k := ih (pre ++ [v]) o post (by simpa using hl) h2
   rw [List.length_append, List.length_singleton] at k
   refine ⟨?_, ((Only.refl g w).set pre.length v).trans k.2⟩
   have k1 := k.1
   rw [List.append_assoc] at k1
   exact k1
theorem store_part {ops : Array Oper} {rest : List Oper} {d : Option Tmp} {ty T TT : TypeId} {ps : String} {af : Array Edge} {a : Act} {w : World} {Q : Exit → Act → World → Prop} {x y : Operand}
  (g : Nat) (pre old post cs : List Value) (hx : a.eval x = .pointer (some ⟨g, pre.length, none⟩)) (hy : a.eval y = .agg cs.toArray) (hc : Cel w g (pre ++ (old ++ post)) TT) (lo : old.length = cs.length) (hi : (Tryz.prog.info? T).map (·.size) = some cs.length) (h1 : cs.toArray.all (·.oneCell') = true)
  (h : ∀ w1, Cel w1 g (pre ++ (cs ++ post)) TT → Only g w w1 → wpList Tryz.prog ops Q rest (a.put d undef) w1) :
  wpList Tryz.prog ops Q (⟨d, .store T x y, ty, ps, af, none⟩ :: rest) a w := by
 refine wpList_store_mid rfl T x y rfl g pre.length cs.toArray hx hy ?_ (by simpa using hi) h1 ?_
 ·intro j hj
  have hj : j < cs.length := by simpa using hj
  have hl : pre.length + j < (pre ++ (old ++ post)).length := by simp only [List.length_append]; omega
  exact ⟨by rw [hc.cell (pre.length + j) (List.getElem?_eq_getElem hl)]; rfl, hc.frozen _⟩
 ·have k := cel_cells cs pre old post lo hc
  exact h _ k.1 k.2
end Go.Proofs.YtpeecabfcgijhaaGreatDoor

namespace Go.Proofs.YtpeecabfcgijhaaGreatDoor
open Go.RowKit Num Bit
set_option linter.unusedVariables false
set_option linter.unusedSimpArgs false
set_option maxRecDepth 100000

set_option maxHeartbeats 8000000 in
theorem build_r (N : Int) (ao : Option Addr) (xs : List Nat) (cap : Nat) (w : World) (hN : I64 N) (hx : Wd w ao xs) (hf : Fit xs) (hcap : xs.length ≤ cap) (hl : N ≤ 3000 ∧ xs.length ≤ 1048576) (GG : GV w) :
  Calls Tryz.prog 9 #[.int .i64 2, .agg #[.int .i64 N, .slice ao xs.length cap]] w fun e w' => ∃ cs : List Value, e = .returned (.tuple #[.agg cs.toArray, .int .i64 (kE 2 N xs)]) ∧ KI w' cs (kB 2 N xs) ∧ Below w.heap.size w w' := by
 obtain ⟨W, hW⟩ : ∃ W, W = ((w.alloc (.cells #[.int .i64 N, .slice ao xs.length cap] 24)).alloc (.cells [Value.int .i64 0, .int .i64 0, .slice none 0 0, .slice none 0 0, .slice none 0 0, .int .i64 0, .int .i64 0, .int .i64 0, .int .i64 0, .slice none 0 0, .int .i64 0, .slice none 0 0, .slice none 0 0, .slice none 0 0, .int .i64 0, .int .i64 0, .int .i64 0, .int .i64 0, .int .i64 0, .slice none 0 0, .int .i64 0, .slice none 0 0].toArray 37)).alloc (.cells [Value.int .i64 0, .int .i64 0, .slice none 0 0, .slice none 0 0, .slice none 0 0, .int .i64 0, .int .i64 0, .int .i64 0, .int .i64 0, .slice none 0 0, .int .i64 0, .slice none 0 0, .slice none 0 0, .slice none 0 0, .int .i64 0, .int .i64 0, .int .i64 0, .int .i64 0, .int .i64 0, .slice none 0 0, .int .i64 0, .slice none 0 0].toArray 37) := ⟨_, rfl⟩
 have bw : Below w.heap.size w W := by rw [hW]; exact ((below_alloc w _).alloc (by simp) _).alloc (by simp; omega) _
 have B0 : Cel W w.heap.size [.int .i64 N, .slice ao xs.length cap] 24 := by rw [hW]; exact ((Cel.new w _ _).alloc _).alloc _
 have B4 : Cel W (w.heap.size + 1) [Value.int .i64 0, .int .i64 0, .slice none 0 0, .slice none 0 0, .slice none 0 0, .int .i64 0, .int .i64 0, .int .i64 0, .int .i64 0, .slice none 0 0, .int .i64 0, .slice none 0 0, .slice none 0 0, .slice none 0 0, .int .i64 0, .int .i64 0, .int .i64 0, .int .i64 0, .int .i64 0, .slice none 0 0, .int .i64 0, .slice none 0 0] 37 := by rw [hW]; exact (Cel.new2 w _ _ _).alloc _
 have B6 : Cel W (w.heap.size + 2) [Value.int .i64 0, .int .i64 0, .slice none 0 0, .slice none 0 0, .slice none 0 0, .int .i64 0, .int .i64 0, .int .i64 0, .int .i64 0, .slice none 0 0, .int .i64 0, .slice none 0 0, .slice none 0 0, .slice none 0 0, .int .i64 0, .int .i64 0, .int .i64 0, .int .i64 0, .int .i64 0, .slice none 0 0, .int .i64 0, .slice none 0 0] 37 := by rw [hW]; exact (Cel.new2 (w.alloc _) _ _ _).at (by simp)
 have hIV := Hid.mk8 info_v
 have H8 : Hid (∀ w0, Below w.heap.size w w0 → Calls Tryz.prog 29 #[.agg #[.int .i64 N, .slice ao xs.length cap]] w0 fun e w' => ∃ cs : List Value, e = .returned (.tuple #[.agg cs.toArray, .int .i64 (kE8 N xs)]) ∧ KI8 w' cs (kB8 N xs) ∧ NF w0.heap.size 7 cs ∧ Below w0.heap.size w0 w') := fun w0 h => build_k8 N ao xs cap w0 hN (hx.keep h) hf hcap hl.2 (GG.kept h)
 subst hW
 have hK : I64 2 := by unfold I64; decide
 have eE : kE 2 N xs = kE8 N xs := rfl
 rw [eE]
 by_cases z : kE8 N xs = 0
 ·have ew : kB 2 N xs = ⟨2, n7, kB8 N xs, n9⟩ := kB_r N xs z
  rw [z] at H8 ⊢
  clear eE z
  go_enter Tryz.func9, Tryz.ntmps9
  go_wp2_with (refine store_cel (w.heap.size + 2) _ _ rfl rfl B6 rfl hIV.out (by simp [Value.oneCell']) ?_)
  intro w1 B6 O1
  replace B0 := O1.cel B0 (by omega)
  replace B4 := O1.cel B4 (by omega)
  replace bw := bw.trans (O1.below (by omega))
  clear O1
  have r0 := B0.cell 0 rfl
  have r1 := B0.cell 1 rfl
  go_wp2_with fail
  refine (H8.out _ bw).mono ?_
  rintro e w2 ⟨cs, rfl, hP, hN2, hb⟩
  have sz := B6.lt
  have sz2 := hb.size
  replace B4 := B4.kept hb
  replace B6 := B6.kept hb
  replace bw := bw.trans (hb.mono bw.size)
  clear hb r0 r1 B0
  go_wp2_with (refine store_part (w.heap.size + 2) (Value.int .i64 2 :: [Value.int .i64 0, .slice none 0 0, .slice none 0 0, .slice none 0 0]) [Value.int .i64 0, .int .i64 0, .int .i64 0, .int .i64 0, .slice none 0 0, .int .i64 0, .slice none 0 0, .slice none 0 0, .slice none 0 0] [Value.int .i64 0, .int .i64 0, .int .i64 0, .int .i64 0, .int .i64 0, .slice none 0 0, .int .i64 0, .slice none 0 0] cs rfl rfl B6 hP.arg.nine hP.arg.len hP.arg.one ?_)
  intro w3 B7 O3
  have hQ := hP.only hN2 (by omega) B6 (nou_mk (z7arg w).arg.nou (z8a w).nou (z9arg w).arg.nou) O3 (GG.kept (bw.trans (O3.below (by omega))))
  replace B4 := O3.cel B4 (by omega)
  replace bw := bw.trans (O3.below (by omega))
  have B8 : Cel w3 (w.heap.size + 2) (Value.int .i64 2 :: ([Value.int .i64 0, .slice none 0 0, .slice none 0 0, .slice none 0 0] ++ (cs ++ [Value.int .i64 0, .int .i64 0, .int .i64 0, .int .i64 0, .int .i64 0, .slice none 0 0, .int .i64 0, .slice none 0 0]))) 37 := B7
  have HL := Hid.mk8 (ki_mk hK (z7arg w3) hQ (z9arg w3)).arg.len
  have H1 := Hid.mk8 (ki_mk hK (z7arg w3) hQ (z9arg w3)).arg.one
  have H9 := Hid.mk8 (ki_mk hK (z7arg w3) hQ (z9arg w3)).arg.nine
  have HQ := Hid.mk8 (And.intro hQ hN2)
  clear B7 O3 B6 hP hN2 hQ
  go_wp2_with (first | refine load_obj (w.heap.size + 2) _ (by rfl) rfl B8 Tryz.underlying37 HL.out ?_ | refine store_cel (w.heap.size + 1) _ _ rfl rfl B4 H9.out HL.out H1.out ?_)
  intro w9 B9 O9
  have HZ := Hid.mk8 (And.intro B9 (And.intro (ki_mk hK (z7arg w9) (HQ.out.1.only HQ.out.2 (by omega) B4 (nou_mk (z7arg w).arg.nou (z8a w).nou (z9arg w).arg.nou) O9 (GG.kept (bw.trans (O9.below (by omega))))) (z9arg w9)) (bw.trans (O9.below (by omega)))))
  clear B9 O9 B8 B4 HQ
  go_wp2
  (try simp only [Exit.inBlock, Exit.then])
  refine bodyPost_ret (result_cel rfl (w.heap.size + 1) _ rfl HZ.out.1 Tryz.underlying37 HL.out) rfl ⟨_, rfl, ?_, HZ.out.2.2⟩
  rw [ew]
  exact HZ.out.2.1
 ·have ew : kB 2 N xs = ⟨0, n7, n8, n9⟩ := kB_none 2 N xs (by rw [eE]; exact z)
  have zz : (kE8 N xs != 0) = true := by simp [z]
  clear eE z
  generalize kE8 N xs = E1 at *
  go_enter Tryz.func9, Tryz.ntmps9
  go_wp2_with (refine store_cel (w.heap.size + 2) _ _ rfl rfl B6 rfl hIV.out (by simp [Value.oneCell']) ?_)
  intro w1 B6 O1
  replace B0 := O1.cel B0 (by omega)
  replace B4 := O1.cel B4 (by omega)
  replace bw := bw.trans (O1.below (by omega))
  clear O1
  have r0 := B0.cell 0 rfl
  have r1 := B0.cell 1 rfl
  go_wp2_with fail
  refine (H8.out _ bw).mono ?_
  rintro e w2 ⟨cs, rfl, hP, hN2, hb⟩
  have sz := B6.lt
  have sz2 := hb.size
  replace B4 := B4.kept hb
  replace B6 := B6.kept hb
  replace bw := bw.trans (hb.mono bw.size)
  clear hb r0 r1 B0
  go_wp2_with (refine store_part (w.heap.size + 2) (Value.int .i64 2 :: [Value.int .i64 0, .slice none 0 0, .slice none 0 0, .slice none 0 0]) [Value.int .i64 0, .int .i64 0, .int .i64 0, .int .i64 0, .slice none 0 0, .int .i64 0, .slice none 0 0, .slice none 0 0, .slice none 0 0] [Value.int .i64 0, .int .i64 0, .int .i64 0, .int .i64 0, .int .i64 0, .slice none 0 0, .int .i64 0, .slice none 0 0] cs rfl rfl B6 hP.arg.nine hP.arg.len hP.arg.one ?_)
  intro w3 B7 O3
  replace B4 := O3.cel B4 (by omega)
  replace bw := bw.trans (O3.below (by omega))
  clear B7 O3 B6 hP hN2
  go_wp2_with (refine store_cel (w.heap.size + 1) _ _ rfl rfl B4 rfl hIV.out (by simp [Value.oneCell']) ?_)
  intro w9 B9 O9
  have HZ := Hid.mk8 (And.intro B9 (bw.trans (O9.below (by omega))))
  clear B9 O9
  go_wp2
  (try simp only [Exit.inBlock, Exit.then])
  refine bodyPost_ret (result_cel rfl (w.heap.size + 1) _ rfl HZ.out.1 Tryz.underlying37 hIV.out) rfl ⟨_, rfl, ?_, HZ.out.2⟩
  rw [ew]
  exact ki_mk i64_0 (z7arg _) (z8arg _ (GG.kept HZ.out.2)) (z9arg _)
set_option maxHeartbeats 8000000 in
theorem build_k (k N : Int) (ao : Option Addr) (xs : List Nat) (cap : Nat) (w : World) (hK : I64 k) (hN : I64 N) (hx : Wd w ao xs) (hf : Fit xs) (hcap : xs.length ≤ cap) (hl : N ≤ 3000 ∧ xs.length ≤ 1048576) (GG : GV w) :
  Calls Tryz.prog 9 #[.int .i64 k, .agg #[.int .i64 N, .slice ao xs.length cap]] w fun e w' => ∃ cs : List Value, e = .returned (.tuple #[.agg cs.toArray, .int .i64 (kE k N xs)]) ∧ KI w' cs (kB k N xs) ∧ Below w.heap.size w w' := by
 by_cases q2 : k = 2
 ·subst q2
  exact build_r N ao xs cap w hN hx hf hcap hl GG
 obtain ⟨W, hW⟩ : ∃ W, W = ((w.alloc (.cells #[.int .i64 N, .slice ao xs.length cap] 24)).alloc (.cells [Value.int .i64 0, .int .i64 0, .slice none 0 0, .slice none 0 0, .slice none 0 0, .int .i64 0, .int .i64 0, .int .i64 0, .int .i64 0, .slice none 0 0, .int .i64 0, .slice none 0 0, .slice none 0 0, .slice none 0 0, .int .i64 0, .int .i64 0, .int .i64 0, .int .i64 0, .int .i64 0, .slice none 0 0, .int .i64 0, .slice none 0 0].toArray 37)).alloc (.cells [Value.int .i64 0, .int .i64 0, .slice none 0 0, .slice none 0 0, .slice none 0 0, .int .i64 0, .int .i64 0, .int .i64 0, .int .i64 0, .slice none 0 0, .int .i64 0, .slice none 0 0, .slice none 0 0, .slice none 0 0, .int .i64 0, .int .i64 0, .int .i64 0, .int .i64 0, .int .i64 0, .slice none 0 0, .int .i64 0, .slice none 0 0].toArray 37) := ⟨_, rfl⟩
 have bw : Below w.heap.size w W := by rw [hW]; exact ((below_alloc w _).alloc (by simp) _).alloc (by simp; omega) _
 have B0 : Cel W w.heap.size [.int .i64 N, .slice ao xs.length cap] 24 := by rw [hW]; exact ((Cel.new w _ _).alloc _).alloc _
 have B4 : Cel W (w.heap.size + 1) [Value.int .i64 0, .int .i64 0, .slice none 0 0, .slice none 0 0, .slice none 0 0, .int .i64 0, .int .i64 0, .int .i64 0, .int .i64 0, .slice none 0 0, .int .i64 0, .slice none 0 0, .slice none 0 0, .slice none 0 0, .int .i64 0, .int .i64 0, .int .i64 0, .int .i64 0, .int .i64 0, .slice none 0 0, .int .i64 0, .slice none 0 0] 37 := by rw [hW]; exact (Cel.new2 w _ _ _).alloc _
 have B6 : Cel W (w.heap.size + 2) [Value.int .i64 0, .int .i64 0, .slice none 0 0, .slice none 0 0, .slice none 0 0, .int .i64 0, .int .i64 0, .int .i64 0, .int .i64 0, .slice none 0 0, .int .i64 0, .slice none 0 0, .slice none 0 0, .slice none 0 0, .int .i64 0, .int .i64 0, .int .i64 0, .int .i64 0, .int .i64 0, .slice none 0 0, .int .i64 0, .slice none 0 0] 37 := by rw [hW]; exact (Cel.new2 (w.alloc _) _ _ _).at (by simp)
 have hIV := Hid.mk8 info_v
 have H7 : Hid (∀ w0, Below w.heap.size w w0 → Calls Tryz.prog 28 #[.agg #[.int .i64 N, .slice ao xs.length cap]] w0 fun e w' => ∃ cs : List Value, e = .returned (.tuple #[.agg cs.toArray, .int .i64 (kE7 N xs)]) ∧ KI7 w' cs (kB7 N xs) ∧ NF w0.heap.size 2 cs ∧ Below w0.heap.size w0 w') := fun w0 h => build_k7 N ao xs cap w0 hN (hx.keep h) hf hcap hl.2
 have H9 : Hid (∀ w0, Below w.heap.size w w0 → Calls Tryz.prog 30 #[.agg #[.int .i64 N, .slice ao xs.length cap]] w0 fun e w' => ∃ cs : List Value, e = .returned (.tuple #[.agg cs.toArray, .int .i64 (kE9 N xs)]) ∧ KI9 w' cs (kB9 N xs) ∧ Below w0.heap.size w0 w') := fun w0 h => build_k9 N ao xs cap w0 hN (hx.keep h) hf hcap hl
 subst hW
 by_cases q1 : k = 1
 ·subst q1
  have eE : kE 1 N xs = kE7 N xs := rfl
  rw [eE]
  by_cases z : kE7 N xs = 0
  ·have ew : kB 1 N xs = ⟨1, kB7 N xs, n8, n9⟩ := kB_p N xs z
   rw [z] at H7 ⊢
   clear eE z
   go_enter Tryz.func9, Tryz.ntmps9
   go_wp2_with (refine store_cel (w.heap.size + 2) _ _ rfl rfl B6 rfl hIV.out (by simp [Value.oneCell']) ?_)
   intro w1 B6 O1
   replace B0 := O1.cel B0 (by omega)
   replace B4 := O1.cel B4 (by omega)
   replace bw := bw.trans (O1.below (by omega))
   clear O1
   have r0 := B0.cell 0 rfl
   have r1 := B0.cell 1 rfl
   go_wp2_with fail
   refine (H7.out _ bw).mono ?_
   rintro e w2 ⟨cs, rfl, hP, hN2, hb⟩
   have sz := B6.lt
   have sz2 := hb.size
   replace B4 := B4.kept hb
   replace B6 := B6.kept hb
   replace bw := bw.trans (hb.mono bw.size)
   clear hb r0 r1 B0
   go_wp2_with (refine store_part (w.heap.size + 2) [Value.int .i64 1] [Value.int .i64 0, .slice none 0 0, .slice none 0 0, .slice none 0 0] ([Value.int .i64 0, .int .i64 0, .int .i64 0, .int .i64 0, .slice none 0 0, .int .i64 0, .slice none 0 0, .slice none 0 0, .slice none 0 0] ++ [Value.int .i64 0, .int .i64 0, .int .i64 0, .int .i64 0, .int .i64 0, .slice none 0 0, .int .i64 0, .slice none 0 0]) cs rfl rfl B6 hP.arg.four.symm hP.arg.len hP.arg.one ?_)
   intro w3 B7 O3
   have hQ := hP.only hN2 (by omega) B6 (nou_mk (z7arg w).arg.nou (z8a w).nou (z9arg w).arg.nou) O3
   replace B4 := O3.cel B4 (by omega)
   replace bw := bw.trans (O3.below (by omega))
   have B8 : Cel w3 (w.heap.size + 2) (Value.int .i64 1 :: (cs ++ ([Value.int .i64 0, .int .i64 0, .int .i64 0, .int .i64 0, .slice none 0 0, .int .i64 0, .slice none 0 0, .slice none 0 0, .slice none 0 0] ++ [Value.int .i64 0, .int .i64 0, .int .i64 0, .int .i64 0, .int .i64 0, .slice none 0 0, .int .i64 0, .slice none 0 0]))) 37 := B7
   have HL := Hid.mk8 (ka_mk hK hQ.arg (z8a w3) (z9arg w3).arg).len
   have H1 := Hid.mk8 (ka_mk hK hQ.arg (z8a w3) (z9arg w3).arg).one
   have H9 := Hid.mk8 (ka_mk hK hQ.arg (z8a w3) (z9arg w3).arg).nine
   have HQ := Hid.mk8 (And.intro hQ hN2)
   clear B7 O3 B6 hP hN2 hQ
   go_wp2_with (first | refine load_obj (w.heap.size + 2) _ (by rfl) rfl B8 Tryz.underlying37 HL.out ?_ | refine store_cel (w.heap.size + 1) _ _ rfl rfl B4 H9.out HL.out H1.out ?_)
   intro w9 B9 O9
   have HZ := Hid.mk8 (And.intro B9 (And.intro (ki_mk hK (HQ.out.1.only HQ.out.2 (by omega) B4 (nou_mk (z7arg w).arg.nou (z8a w).nou (z9arg w).arg.nou) O9) (z8arg w9 (GG.kept (bw.trans (O9.below (by omega))))) (z9arg w9)) (bw.trans (O9.below (by omega)))))
   clear B9 O9 B8 B4 HQ
   go_wp2
   (try simp only [Exit.inBlock, Exit.then])
   refine bodyPost_ret (result_cel rfl (w.heap.size + 1) _ rfl HZ.out.1 Tryz.underlying37 HL.out) rfl ⟨_, rfl, ?_, HZ.out.2.2⟩
   rw [ew]
   exact HZ.out.2.1
  ·have ew : kB 1 N xs = ⟨0, n7, n8, n9⟩ := kB_none 1 N xs (by rw [eE]; exact z)
   have zz : (kE7 N xs != 0) = true := by simp [z]
   clear eE z
   generalize kE7 N xs = E1 at *
   go_enter Tryz.func9, Tryz.ntmps9
   go_wp2_with (refine store_cel (w.heap.size + 2) _ _ rfl rfl B6 rfl hIV.out (by simp [Value.oneCell']) ?_)
   intro w1 B6 O1
   replace B0 := O1.cel B0 (by omega)
   replace B4 := O1.cel B4 (by omega)
   replace bw := bw.trans (O1.below (by omega))
   clear O1
   have r0 := B0.cell 0 rfl
   have r1 := B0.cell 1 rfl
   go_wp2_with fail
   refine (H7.out _ bw).mono ?_
   rintro e w2 ⟨cs, rfl, hP, hN2, hb⟩
   have sz := B6.lt
   have sz2 := hb.size
   replace B4 := B4.kept hb
   replace B6 := B6.kept hb
   replace bw := bw.trans (hb.mono bw.size)
   clear hb r0 r1 B0
   go_wp2_with (refine store_part (w.heap.size + 2) [Value.int .i64 1] [Value.int .i64 0, .slice none 0 0, .slice none 0 0, .slice none 0 0] ([Value.int .i64 0, .int .i64 0, .int .i64 0, .int .i64 0, .slice none 0 0, .int .i64 0, .slice none 0 0, .slice none 0 0, .slice none 0 0] ++ [Value.int .i64 0, .int .i64 0, .int .i64 0, .int .i64 0, .int .i64 0, .slice none 0 0, .int .i64 0, .slice none 0 0]) cs rfl rfl B6 hP.arg.four.symm hP.arg.len hP.arg.one ?_)
   intro w3 B7 O3
   replace B4 := O3.cel B4 (by omega)
   replace bw := bw.trans (O3.below (by omega))
   clear B7 O3 B6 hP hN2
   go_wp2_with (refine store_cel (w.heap.size + 1) _ _ rfl rfl B4 rfl hIV.out (by simp [Value.oneCell']) ?_)
   intro w9 B9 O9
   have HZ := Hid.mk8 (And.intro B9 (bw.trans (O9.below (by omega))))
   clear B9 O9
   go_wp2
   (try simp only [Exit.inBlock, Exit.then])
   refine bodyPost_ret (result_cel rfl (w.heap.size + 1) _ rfl HZ.out.1 Tryz.underlying37 hIV.out) rfl ⟨_, rfl, ?_, HZ.out.2⟩
   rw [ew]
   exact ki_mk i64_0 (z7arg _) (z8arg _ (GG.kept HZ.out.2)) (z9arg _)
 by_cases q3 : k = 3
 ·subst q3
  have eE : kE 3 N xs = kE9 N xs := rfl
  rw [eE]
  by_cases z : kE9 N xs = 0
  ·have ew : kB 3 N xs = ⟨3, n7, n8, kB9 N xs⟩ := kB_f N xs z
   rw [z] at H9 ⊢
   clear eE z
   go_enter Tryz.func9, Tryz.ntmps9
   go_wp2_with (refine store_cel (w.heap.size + 2) _ _ rfl rfl B6 rfl hIV.out (by simp [Value.oneCell']) ?_)
   intro w1 B6 O1
   replace B0 := O1.cel B0 (by omega)
   replace B4 := O1.cel B4 (by omega)
   replace bw := bw.trans (O1.below (by omega))
   clear O1
   have r0 := B0.cell 0 rfl
   have r1 := B0.cell 1 rfl
   go_wp2_with fail
   refine (H9.out _ bw).mono ?_
   rintro e w2 ⟨cs, rfl, hP, hb⟩
   have sz := B6.lt
   have sz2 := hb.size
   replace B4 := B4.kept hb
   replace B6 := B6.kept hb
   replace bw := bw.trans (hb.mono bw.size)
   clear hb r0 r1 B0
   go_wp2_with (refine store_part (w.heap.size + 2) (Value.int .i64 3 :: ([Value.int .i64 0, .slice none 0 0, .slice none 0 0, .slice none 0 0] ++ [Value.int .i64 0, .int .i64 0, .int .i64 0, .int .i64 0, .slice none 0 0, .int .i64 0, .slice none 0 0, .slice none 0 0, .slice none 0 0])) [Value.int .i64 0, .int .i64 0, .int .i64 0, .int .i64 0, .int .i64 0, .slice none 0 0, .int .i64 0, .slice none 0 0] [] cs rfl rfl B6 hP.arg.nine hP.arg.len hP.arg.one ?_)
   intro w3 B7 O3
   have hQ := hP.only B6 (nou_mk (z7arg w).arg.nou (z8a w).nou (z9arg w).arg.nou) O3
   replace B4 := O3.cel B4 (by omega)
   replace bw := bw.trans (O3.below (by omega))
   have B8 : Cel w3 (w.heap.size + 2) (Value.int .i64 3 :: ([Value.int .i64 0, .slice none 0 0, .slice none 0 0, .slice none 0 0] ++ ([Value.int .i64 0, .int .i64 0, .int .i64 0, .int .i64 0, .slice none 0 0, .int .i64 0, .slice none 0 0, .slice none 0 0, .slice none 0 0] ++ cs))) 37 := by simpa using B7
   have HL := Hid.mk8 (ka_mk hK (z7arg w3).arg (z8a w3) hQ.arg).len
   have H1 := Hid.mk8 (ka_mk hK (z7arg w3).arg (z8a w3) hQ.arg).one
   have H9 := Hid.mk8 (ka_mk hK (z7arg w3).arg (z8a w3) hQ.arg).nine
   have HQ := Hid.mk8 (And.intro hQ trivial)
   clear B7 O3 B6 hP hQ
   go_wp2_with (first | refine load_obj (w.heap.size + 2) _ (by rfl) rfl B8 Tryz.underlying37 HL.out ?_ | refine store_cel (w.heap.size + 1) _ _ rfl rfl B4 H9.out HL.out H1.out ?_)
   intro w9 B9 O9
   have HZ := Hid.mk8 (And.intro B9 (And.intro (ki_mk hK (z7arg w9) (z8arg w9 (GG.kept (bw.trans (O9.below (by omega))))) (HQ.out.1.only B4 (nou_mk (z7arg w).arg.nou (z8a w).nou (z9arg w).arg.nou) O9)) (bw.trans (O9.below (by omega)))))
   clear B9 O9 B8 B4 HQ
   go_wp2
   (try simp only [Exit.inBlock, Exit.then])
   refine bodyPost_ret (result_cel rfl (w.heap.size + 1) _ rfl HZ.out.1 Tryz.underlying37 HL.out) rfl ⟨_, rfl, ?_, HZ.out.2.2⟩
   rw [ew]
   exact HZ.out.2.1
  ·have ew : kB 3 N xs = ⟨0, n7, n8, n9⟩ := kB_none 3 N xs (by rw [eE]; exact z)
   have zz : (kE9 N xs != 0) = true := by simp [z]
   clear eE z
   generalize kE9 N xs = E1 at *
   go_enter Tryz.func9, Tryz.ntmps9
   go_wp2_with (refine store_cel (w.heap.size + 2) _ _ rfl rfl B6 rfl hIV.out (by simp [Value.oneCell']) ?_)
   intro w1 B6 O1
   replace B0 := O1.cel B0 (by omega)
   replace B4 := O1.cel B4 (by omega)
   replace bw := bw.trans (O1.below (by omega))
   clear O1
   have r0 := B0.cell 0 rfl
   have r1 := B0.cell 1 rfl
   go_wp2_with fail
   refine (H9.out _ bw).mono ?_
   rintro e w2 ⟨cs, rfl, hP, hb⟩
   have sz := B6.lt
   have sz2 := hb.size
   replace B4 := B4.kept hb
   replace B6 := B6.kept hb
   replace bw := bw.trans (hb.mono bw.size)
   clear hb r0 r1 B0
   go_wp2_with (refine store_part (w.heap.size + 2) (Value.int .i64 3 :: ([Value.int .i64 0, .slice none 0 0, .slice none 0 0, .slice none 0 0] ++ [Value.int .i64 0, .int .i64 0, .int .i64 0, .int .i64 0, .slice none 0 0, .int .i64 0, .slice none 0 0, .slice none 0 0, .slice none 0 0])) [Value.int .i64 0, .int .i64 0, .int .i64 0, .int .i64 0, .int .i64 0, .slice none 0 0, .int .i64 0, .slice none 0 0] [] cs rfl rfl B6 hP.arg.nine hP.arg.len hP.arg.one ?_)
   intro w3 B7 O3
   replace B4 := O3.cel B4 (by omega)
   replace bw := bw.trans (O3.below (by omega))
   clear B7 O3 B6 hP
   go_wp2_with (refine store_cel (w.heap.size + 1) _ _ rfl rfl B4 rfl hIV.out (by simp [Value.oneCell']) ?_)
   intro w9 B9 O9
   have HZ := Hid.mk8 (And.intro B9 (bw.trans (O9.below (by omega))))
   clear B9 O9
   go_wp2
   (try simp only [Exit.inBlock, Exit.then])
   refine bodyPost_ret (result_cel rfl (w.heap.size + 1) _ rfl HZ.out.1 Tryz.underlying37 hIV.out) rfl ⟨_, rfl, ?_, HZ.out.2⟩
   rw [ew]
   exact ki_mk i64_0 (z7arg _) (z8arg _ (GG.kept HZ.out.2)) (z9arg _)
 have eE : kE k N xs = 5 := by unfold kE; rw [if_neg q1, if_neg q2, if_neg q3]
 have ew : kB k N xs = ⟨0, n7, n8, n9⟩ := kB_none k N xs (by rw [eE]; decide)
 rw [eE]
 have d1 : (k == 1) = false := by simp [q1]
 have d2 : (k == 2) = false := by simp [q2]
 have d3 : (k == 3) = false := by simp [q3]
 clear eE
 go_enter Tryz.func9, Tryz.ntmps9
 go_wp2_with (refine store_cel (w.heap.size + 2) _ _ rfl rfl B6 rfl hIV.out (by simp [Value.oneCell']) ?_)
 intro w1 B6 O1
 replace B0 := O1.cel B0 (by omega)
 replace B4 := O1.cel B4 (by omega)
 replace bw := bw.trans (O1.below (by omega))
 clear O1
 have r0 := B0.cell 0 rfl
 have r1 := B0.cell 1 rfl
 go_wp2_with (refine store_cel (w.heap.size + 1) _ _ rfl rfl B4 rfl hIV.out (by simp [Value.oneCell']) ?_)
 intro w9 B9 O9
 have HZ := Hid.mk8 (And.intro B9 (bw.trans (O9.below (by omega))))
 clear B9 O9
 go_wp2
 (try simp only [Exit.inBlock, Exit.then])
 refine bodyPost_ret (result_cel rfl (w.heap.size + 1) _ rfl HZ.out.1 Tryz.underlying37 hIV.out) rfl ⟨_, rfl, ?_, HZ.out.2⟩
 rw [ew]
 exact ki_mk i64_0 (z7arg _) (z8arg _ (GG.kept HZ.out.2)) (z9arg _)
end Go.Proofs.YtpeecabfcgijhaaGreatDoor

namespace Go.Proofs.YtpeecabfcgijhaaGreatDoor
open Go.RowKit Num Bit
set_option linter.unusedVariables false
set_option linter.unusedSimpArgs false
set_option maxRecDepth 100000

theorem fit22 : Fit [22] := by
 intro i
 cases i with
 | zero => decide
 | succ i => unfold gt; simp
theorem wd22 (w : World) : Wd (w.alloc (.cells #[.int .u64 22] 61)) (some ⟨w.heap.size, 0, none⟩) [22] := by
 intro _
 refine ⟨w.heap.size, 0, rfl, by simp, fun i hi => ?_⟩
 have hi : i < 1 := hi
 obtain rfl : i = 0 := by omega
 simp [gt]
theorem kE5 : kE 2 5 [22] = 0 := by decide +kernel
theorem kE1 : kE 2 1 [] = 2 := by decide +kernel
theorem told5 : gaB true 5 [22] 4 = true ∧ gaE true 5 [22] 4 = 0 ∧ grN true 5 [22] true 4 = 2 ∧ grE true 5 4 = 0 ∧ gsX true 5 [22] true 2 = 4 ∧ gsE true 5 [22] true 2 = 0 ∧ gsX true 5 [22] false 1 = 3 ∧ gsE true 5 [22] false 1 = 0 ∧ gsX true 5 [22] true 3 = 0 ∧ gsE true 5 [22] true 3 = 3 := by decide +kernel
set_option maxHeartbeats 8000000 in
theorem heads_c (w : World) (G : GV w) : Calls Tryz.prog 8 #[] w fun e w' => e = .returned (.bool true) ∧ Below w.heap.size w w' := by
 obtain ⟨ok5, n5, x5⟩ := kB_ok 2 5 [22] (by decide) (by decide) fit22 (by decide) (by decide)
 have on5 : kOn (kB 2 5 [22]) = 2 := by rw [kB_r 5 [22] (kE_ok8 5 [22] (by decide))]; exact on_mr _
 have z5 := kZ_pos 5 [22] fit22 (by decide)
 obtain ⟨W, hW⟩ : ∃ W, W = w.alloc (.cells #[.int .u64 22] 61) := ⟨_, rfl⟩
 have bW : Below w.heap.size w W := by rw [hW]; exact below_alloc w _
 have hx : Wd W (some ⟨w.heap.size, 0, none⟩) [22] := by
  rw [hW]
  exact wd22 w
 have H1 : Hid (∀ w0, w0 = W → Calls Tryz.prog 9 #[.int .i64 2, .agg #[.int .i64 5, .slice (some ⟨w.heap.size, 0, none⟩) 1 1]] w0 fun e w' => ∃ cs : List Value, e = .returned (.tuple #[.agg cs.toArray, .int .i64 0]) ∧ KI w' cs (kB 2 5 [22]) ∧ Below w0.heap.size w0 w') := fun w0 h => by
  subst h
  have := build_r 5 (some ⟨w.heap.size, 0, none⟩) [22] 1 w0 (by unfold I64; decide) hx fit22 (by decide) (by decide) (G.kept bW)
  rw [kE5] at this
  exact this
 have H7 : Hid (∀ w0 : World, GV w0 → Calls Tryz.prog 9 #[.int .i64 2, .agg #[.int .i64 1, .slice none 0 0]] w0 fun e w' => ∃ cs : List Value, e = .returned (.tuple #[.agg cs.toArray, .int .i64 2]) ∧ KI w' cs (kB 2 1 []) ∧ Below w0.heap.size w0 w') := fun w0 g0 => by
  have := build_r 1 none [] 0 w0 (by unfold I64; decide) (wd0' _ _) (fun i => by unfold gt; simp) (by decide) (by decide) g0
  rw [kE1] at this
  exact this
 have H2 : Hid (∀ w0 cs, KI w0 cs (kB 2 5 [22]) → Calls Tryz.prog 10 #[.agg cs.toArray, .int .i64 4] w0 fun e w' => e = .returned (.tuple #[.bool true, .int .i64 0]) ∧ Below w0.heap.size w0 w') := fun w0 cs h => by
  have := access_r cs (kB 2 5 [22]) 4 w0 h (by unfold I64; decide) on5
  rw [ok5, n5, x5, told5.1, told5.2.1] at this
  exact this
 have H3 : Hid (∀ w0 cs, KI w0 cs (kB 2 5 [22]) → Calls Tryz.prog 11 #[.agg cs.toArray, .bool true, .int .i64 4] w0 fun e w' => e = .returned (.tuple #[.int .i64 2, .int .i64 0]) ∧ Below w0.heap.size w0 w') := fun w0 cs h => by
  have := rank_r cs (kB 2 5 [22]) true 4 w0 h (by unfold I64; decide) on5
  rw [ok5, n5, x5, told5.2.2.1, told5.2.2.2.1] at this
  exact this
 have H4 : Hid (∀ w0 cs, KI w0 cs (kB 2 5 [22]) → Calls Tryz.prog 12 #[.agg cs.toArray, .bool true, .int .i64 2] w0 fun e w' => e = .returned (.tuple #[.int .i64 4, .int .i64 0]) ∧ Below w0.heap.size w0 w') := fun w0 cs h => by
  have := select_r cs (kB 2 5 [22]) true 2 w0 h (by unfold I64; decide) on5
  rw [ok5, n5, x5, told5.2.2.2.2.1, told5.2.2.2.2.2.1] at this
  exact this
 have H5 : Hid (∀ w0 cs, KI w0 cs (kB 2 5 [22]) → Calls Tryz.prog 12 #[.agg cs.toArray, .bool false, .int .i64 1] w0 fun e w' => e = .returned (.tuple #[.int .i64 3, .int .i64 0]) ∧ Below w0.heap.size w0 w') := fun w0 cs h => by
  have := select_r cs (kB 2 5 [22]) false 1 w0 h (by unfold I64; decide) on5
  rw [ok5, n5, x5, told5.2.2.2.2.2.2.1, told5.2.2.2.2.2.2.2.1] at this
  exact this
 have H6 : Hid (∀ w0 cs, KI w0 cs (kB 2 5 [22]) → Calls Tryz.prog 12 #[.agg cs.toArray, .bool true, .int .i64 3] w0 fun e w' => e = .returned (.tuple #[.int .i64 0, .int .i64 3]) ∧ Below w0.heap.size w0 w') := fun w0 cs h => by
  have := select_r cs (kB 2 5 [22]) true 3 w0 h (by unfold I64; decide) on5
  rw [ok5, n5, x5, told5.2.2.2.2.2.2.2.2.1, told5.2.2.2.2.2.2.2.2.2] at this
  exact this
 have H8 : Hid (∀ w0 cs, KI w0 cs (kB 2 5 [22]) → Calls Tryz.prog 21 #[.agg cs.toArray] w0 fun e w' => e = .returned (.bool true) ∧ Below w0.heap.size w0 w') := fun w0 cs h => by
  have := check_r cs (kB 2 5 [22]) w0 h on5
  rw [ok5] at this
  exact this
 obtain ⟨Z5, hZ5⟩ : ∃ Z, Hid (Z = kZ (kB 2 5 [22])) := ⟨_, rfl⟩
 rw [← hZ5.out] at z5
 have H9 : Hid (∀ w0 cs, KI w0 cs (kB 2 5 [22]) → Calls Tryz.prog 15 #[.agg cs.toArray] w0 fun e w' => e = .returned (.int .i64 Z5) ∧ Below w0.heap.size w0 w') := fun w0 cs h => by
  have := size_r cs (kB 2 5 [22]) w0 h on5
  rw [← hZ5.out] at this
  exact this
 have HB : Hid (∀ w0 cs, KI w0 cs (kB 2 5 [22]) → Calls Tryz.prog 24 #[.agg cs.toArray] w0 fun e w' => ∃ bo bc, e = .returned (.agg #[.int .i64 5, .slice bo 1 bc]) ∧ Wd w' bo [22] ∧ Below w0.heap.size w0 w') := fun w0 cs h => by
  have := bits_r cs (kB 2 5 [22]) w0 h on5
  rw [n5, x5] at this
  refine this.mono ?_
  rintro e w' ⟨bo, bc, rfl, h1, _, hb⟩
  exact ⟨bo, bc, rfl, h1, hb⟩
 generalize kB 2 5 [22] = A5 at *
 clear ok5 n5 x5 on5
 go_enter Tryz.func8, Tryz.ntmps8
 go_wp2_with fail
 rw [← hW]
 refine (H1.out _ rfl).mono ?_
 rintro e w1 ⟨cs, rfl, hP, hb⟩
 have hw := bW.trans (hb.mono bW.size)
 clear H1 hx bW hW W hb
 go_wp2_with (refine store_cel w1.heap.size [.int .i64 0, .int .i64 0, .slice none 0 0, .slice none 0 0, .slice none 0 0, .int .i64 0, .int .i64 0, .int .i64 0, .int .i64 0, .slice none 0 0, .int .i64 0, .slice none 0 0, .slice none 0 0, .slice none 0 0, .int .i64 0, .int .i64 0, .int .i64 0, .int .i64 0, .int .i64 0, .slice none 0 0, .int .i64 0, .slice none 0 0] cs rfl rfl (Cel.new w1 [.int .i64 0, .int .i64 0, .slice none 0 0, .slice none 0 0, .slice none 0 0, .int .i64 0, .int .i64 0, .int .i64 0, .int .i64 0, .slice none 0 0, .int .i64 0, .slice none 0 0, .slice none 0 0, .slice none 0 0, .int .i64 0, .int .i64 0, .int .i64 0, .int .i64 0, .int .i64 0, .slice none 0 0, .int .i64 0, .slice none 0 0] 37) hP.arg.nine hP.arg.len hP.arg.one ?_)
 intro w2 Bw2 Ow2
 have bw2 : Below w1.heap.size w1 w2 := (below_alloc w1 _).trans (Ow2.below (Nat.le_refl _))
 replace hP := hP.keep bw2
 replace hw := hw.trans (bw2.mono hw.size)
 clear Ow2 bw2
 have hB := Bw2
 clear Bw2
 generalize w1.heap.size = g at *
 go_wp2_with (refine load_obj g cs (by rfl) rfl hB Tryz.underlying37 hP.arg.len ?_)
 refine (H2.out _ _ hP).mono ?_
 rintro e w3 ⟨rfl, hb⟩
 replace hP := hP.keep hb
 replace hB := hB.kept hb
 replace hw := hw.trans (hb.mono hw.size)
 clear hb
 go_wp2_with (refine load_obj g cs (by rfl) rfl hB Tryz.underlying37 hP.arg.len ?_)
 refine (H3.out _ _ hP).mono ?_
 rintro e w4 ⟨rfl, hb⟩
 replace hP := hP.keep hb
 replace hB := hB.kept hb
 replace hw := hw.trans (hb.mono hw.size)
 clear hb
 go_wp2_with (refine load_obj g cs (by rfl) rfl hB Tryz.underlying37 hP.arg.len ?_)
 refine (H4.out _ _ hP).mono ?_
 rintro e w5 ⟨rfl, hb⟩
 replace hP := hP.keep hb
 replace hB := hB.kept hb
 replace hw := hw.trans (hb.mono hw.size)
 clear hb
 go_wp2_with (refine load_obj g cs (by rfl) rfl hB Tryz.underlying37 hP.arg.len ?_)
 refine (H5.out _ _ hP).mono ?_
 rintro e w6 ⟨rfl, hb⟩
 replace hP := hP.keep hb
 replace hB := hB.kept hb
 replace hw := hw.trans (hb.mono hw.size)
 clear hb
 go_wp2_with (refine load_obj g cs (by rfl) rfl hB Tryz.underlying37 hP.arg.len ?_)
 refine (H6.out _ _ hP).mono ?_
 rintro e w7 ⟨rfl, hb⟩
 replace hP := hP.keep hb
 replace hB := hB.kept hb
 replace hw := hw.trans (hb.mono hw.size)
 clear hb
 go_wp2_with fail
 refine (H7.out _ hP.gv).mono ?_
 rintro e w8 ⟨ds, rfl, hQ, hb⟩
 replace hP := hP.keep hb
 replace hB := hB.kept hb
 replace hw := hw.trans (hb.mono hw.size)
 clear hb H7
 go_wp2_with (refine store_cel w8.heap.size [.int .i64 0, .int .i64 0, .slice none 0 0, .slice none 0 0, .slice none 0 0, .int .i64 0, .int .i64 0, .int .i64 0, .int .i64 0, .slice none 0 0, .int .i64 0, .slice none 0 0, .slice none 0 0, .slice none 0 0, .int .i64 0, .int .i64 0, .int .i64 0, .int .i64 0, .int .i64 0, .slice none 0 0, .int .i64 0, .slice none 0 0] ds rfl rfl (Cel.new w8 [.int .i64 0, .int .i64 0, .slice none 0 0, .slice none 0 0, .slice none 0 0, .int .i64 0, .int .i64 0, .int .i64 0, .int .i64 0, .slice none 0 0, .int .i64 0, .slice none 0 0, .slice none 0 0, .slice none 0 0, .int .i64 0, .int .i64 0, .int .i64 0, .int .i64 0, .int .i64 0, .slice none 0 0, .int .i64 0, .slice none 0 0] 37) hQ.arg.nine hQ.arg.len hQ.arg.one ?_)
 intro w9 Bw9 Ow9
 have bw9 : Below w8.heap.size w8 w9 := (below_alloc w8 _).trans (Ow9.below (Nat.le_refl _))
 replace hQ := hQ.keep bw9
 replace hw := hw.trans (bw9.mono hw.size)
 replace hP := hP.keep bw9
 replace hB := hB.kept bw9
 clear Ow9 bw9
 clear Bw9 hQ
 go_wp2_with (refine load_obj g cs (by rfl) rfl hB Tryz.underlying37 hP.arg.len ?_)
 refine (H8.out _ _ hP).mono ?_
 rintro e wa ⟨rfl, hb⟩
 replace hP := hP.keep hb
 replace hB := hB.kept hb
 replace hw := hw.trans (hb.mono hw.size)
 clear hb
 go_wp2_with (refine load_obj g cs (by rfl) rfl hB Tryz.underlying37 hP.arg.len ?_)
 refine (H9.out _ _ hP).mono ?_
 rintro e wb ⟨rfl, hb⟩
 replace hP := hP.keep hb
 replace hB := hB.kept hb
 replace hw := hw.trans (hb.mono hw.size)
 clear hb
 go_wp2_with (refine load_obj g cs (by rfl) rfl hB Tryz.underlying37 hP.arg.len ?_)
 refine (HB.out _ _ hP).mono ?_
 rintro e wc ⟨ro, rc, rfl, hx2, hb⟩
 replace hw := hw.trans (hb.mono hw.size)
 clear hb HB hP hB
 have bZ := below_alloc wc (.cells #[.int .u64 22] 61)
 have S1 : Hid (∀ w0, w0 = wc.alloc (.cells #[.int .u64 22] 61) → Calls Tryz.prog 23 #[.agg #[.int .i64 5, .slice ro 1 rc], .agg #[.int .i64 5, .slice (some ⟨wc.heap.size, 0, none⟩) 1 1]] w0 fun e w' => e = .returned (.bool true) ∧ Below w0.heap.size w0 w') := fun w0 h => by
  subst h
  have := same_c 5 ro [22] rc 5 (some ⟨wc.heap.size, 0, none⟩) [22] 1 _ (hx2.keep bZ) (wd22 wc) (by decide)
  rw [show (decide ((5 : Int) = 5) && decide (([22] : List Nat) = [22])) = true by decide] at this
  exact this
 go_wp2_with fail
 refine (S1.out _ rfl).mono ?_
 rintro e wd ⟨rfl, hb⟩
 replace hw := (hw.trans (bZ.mono hw.size)).trans (hb.mono (Nat.le_trans hw.size bZ.size))
 go_wp2
 go_ret
 exact ⟨rfl, hw⟩
end Go.Proofs.YtpeecabfcgijhaaGreatDoor

namespace Go.Proofs.YtpeecabfcgijhaaGreatDoor
open Go.RowKit Num Bit
set_option linter.unusedVariables false
set_option maxRecDepth 100000

theorem and_tt {a b : Bool} (ha : a = true) (hb : b = true) : (a && b) = true := by rw [ha, hb]; rfl
theorem trod_int1 {W : World} {fuel : Nat} {t : TypeId} {k : IntKind} {cs : List Value} {y : DataW Unit × List MemPlace} (hu : Tryz.prog.underlying t = some (.int k)) (h : DataW.trod (fun _ => ()) Tryz.prog W 0 (fun _ => true) false fuel t cs = some y) : ∃ n, cs = [.int k n] ∧ y.1 = .lit (.int k n) := by
 cases fuel with
 | zero => simp [DataW.trod] at h
 | succ fuel =>
  unfold DataW.trod at h
  rw [hu] at h
  match cs, h with
  | [.int k' n], h =>
   dsimp only at h
   split at h
   ·rename_i hk
    obtain ⟨rfl, _⟩ := hk
    cases h
    exact ⟨n, rfl, rfl⟩
   ·cases h
theorem mapM_get {α β : Type} (f : α → Option β) : ∀ (L : List α) (ys : List β), L.mapM f = some ys → ys.length = L.length ∧ ∀ (i : Nat) a y, L[i]? = some a → ys[i]? = some y → f a = some y
 | [], ys, h => by
  rw [List.mapM_nil] at h
  cases h
  exact ⟨rfl, fun i a y e => by simp at e⟩
 | b :: L, ys, h => by
  rw [List.mapM_cons] at h
  simp only [Option.bind_eq_bind, Option.bind_eq_some_iff, Option.pure_def, Option.some.injEq] at h
  obtain ⟨z, h1, zs, h2, rfl⟩ := h
  obtain ⟨e1, e2⟩ := mapM_get f L zs h2
  refine ⟨by simp [e1], fun i a y ha hy => ?_⟩
  cases i with
  | zero => simp at ha hy; subst ha; subst hy; exact h1
  | succ i => exact e2 i a y (by simpa using ha) (by simpa using hy)
theorem trod_arr {W : World} {fuel n : Nat} {t e : TypeId} {k : IntKind} {cs : List Value} {l : List Int} {p : List MemPlace} (hu : Tryz.prog.underlying t = some (.array n e)) (he : Tryz.prog.underlying e = some (.int k)) (ce : Tryz.prog.cellsOf e = 1) (ct : Tryz.prog.cellsOf t = n)
  (h : DataW.trod (fun _ => ()) Tryz.prog W 0 (fun _ => true) false fuel t cs = some (.agg (l.map fun x => .lit (.int k x)), p)) : cs = l.map fun x => .int k x := by
 cases fuel with
 | zero => simp [DataW.trod] at h
 | succ fuel =>
  unfold DataW.trod at h
  rw [hu] at h
  dsimp only at h
  split at h
  ·rename_i hl
   rw [Option.map_eq_some_iff] at h
   obtain ⟨ys, h1, h2⟩ := h
   obtain ⟨g1, g2⟩ := mapM_get _ _ _ h1
   simp only [Prod.mk.injEq, DataW.agg.injEq] at h2
   have hy := h2.1
   have ll : l.length = n := by
    have := congrArg List.length hy
    simp only [List.length_map] at this
    rw [← this, g1, List.length_range]
   rw [ct] at hl
   refine List.ext_getElem? fun i => ?_
   by_cases hi : i < n
   ·obtain ⟨y, ey⟩ : ∃ y, ys[i]? = some y := ⟨_, List.getElem?_eq_getElem (by rw [g1, List.length_range]; exact hi)⟩
    have e3 := g2 i i y (List.getElem?_range hi) ey
    obtain ⟨m, e4, e5⟩ := trod_int1 he e3
    have e6 : (ys.map (·.1))[i]? = some (.lit (.int k m)) := by rw [List.getElem?_map, ey]; exact congrArg some e5
    rw [hy, List.getElem?_map] at e6
    obtain ⟨x, ex⟩ : ∃ x, l[i]? = some x := ⟨_, List.getElem?_eq_getElem (by omega)⟩
    rw [ex] at e6
    simp only [Option.map_some, Option.some.injEq, DataW.lit.injEq, Lit.int.injEq, true_and] at e6
    rw [List.getElem?_map, ex, e6]
    rw [ce, Nat.mul_one] at e4
    have e7 := congrArg (·[0]?) e4
    simp only [List.getElem?_take_of_lt (Nat.one_pos), List.getElem?_drop, Nat.add_zero] at e7
    exact e7
   ·rw [List.getElem?_eq_none (by omega), List.getElem?_eq_none (by rw [List.length_map]; omega)]
  ·cases h
theorem cel_laid {W : World} {g : Nat} {nm : String} {cs : Array Value} {vs : List Value} (hg : Tryz.prog.globalNamed nm = some g) (hv : W.var? Tryz.prog nm = some cs) (hc : cs.toList = vs) (hm : ∃ c t, W.heap[g]? = some (.cells c t (0, 0))) : Tb W g vs := by
 obtain ⟨c, t, e⟩ := hm
 refine ⟨t, ?_⟩
 unfold World.var? at hv
 rw [hg] at hv
 simp only [Option.bind_some, e, Option.some.injEq] at hv
 subst hv
 unfold Cel
 rw [e, ← hc]
def laidL : List (String × DataW Unit) := [("errors.errorType", Rows.laid_errors_errorType), ("haystack/rrr.ways", Rows.laid_haystack_rrr_ways), ("haystack/rrr.widths", Rows.laid_haystack_rrr_widths)]
theorem gv_of_laid {W : World} (h : laidMetH Tryz.prog laidL W) : GV W := by
 have h0 : laidMet Tryz.prog [("haystack/rrr.ways", Rows.laid_haystack_rrr_ways), ("haystack/rrr.widths", Rows.laid_haystack_rrr_widths)] W := And.left (show _ ∧ _ from h)
 obtain ⟨ps, ⟨g, t, cs, fuel, p, q, hg, ht, hv, hd, ⟨g2, t2, cs2, fuel2, p2, q2, hg2, ht2, hv2, hd2, hr, hq⟩, hps⟩, _, hm⟩ := h0
 obtain rfl : q2 = [] := hr
 obtain rfl := Option.some.inj ((show Tryz.prog.globalNamed "haystack/rrr.ways" = some 0 by kernel_rfl).symm.trans hg)
 obtain rfl := Option.some.inj ((show Tryz.prog.globalNamed "haystack/rrr.widths" = some 1 by kernel_rfl).symm.trans hg2)
 obtain rfl := Option.some.inj ((show (Tryz.prog.globals[0]?).map (·.type) = some 150 by kernel_rfl).symm.trans ht)
 obtain rfl := Option.some.inj ((show (Tryz.prog.globals[1]?).map (·.type) = some 166 by kernel_rfl).symm.trans ht2)
 have e1 : cs.toList = wv chL := (trod_arr (l := [1, 15, 105, 455, 1365, 3003, 5005, 6435, 6435, 5005, 3003, 1365, 455, 105, 15, 1]) Tryz.underlying150 Tryz.underlying61 (by kernel_rfl) (by kernel_rfl) hd).trans rfl
 have e2 : cs2.toList = vI wdL := (trod_arr (l := [0, 4, 7, 9, 11, 12, 13, 13, 13, 13, 12, 11, 9, 7, 4, 0]) Tryz.underlying166 Tryz.underlying3 (by kernel_rfl) (by kernel_rfl) hd2).trans rfl
 have s1 : cs.size = 16 := by rw [← Array.length_toList, e1]; rfl
 have s2 : cs2.size = 16 := by rw [← Array.length_toList, e2]; rfl
 refine ⟨cel_laid hg2 hv2 e2 (hm _ 0 ?_).1, cel_laid hg hv e1 (hm _ 0 ?_).1⟩
 ·rw [hps, hq, s2]
  exact List.mem_append_right _ (List.mem_append_left _ (List.mem_append_left _ (List.mem_map.2 ⟨0, List.mem_range.2 (by decide), rfl⟩)))
 ·rw [hps, s1]
  exact List.mem_append_left _ (List.mem_append_left _ (List.mem_map.2 ⟨0, List.mem_range.2 (by decide), rfl⟩))
end Go.Proofs.YtpeecabfcgijhaaGreatDoor
