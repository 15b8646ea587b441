/-
  The contracts of the program's Check, Size, Access, Rank and Select. What stays of a row of a kind where one other block is written; a part of a struct into its block. The contract of the program's Build.
-/
import Derived.Test.YtfnkklkdajlhlaaGreatDoorL13
import Derived.Test.YtfnkklkdajlhlaaGreatDoorL16
import Derived.Test.YtfnkklkdajlhlaaGreatDoorL23
import Derived.Test.YtfnkklkdajlhlaaGreatDoorL10
set_option linter.unusedVariables false
set_option linter.unusedSimpArgs false
set_option maxRecDepth 100000
set_option maxHeartbeats 16000000
namespace Go.Proofs.YtfnkklkdajlhlaaGreatDoor
open Go.RowKit Num Bit
theorem info_bv : (Tryz.prog.info? 33).map (·.size) = some 2 := by kernel_rfl
theorem Only.nd {g base : Nat} {w w' : World} {ao : Option Addr} {l : List Int} (h : Only g w w') (hx : Nd w ao l) (hf : Fr base ao) (hg : g < base) : Nd w' ao l := by
 intro h0
 obtain ⟨b, off, rfl, hlt, hc⟩ := hx h0
 have hne : base ≤ b := hf _ rfl
 exact ⟨b, off, rfl, by rw [h.size]; exact hlt, fun i hi => (h.cell (p := ⟨b, off + i, none⟩) (show b ≠ g by omega)).trans (hc i hi)⟩
def Nou (cs : List Value) : Prop := ∀ v ∈ cs, ∀ n, v ≠ .int .u64 n
theorem Nou.app {a b : List Value} (h : Nou a) (g : Nou b) : Nou (a ++ b) := fun v hv n => by
 rcases List.mem_append.1 hv with e | e
 ·exact h v e n
 ·exact g v e n
theorem KArg7.nou {w : World} {cs : List Value} {a : RA7} (h : KArg7 w cs a) : Nou cs := by
 obtain ⟨ao, cap, so, sc, tO, tc, rfl, _⟩ := h
 intro v hv n
 simp at hv
 rcases hv with rfl | rfl | rfl | rfl <;> simp
theorem KArg8.nou {w : World} {cs : List Value} {a : RA8} (h : KArg8 w cs a) : Nou cs := by
 obtain ⟨ao, cap, qo, dap, so, sc, tO, tc, rfl, _⟩ := h
 intro v hv n
 simp at hv
 rcases hv with rfl | rfl | rfl | rfl | rfl | rfl | rfl | rfl | rfl <;> simp
theorem KArg9.nou {w : World} {cs : List Value} {a : RA9} (h : KArg9 w cs a) : Nou cs := by
 obtain ⟨ao, cap, qo, dap, rfl, _⟩ := h
 intro v hv n
 simp at hv
 rcases hv with rfl | rfl | rfl | rfl | rfl | rfl | rfl | rfl <;> simp
theorem KI7.only {w w2 : World} {g base : Nat} {cs gs : List Value} {a : RA7} {T : TypeId} (h : KI7 w cs a) (nf : NF base 2 cs) (hg : g < base) (hc : Cel w g gs T) (hn : Nou gs) (hO : Only g w w2) : KI7 w2 cs a := by
 obtain ⟨⟨ao, cap, so, sc, tO, tc, rfl, h⟩, xl, sl, tl⟩ := h
 exact ⟨⟨ao, cap, so, sc, tO, tc, rfl, ⟨h.n, hO.wd h.x (h.x.apart hc hn), h.f, h.c, hO.nd h.s (nf _ _ _ (.inl rfl)) hg, h.sf, h.sc, hO.nd h.t (nf _ _ _ (.inr rfl)) hg, h.tf, h.tc⟩⟩, xl, sl, tl⟩
theorem KI8.only {w w2 : World} {g base : Nat} {cs gs : List Value} {a : RA8} {T : TypeId} (h : KI8 w cs a) (nf : NF base 7 cs) (hg : g < base) (hc : Cel w g gs T) (hn : Nou gs) (hO : Only g w w2) (G2 : GV w2) : KI8 w2 cs a := by
 obtain ⟨⟨ao, cap, qo, dap, so, sc, tO, tc, rfl, r, a1, a2, a3, a4, a5, a6, a7, a8, a9, a10⟩, xl, yl, sl, tl, _⟩ := h
 exact ⟨⟨ao, cap, qo, dap, so, sc, tO, tc, rfl, r, hO.wd a1 (a1.apart hc hn), a2, a3, hO.wd a4 (a4.apart hc hn), a5, a6, hO.nd a7 (nf _ _ _ (.inl rfl)) hg, a8, hO.nd a9 (nf _ _ _ (.inr rfl)) hg, a10⟩, xl, yl, sl, tl, G2⟩
theorem KI9.only {w w2 : World} {g : Nat} {cs gs : List Value} {a : RA9} {T : TypeId} (h : KI9 w cs a) (hc : Cel w g gs T) (hn : Nou gs) (hO : Only g w w2) : KI9 w2 cs a := by
 obtain ⟨⟨ao, cap, qo, dap, rfl, r, a1, a2, a3, a4, a5, a6⟩, n3, xl, yl⟩ := h
 exact ⟨⟨ao, cap, qo, dap, rfl, r, hO.wd a1 (a1.apart hc hn), a2, a3, hO.wd a4 (a4.apart hc hn), a5, a6⟩, n3, xl, yl⟩
theorem i64_0 : I64 0 := ⟨by decide, by decide⟩
theorem z7arg (w : World) : KI7 w [Value.int .i64 0, .slice none 0 0, .slice none 0 0, .slice none 0 0] n7 := ⟨⟨none, 0, none, 0, none, 0, rfl, ⟨i64_0, wd0' _ _, fit_nil, Nat.le_refl _, nd0 _ _, fitI_nil, Nat.le_refl _, nd0 _ _, fitI_nil, Nat.le_refl _⟩⟩, Nat.zero_le _, Nat.zero_le _, Nat.zero_le _⟩
theorem z8a (w : World) : KArg8 w [Value.int .i64 0, .int .i64 0, .int .i64 0, .int .i64 0, .slice none 0 0, .int .i64 0, .slice none 0 0, .slice none 0 0, .slice none 0 0] n8 := ⟨none, 0, none, 0, none, 0, none, 0, rfl, ⟨i64_0, i64_0, i64_0, i64_0, i64_0, fitI_nil, fitI_nil⟩, wd0' _ _, fit_nil, Nat.le_refl _, wd0' _ _, fit_nil, Nat.le_refl _, nd0 _ _, Nat.le_refl _, nd0 _ _, Nat.le_refl _⟩
theorem z8arg (w : World) (G : GV w) : KI8 w [Value.int .i64 0, .int .i64 0, .int .i64 0, .int .i64 0, .slice none 0 0, .int .i64 0, .slice none 0 0, .slice none 0 0, .slice none 0 0] n8 := ⟨z8a w, Nat.zero_le _, Nat.zero_le _, Nat.zero_le _, Nat.zero_le _, G⟩
theorem z9arg (w : World) : KI9 w [Value.int .i64 0, .int .i64 0, .int .i64 0, .int .i64 0, .int .i64 0, .slice none 0 0, .int .i64 0, .slice none 0 0] n9 := ⟨⟨none, 0, none, 0, rfl, ⟨i64_0, i64_0, i64_0, i64_0, i64_0, i64_0⟩, wd0' _ _, fit_nil, Nat.le_refl _, wd0' _ _, fit_nil, Nat.le_refl _⟩, by decide, Nat.zero_le _, Nat.zero_le _⟩
theorem ki_mk {w : World} {cp cr cf : List Value} {K : Int} {p : RA7} {r : RA8} {f : RA9} (hK : I64 K) (h1 : KI7 w cp p) (h2 : KI8 w cr r) (h3 : KI9 w cf f) : KI w (.int .i64 K :: (cp ++ (cr ++ cf))) ⟨K, p, r, f⟩ :=
 ⟨⟨cp, cr, cf, rfl, hK, h1.arg, h2.arg, h3.arg⟩, ⟨h1.xl, h1.sl, h1.tl, h2.xl, h2.yl, h2.sl, h2.tl, h3.n3, h3.xl, h3.yl⟩, h2.gv⟩
theorem ka_mk {w : World} {cp cr cf : List Value} {K : Int} {p : RA7} {r : RA8} {f : RA9} (hK : I64 K) (h1 : KArg7 w cp p) (h2 : KArg8 w cr r) (h3 : KArg9 w cf f) : KArg w (.int .i64 K :: (cp ++ (cr ++ cf))) ⟨K, p, r, f⟩ := ⟨cp, cr, cf, rfl, hK, h1, h2, h3⟩
theorem nou_mk {cp cr cf : List Value} {K : Int} (h1 : Nou cp) (h2 : Nou cr) (h3 : Nou cf) : Nou (.int .i64 K :: (cp ++ (cr ++ cf))) := fun v hv n => by
 rcases List.mem_cons.1 hv with rfl | e
 ·simp
 ·exact (h1.app (h2.app h3)) v e n
theorem cel_cells {w : World} {g : Nat} {T : TypeId} : ∀ (cs pre old post : List Value), old.length = cs.length → Cel w g (pre ++ (old ++ post)) T → Cel (w.setCells g pre.length cs) g (pre ++ (cs ++ post)) T ∧ Only g w (w.setCells g pre.length cs) := by
 intro cs
 induction cs generalizing w with
 | nil =>
  intro pre old post hl h
  obtain rfl := List.eq_nil_of_length_eq_zero hl
  exact ⟨h, Only.refl _ _⟩
 | cons v r ih =>
  intro pre old post hl h
  match old, hl with
  | u :: o, hl =>
   have h2 : Cel (w.setCell ⟨g, pre.length, none⟩ v) g ((pre ++ [v]) ++ (o ++ post)) T := by
    have := h.set pre.length v
    have e : (pre ++ (u :: o ++ post)).set pre.length v = (pre ++ [v]) ++ (o ++ post) := by
     rw [List.set_append_right _ _ (Nat.le_refl _), Nat.sub_self]
     simp
    rw [e] at this
    exact this
   have k := ih (pre ++ [v]) o post (by simpa using hl) h2
   rw [List.length_append, List.length_singleton] at k
   refine ⟨?_, ((Only.refl g w).set pre.length v).trans k.2⟩
   have k1 := k.1
   rw [List.append_assoc] at k1
   exact k1
theorem store_part {ops : Array Oper} {rest : List Oper} {d : Option Tmp} {ty T TT : TypeId} {ps : String} {af : Array Edge} {a : Act} {w : World} {Q : Exit → Act → World → Prop} {x y : Operand}
  (g : Nat) (pre old post cs : List Value) (hx : a.eval x = .pointer (some ⟨g, pre.length, none⟩)) (hy : a.eval y = .agg cs.toArray) (hc : Cel w g (pre ++ (old ++ post)) TT) (lo : old.length = cs.length) (hi : (Tryz.prog.info? T).map (·.size) = some cs.length) (h1 : cs.toArray.all (·.oneCell') = true)
  (h : ∀ w1, Cel w1 g (pre ++ (cs ++ post)) TT → Only g w w1 → wpList Tryz.prog ops Q rest (a.put d undef) w1) :
  wpList Tryz.prog ops Q (⟨d, .store T x y, ty, ps, af, none⟩ :: rest) a w := by
 refine wpList_store_mid rfl T x y rfl g pre.length cs.toArray hx hy ?_ (by simpa using hi) h1 ?_
 ·intro j hj
  have hj : j < cs.length := by simpa using hj
  have hl : pre.length + j < (pre ++ (old ++ post)).length := by simp only [List.length_append]; omega
  exact ⟨by rw [hc.cell (pre.length + j) (List.getElem?_eq_getElem hl)]; rfl, hc.frozen _⟩
 ·have k := cel_cells cs pre old post lo hc
  exact h _ k.1 k.2
theorem NF.mono {base b0 i : Nat} {cs : List Value} (h : NF base i cs) (hl : b0 ≤ base) : NF b0 i cs := fun ao n c e a ha => Nat.le_trans hl (h ao n c e a ha)
theorem NF.mid {base i j : Nat} {pre cs post : List Value} (h : NF base i cs) (hl : i + 2 ≤ cs.length) (hj : j = pre.length + i) : NF base j (pre ++ (cs ++ post)) := fun ao n c e => by
 subst hj
 refine h ao n c ?_
 have k : ∀ q, q < cs.length → (pre ++ (cs ++ post))[pre.length + q]? = cs[q]? := fun q hq => by
  rw [List.getElem?_append_right (by omega), List.getElem?_append_left (by omega), show pre.length + q - pre.length = q by omega]
 rw [k i (by omega), show pre.length + i + 1 = pre.length + (i + 1) by omega, k (i + 1) (by omega)] at e
 exact e
def NFV (base : Nat) (cs : List Value) : Prop := NF base 3 cs ∧ NF base 12 cs
theorem build_r (N : Int) (ao : Option Addr) (xs : List Nat) (cap : Nat) (w : World) (hN : I64 N) (hx : Wd w ao xs) (hf : Fit xs) (hcap : xs.length ≤ cap) (hl : N ≤ 3000 ∧ xs.length ≤ 1048576) (GG : GV w) :
  Calls Tryz.prog 27 #[.int .i64 2, .agg #[.int .i64 N, .slice ao xs.length cap]] w fun e w' => ∃ cs : List Value, e = .returned (.tuple #[.agg cs.toArray, .int .i64 (kE 2 N xs)]) ∧ KI w' cs (kB 2 N xs) ∧ Below w.heap.size w w' ∧ NFV w.heap.size cs := by
 obtain ⟨W, hW⟩ : ∃ W, W = ((w.alloc (.cells #[.int .i64 N, .slice ao xs.length cap] 33)).alloc (.cells [Value.int .i64 0, .int .i64 0, .slice none 0 0, .slice none 0 0, .slice none 0 0, .int .i64 0, .int .i64 0, .int .i64 0, .int .i64 0, .slice none 0 0, .int .i64 0, .slice none 0 0, .slice none 0 0, .slice none 0 0, .int .i64 0, .int .i64 0, .int .i64 0, .int .i64 0, .int .i64 0, .slice none 0 0, .int .i64 0, .slice none 0 0].toArray 45)).alloc (.cells [Value.int .i64 0, .int .i64 0, .slice none 0 0, .slice none 0 0, .slice none 0 0, .int .i64 0, .int .i64 0, .int .i64 0, .int .i64 0, .slice none 0 0, .int .i64 0, .slice none 0 0, .slice none 0 0, .slice none 0 0, .int .i64 0, .int .i64 0, .int .i64 0, .int .i64 0, .int .i64 0, .slice none 0 0, .int .i64 0, .slice none 0 0].toArray 45) := ⟨_, rfl⟩
 have bw : Below w.heap.size w W := by rw [hW]; exact ((below_alloc w _).alloc (by simp) _).alloc (by simp; omega) _
 have B0 : Cel W w.heap.size [.int .i64 N, .slice ao xs.length cap] 33 := by rw [hW]; exact ((Cel.new w _ _).alloc _).alloc _
 have B4 : Cel W (w.heap.size + 1) [Value.int .i64 0, .int .i64 0, .slice none 0 0, .slice none 0 0, .slice none 0 0, .int .i64 0, .int .i64 0, .int .i64 0, .int .i64 0, .slice none 0 0, .int .i64 0, .slice none 0 0, .slice none 0 0, .slice none 0 0, .int .i64 0, .int .i64 0, .int .i64 0, .int .i64 0, .int .i64 0, .slice none 0 0, .int .i64 0, .slice none 0 0] 45 := by rw [hW]; exact (Cel.new2 w _ _ _).alloc _
 have B6 : Cel W (w.heap.size + 2) [Value.int .i64 0, .int .i64 0, .slice none 0 0, .slice none 0 0, .slice none 0 0, .int .i64 0, .int .i64 0, .int .i64 0, .int .i64 0, .slice none 0 0, .int .i64 0, .slice none 0 0, .slice none 0 0, .slice none 0 0, .int .i64 0, .int .i64 0, .int .i64 0, .int .i64 0, .int .i64 0, .slice none 0 0, .int .i64 0, .slice none 0 0] 45 := by rw [hW]; exact (Cel.new2 (w.alloc _) _ _ _).at (by simp)
 have hIV := Hid.mk8 info_v
 have H8 : Hid (∀ w0, Below w.heap.size w w0 → Calls Tryz.prog 53 #[.agg #[.int .i64 N, .slice ao xs.length cap]] w0 fun e w' => ∃ cs : List Value, e = .returned (.tuple #[.agg cs.toArray, .int .i64 (kE8 N xs)]) ∧ KI8 w' cs (kB8 N xs) ∧ NF w0.heap.size 7 cs ∧ Below w0.heap.size w0 w') := fun w0 h => build_k8 N ao xs cap w0 hN (hx.keep h) hf hcap hl.2 (GG.kept h)
 subst hW
 have hK : I64 2 := by unfold I64; decide
 have eE : kE 2 N xs = kE8 N xs := rfl
 rw [eE]
 by_cases z : kE8 N xs = 0
 ·have ew : kB 2 N xs = ⟨2, n7, kB8 N xs, n9⟩ := kB_r N xs z
  rw [z] at H8 ⊢
  clear eE z
  go_enter Tryz.func27, Tryz.ntmps27
  go_wp2_with (refine store_cel (w.heap.size + 2) _ _ rfl rfl B6 rfl hIV.out (by simp [Value.oneCell']) ?_)
  intro w1 B6 O1
  replace B0 := O1.cel B0 (by omega)
  replace B4 := O1.cel B4 (by omega)
  replace bw := bw.trans (O1.below (by omega))
  clear O1
  have r0 := B0.cell 0 rfl
  have r1 := B0.cell 1 rfl
  go_wp2_with fail
  refine (H8.out _ bw).mono ?_
  rintro e w2 ⟨cs, rfl, hP, hN2, hb⟩
  have sz := B6.lt
  have sz2 := hb.size
  replace B4 := B4.kept hb
  replace B6 := B6.kept hb
  replace bw := bw.trans (hb.mono bw.size)
  clear hb r0 r1 B0
  go_wp2_with (refine store_part (w.heap.size + 2) (Value.int .i64 2 :: [Value.int .i64 0, .slice none 0 0, .slice none 0 0, .slice none 0 0]) [Value.int .i64 0, .int .i64 0, .int .i64 0, .int .i64 0, .slice none 0 0, .int .i64 0, .slice none 0 0, .slice none 0 0, .slice none 0 0] [Value.int .i64 0, .int .i64 0, .int .i64 0, .int .i64 0, .int .i64 0, .slice none 0 0, .int .i64 0, .slice none 0 0] cs rfl rfl B6 hP.arg.nine hP.arg.len hP.arg.one ?_)
  intro w3 B7 O3
  have hQ := hP.only hN2 (by omega) B6 (nou_mk (z7arg w).arg.nou (z8a w).nou (z9arg w).arg.nou) O3 (GG.kept (bw.trans (O3.below (by omega))))
  replace B4 := O3.cel B4 (by omega)
  replace bw := bw.trans (O3.below (by omega))
  have B8 : Cel w3 (w.heap.size + 2) (Value.int .i64 2 :: ([Value.int .i64 0, .slice none 0 0, .slice none 0 0, .slice none 0 0] ++ (cs ++ [Value.int .i64 0, .int .i64 0, .int .i64 0, .int .i64 0, .int .i64 0, .slice none 0 0, .int .i64 0, .slice none 0 0]))) 45 := B7
  have HL := Hid.mk8 (ki_mk hK (z7arg w3) hQ (z9arg w3)).arg.len
  have H1 := Hid.mk8 (ki_mk hK (z7arg w3) hQ (z9arg w3)).arg.one
  have H9 := Hid.mk8 (ki_mk hK (z7arg w3) hQ (z9arg w3)).arg.nine
  have HNF : Hid (NFV w.heap.size (Value.int .i64 2 :: ([Value.int .i64 0, .slice none 0 0, .slice none 0 0, .slice none 0 0] ++ (cs ++ [Value.int .i64 0, .int .i64 0, .int .i64 0, .int .i64 0, .int .i64 0, .slice none 0 0, .int .i64 0, .slice none 0 0])))) := ⟨nf_mk (fr0 _) (fr0 _), (hN2.mono (by omega)).mid (pre := Value.int .i64 2 :: [Value.int .i64 0, .slice none 0 0, .slice none 0 0, .slice none 0 0]) (by have := H9.out; have := hQ.arg.nine; omega) rfl⟩
  have HQ := Hid.mk8 (And.intro hQ hN2)
  clear B7 O3 B6 hP hN2 hQ
  go_wp2_with (first | refine load_obj (w.heap.size + 2) _ (by rfl) rfl B8 Tryz.underlying45 HL.out ?_ | refine store_cel (w.heap.size + 1) _ _ rfl rfl B4 H9.out HL.out H1.out ?_)
  intro w9 B9 O9
  have HZ := Hid.mk8 (And.intro B9 (And.intro (ki_mk hK (z7arg w9) (HQ.out.1.only HQ.out.2 (by omega) B4 (nou_mk (z7arg w).arg.nou (z8a w).nou (z9arg w).arg.nou) O9 (GG.kept (bw.trans (O9.below (by omega))))) (z9arg w9)) (bw.trans (O9.below (by omega)))))
  clear B9 O9 B8 B4 HQ
  go_wp2
  (try simp only [Exit.inBlock, Exit.then])
  refine bodyPost_ret (result_cel rfl (w.heap.size + 1) _ rfl HZ.out.1 Tryz.underlying45 HL.out) rfl ⟨_, rfl, ?_, HZ.out.2.2, HNF.out⟩
  rw [ew]
  exact HZ.out.2.1
 ·have ew : kB 2 N xs = ⟨0, n7, n8, n9⟩ := kB_none 2 N xs (by rw [eE]; exact z)
  have zz : (kE8 N xs != 0) = true := by simp [z]
  clear eE z
  generalize kE8 N xs = E1 at *
  go_enter Tryz.func27, Tryz.ntmps27
  go_wp2_with (refine store_cel (w.heap.size + 2) _ _ rfl rfl B6 rfl hIV.out (by simp [Value.oneCell']) ?_)
  intro w1 B6 O1
  replace B0 := O1.cel B0 (by omega)
  replace B4 := O1.cel B4 (by omega)
  replace bw := bw.trans (O1.below (by omega))
  clear O1
  have r0 := B0.cell 0 rfl
  have r1 := B0.cell 1 rfl
  go_wp2_with fail
  refine (H8.out _ bw).mono ?_
  rintro e w2 ⟨cs, rfl, hP, hN2, hb⟩
  have sz := B6.lt
  have sz2 := hb.size
  replace B4 := B4.kept hb
  replace B6 := B6.kept hb
  replace bw := bw.trans (hb.mono bw.size)
  clear hb r0 r1 B0
  go_wp2_with (refine store_part (w.heap.size + 2) (Value.int .i64 2 :: [Value.int .i64 0, .slice none 0 0, .slice none 0 0, .slice none 0 0]) [Value.int .i64 0, .int .i64 0, .int .i64 0, .int .i64 0, .slice none 0 0, .int .i64 0, .slice none 0 0, .slice none 0 0, .slice none 0 0] [Value.int .i64 0, .int .i64 0, .int .i64 0, .int .i64 0, .int .i64 0, .slice none 0 0, .int .i64 0, .slice none 0 0] cs rfl rfl B6 hP.arg.nine hP.arg.len hP.arg.one ?_)
  intro w3 B7 O3
  replace B4 := O3.cel B4 (by omega)
  replace bw := bw.trans (O3.below (by omega))
  clear B7 O3 B6 hP hN2
  go_wp2_with (refine store_cel (w.heap.size + 1) _ _ rfl rfl B4 rfl hIV.out (by simp [Value.oneCell']) ?_)
  intro w9 B9 O9
  have HZ := Hid.mk8 (And.intro B9 (bw.trans (O9.below (by omega))))
  clear B9 O9
  go_wp2
  (try simp only [Exit.inBlock, Exit.then])
  refine bodyPost_ret (result_cel rfl (w.heap.size + 1) _ rfl HZ.out.1 Tryz.underlying45 hIV.out) rfl ⟨_, rfl, ?_, HZ.out.2, nf_mk (fr0 _) (fr0 _), nf_mk (fr0 _) (fr0 _)⟩
  rw [ew]
  exact ki_mk i64_0 (z7arg _) (z8arg _ (GG.kept HZ.out.2)) (z9arg _)
theorem build_f (N : Int) (ao : Option Addr) (xs : List Nat) (cap : Nat) (w : World) (hN : I64 N) (hx : Wd w ao xs) (hf : Fit xs) (hcap : xs.length ≤ cap) (hl : N ≤ 3000 ∧ xs.length ≤ 1048576) (GG : GV w) :
  Calls Tryz.prog 27 #[.int .i64 3, .agg #[.int .i64 N, .slice ao xs.length cap]] w fun e w' => ∃ cs : List Value, e = .returned (.tuple #[.agg cs.toArray, .int .i64 (kE 3 N xs)]) ∧ KI w' cs (kB 3 N xs) ∧ Below w.heap.size w w' ∧ NFV w.heap.size cs := by
 obtain ⟨W, hW⟩ : ∃ W, W = ((w.alloc (.cells #[.int .i64 N, .slice ao xs.length cap] 33)).alloc (.cells [Value.int .i64 0, .int .i64 0, .slice none 0 0, .slice none 0 0, .slice none 0 0, .int .i64 0, .int .i64 0, .int .i64 0, .int .i64 0, .slice none 0 0, .int .i64 0, .slice none 0 0, .slice none 0 0, .slice none 0 0, .int .i64 0, .int .i64 0, .int .i64 0, .int .i64 0, .int .i64 0, .slice none 0 0, .int .i64 0, .slice none 0 0].toArray 45)).alloc (.cells [Value.int .i64 0, .int .i64 0, .slice none 0 0, .slice none 0 0, .slice none 0 0, .int .i64 0, .int .i64 0, .int .i64 0, .int .i64 0, .slice none 0 0, .int .i64 0, .slice none 0 0, .slice none 0 0, .slice none 0 0, .int .i64 0, .int .i64 0, .int .i64 0, .int .i64 0, .int .i64 0, .slice none 0 0, .int .i64 0, .slice none 0 0].toArray 45) := ⟨_, rfl⟩
 have bw : Below w.heap.size w W := by rw [hW]; exact ((below_alloc w _).alloc (by simp) _).alloc (by simp; omega) _
 have B0 : Cel W w.heap.size [.int .i64 N, .slice ao xs.length cap] 33 := by rw [hW]; exact ((Cel.new w _ _).alloc _).alloc _
 have B4 : Cel W (w.heap.size + 1) [Value.int .i64 0, .int .i64 0, .slice none 0 0, .slice none 0 0, .slice none 0 0, .int .i64 0, .int .i64 0, .int .i64 0, .int .i64 0, .slice none 0 0, .int .i64 0, .slice none 0 0, .slice none 0 0, .slice none 0 0, .int .i64 0, .int .i64 0, .int .i64 0, .int .i64 0, .int .i64 0, .slice none 0 0, .int .i64 0, .slice none 0 0] 45 := by rw [hW]; exact (Cel.new2 w _ _ _).alloc _
 have B6 : Cel W (w.heap.size + 2) [Value.int .i64 0, .int .i64 0, .slice none 0 0, .slice none 0 0, .slice none 0 0, .int .i64 0, .int .i64 0, .int .i64 0, .int .i64 0, .slice none 0 0, .int .i64 0, .slice none 0 0, .slice none 0 0, .slice none 0 0, .int .i64 0, .int .i64 0, .int .i64 0, .int .i64 0, .int .i64 0, .slice none 0 0, .int .i64 0, .slice none 0 0] 45 := by rw [hW]; exact (Cel.new2 (w.alloc _) _ _ _).at (by simp)
 have hIV := Hid.mk8 info_v
 have H9 : Hid (∀ w0, Below w.heap.size w w0 → Calls Tryz.prog 54 #[.agg #[.int .i64 N, .slice ao xs.length cap]] w0 fun e w' => ∃ cs : List Value, e = .returned (.tuple #[.agg cs.toArray, .int .i64 (kE9 N xs)]) ∧ KI9 w' cs (kB9 N xs) ∧ Below w0.heap.size w0 w') := fun w0 h => build_k9 N ao xs cap w0 hN (hx.keep h) hf hcap hl
 subst hW
 have hK : I64 3 := by unfold I64; decide
 have eE : kE 3 N xs = kE9 N xs := rfl
 rw [eE]
 by_cases z : kE9 N xs = 0
 ·have ew : kB 3 N xs = ⟨3, n7, n8, kB9 N xs⟩ := kB_f N xs z
  rw [z] at H9 ⊢
  clear eE z
  go_enter Tryz.func27, Tryz.ntmps27
  go_wp2_with (refine store_cel (w.heap.size + 2) _ _ rfl rfl B6 rfl hIV.out (by simp [Value.oneCell']) ?_)
  intro w1 B6 O1
  replace B0 := O1.cel B0 (by omega)
  replace B4 := O1.cel B4 (by omega)
  replace bw := bw.trans (O1.below (by omega))
  clear O1
  have r0 := B0.cell 0 rfl
  have r1 := B0.cell 1 rfl
  go_wp2_with fail
  refine (H9.out _ bw).mono ?_
  rintro e w2 ⟨cs, rfl, hP, hb⟩
  have sz := B6.lt
  have sz2 := hb.size
  replace B4 := B4.kept hb
  replace B6 := B6.kept hb
  replace bw := bw.trans (hb.mono bw.size)
  clear hb r0 r1 B0
  go_wp2_with (refine store_part (w.heap.size + 2) (Value.int .i64 3 :: ([Value.int .i64 0, .slice none 0 0, .slice none 0 0, .slice none 0 0] ++ [Value.int .i64 0, .int .i64 0, .int .i64 0, .int .i64 0, .slice none 0 0, .int .i64 0, .slice none 0 0, .slice none 0 0, .slice none 0 0])) [Value.int .i64 0, .int .i64 0, .int .i64 0, .int .i64 0, .int .i64 0, .slice none 0 0, .int .i64 0, .slice none 0 0] [] cs rfl rfl B6 hP.arg.nine hP.arg.len hP.arg.one ?_)
  intro w3 B7 O3
  have hQ := hP.only B6 (nou_mk (z7arg w).arg.nou (z8a w).nou (z9arg w).arg.nou) O3
  replace B4 := O3.cel B4 (by omega)
  replace bw := bw.trans (O3.below (by omega))
  have B8 : Cel w3 (w.heap.size + 2) (Value.int .i64 3 :: ([Value.int .i64 0, .slice none 0 0, .slice none 0 0, .slice none 0 0] ++ ([Value.int .i64 0, .int .i64 0, .int .i64 0, .int .i64 0, .slice none 0 0, .int .i64 0, .slice none 0 0, .slice none 0 0, .slice none 0 0] ++ cs))) 45 := by simpa using B7
  have HL := Hid.mk8 (ka_mk hK (z7arg w3).arg (z8a w3) hQ.arg).len
  have H1 := Hid.mk8 (ka_mk hK (z7arg w3).arg (z8a w3) hQ.arg).one
  have H9 := Hid.mk8 (ka_mk hK (z7arg w3).arg (z8a w3) hQ.arg).nine
  have HNF : Hid (NFV w.heap.size (Value.int .i64 3 :: ([Value.int .i64 0, .slice none 0 0, .slice none 0 0, .slice none 0 0] ++ ([Value.int .i64 0, .int .i64 0, .int .i64 0, .int .i64 0, .slice none 0 0, .int .i64 0, .slice none 0 0, .slice none 0 0, .slice none 0 0] ++ cs)))) := ⟨nf_mk (fr0 _) (fr0 _), nf_mk (fr0 _) (fr0 _)⟩
  have HQ := Hid.mk8 (And.intro hQ trivial)
  clear B7 O3 B6 hP hQ
  go_wp2_with (first | refine load_obj (w.heap.size + 2) _ (by rfl) rfl B8 Tryz.underlying45 HL.out ?_ | refine store_cel (w.heap.size + 1) _ _ rfl rfl B4 H9.out HL.out H1.out ?_)
  intro w9 B9 O9
  have HZ := Hid.mk8 (And.intro B9 (And.intro (ki_mk hK (z7arg w9) (z8arg w9 (GG.kept (bw.trans (O9.below (by omega))))) (HQ.out.1.only B4 (nou_mk (z7arg w).arg.nou (z8a w).nou (z9arg w).arg.nou) O9)) (bw.trans (O9.below (by omega)))))
  clear B9 O9 B8 B4 HQ
  go_wp2
  (try simp only [Exit.inBlock, Exit.then])
  refine bodyPost_ret (result_cel rfl (w.heap.size + 1) _ rfl HZ.out.1 Tryz.underlying45 HL.out) rfl ⟨_, rfl, ?_, HZ.out.2.2, HNF.out⟩
  rw [ew]
  exact HZ.out.2.1
 ·have ew : kB 3 N xs = ⟨0, n7, n8, n9⟩ := kB_none 3 N xs (by rw [eE]; exact z)
  have zz : (kE9 N xs != 0) = true := by simp [z]
  clear eE z
  generalize kE9 N xs = E1 at *
  go_enter Tryz.func27, Tryz.ntmps27
  go_wp2_with (refine store_cel (w.heap.size + 2) _ _ rfl rfl B6 rfl hIV.out (by simp [Value.oneCell']) ?_)
  intro w1 B6 O1
  replace B0 := O1.cel B0 (by omega)
  replace B4 := O1.cel B4 (by omega)
  replace bw := bw.trans (O1.below (by omega))
  clear O1
  have r0 := B0.cell 0 rfl
  have r1 := B0.cell 1 rfl
  go_wp2_with fail
  refine (H9.out _ bw).mono ?_
  rintro e w2 ⟨cs, rfl, hP, hb⟩
  have sz := B6.lt
  have sz2 := hb.size
  replace B4 := B4.kept hb
  replace B6 := B6.kept hb
  replace bw := bw.trans (hb.mono bw.size)
  clear hb r0 r1 B0
  go_wp2_with (refine store_part (w.heap.size + 2) (Value.int .i64 3 :: ([Value.int .i64 0, .slice none 0 0, .slice none 0 0, .slice none 0 0] ++ [Value.int .i64 0, .int .i64 0, .int .i64 0, .int .i64 0, .slice none 0 0, .int .i64 0, .slice none 0 0, .slice none 0 0, .slice none 0 0])) [Value.int .i64 0, .int .i64 0, .int .i64 0, .int .i64 0, .int .i64 0, .slice none 0 0, .int .i64 0, .slice none 0 0] [] cs rfl rfl B6 hP.arg.nine hP.arg.len hP.arg.one ?_)
  intro w3 B7 O3
  replace B4 := O3.cel B4 (by omega)
  replace bw := bw.trans (O3.below (by omega))
  clear B7 O3 B6 hP
  go_wp2_with (refine store_cel (w.heap.size + 1) _ _ rfl rfl B4 rfl hIV.out (by simp [Value.oneCell']) ?_)
  intro w9 B9 O9
  have HZ := Hid.mk8 (And.intro B9 (bw.trans (O9.below (by omega))))
  clear B9 O9
  go_wp2
  (try simp only [Exit.inBlock, Exit.then])
  refine bodyPost_ret (result_cel rfl (w.heap.size + 1) _ rfl HZ.out.1 Tryz.underlying45 hIV.out) rfl ⟨_, rfl, ?_, HZ.out.2, nf_mk (fr0 _) (fr0 _), nf_mk (fr0 _) (fr0 _)⟩
  rw [ew]
  exact ki_mk i64_0 (z7arg _) (z8arg _ (GG.kept HZ.out.2)) (z9arg _)
theorem build_k (k N : Int) (ao : Option Addr) (xs : List Nat) (cap : Nat) (w : World) (hK : I64 k) (hN : I64 N) (hx : Wd w ao xs) (hf : Fit xs) (hcap : xs.length ≤ cap) (hl : N ≤ 3000 ∧ xs.length ≤ 1048576) (GG : GV w) :
  Calls Tryz.prog 27 #[.int .i64 k, .agg #[.int .i64 N, .slice ao xs.length cap]] w fun e w' => ∃ cs : List Value, e = .returned (.tuple #[.agg cs.toArray, .int .i64 (kE k N xs)]) ∧ KI w' cs (kB k N xs) ∧ Below w.heap.size w w' ∧ NFV w.heap.size cs := by
 by_cases q2 : k = 2
 ·subst q2
  exact build_r N ao xs cap w hN hx hf hcap hl GG
 by_cases q3 : k = 3
 ·subst q3
  exact build_f N ao xs cap w hN hx hf hcap hl GG
 obtain ⟨W, hW⟩ : ∃ W, W = ((w.alloc (.cells #[.int .i64 N, .slice ao xs.length cap] 33)).alloc (.cells [Value.int .i64 0, .int .i64 0, .slice none 0 0, .slice none 0 0, .slice none 0 0, .int .i64 0, .int .i64 0, .int .i64 0, .int .i64 0, .slice none 0 0, .int .i64 0, .slice none 0 0, .slice none 0 0, .slice none 0 0, .int .i64 0, .int .i64 0, .int .i64 0, .int .i64 0, .int .i64 0, .slice none 0 0, .int .i64 0, .slice none 0 0].toArray 45)).alloc (.cells [Value.int .i64 0, .int .i64 0, .slice none 0 0, .slice none 0 0, .slice none 0 0, .int .i64 0, .int .i64 0, .int .i64 0, .int .i64 0, .slice none 0 0, .int .i64 0, .slice none 0 0, .slice none 0 0, .slice none 0 0, .int .i64 0, .int .i64 0, .int .i64 0, .int .i64 0, .int .i64 0, .slice none 0 0, .int .i64 0, .slice none 0 0].toArray 45) := ⟨_, rfl⟩
 have bw : Below w.heap.size w W := by rw [hW]; exact ((below_alloc w _).alloc (by simp) _).alloc (by simp; omega) _
 have B0 : Cel W w.heap.size [.int .i64 N, .slice ao xs.length cap] 33 := by rw [hW]; exact ((Cel.new w _ _).alloc _).alloc _
 have B4 : Cel W (w.heap.size + 1) [Value.int .i64 0, .int .i64 0, .slice none 0 0, .slice none 0 0, .slice none 0 0, .int .i64 0, .int .i64 0, .int .i64 0, .int .i64 0, .slice none 0 0, .int .i64 0, .slice none 0 0, .slice none 0 0, .slice none 0 0, .int .i64 0, .int .i64 0, .int .i64 0, .int .i64 0, .int .i64 0, .slice none 0 0, .int .i64 0, .slice none 0 0] 45 := by rw [hW]; exact (Cel.new2 w _ _ _).alloc _
 have B6 : Cel W (w.heap.size + 2) [Value.int .i64 0, .int .i64 0, .slice none 0 0, .slice none 0 0, .slice none 0 0, .int .i64 0, .int .i64 0, .int .i64 0, .int .i64 0, .slice none 0 0, .int .i64 0, .slice none 0 0, .slice none 0 0, .slice none 0 0, .int .i64 0, .int .i64 0, .int .i64 0, .int .i64 0, .int .i64 0, .slice none 0 0, .int .i64 0, .slice none 0 0] 45 := by rw [hW]; exact (Cel.new2 (w.alloc _) _ _ _).at (by simp)
 have hIV := Hid.mk8 info_v
 have H7 : Hid (∀ w0, Below w.heap.size w w0 → Calls Tryz.prog 52 #[.agg #[.int .i64 N, .slice ao xs.length cap]] w0 fun e w' => ∃ cs : List Value, e = .returned (.tuple #[.agg cs.toArray, .int .i64 (kE7 N xs)]) ∧ KI7 w' cs (kB7 N xs) ∧ NF w0.heap.size 2 cs ∧ Below w0.heap.size w0 w') := fun w0 h => build_k7 N ao xs cap w0 hN (hx.keep h) hf hcap hl.2
 subst hW
 by_cases q1 : k = 1
 ·subst q1
  have eE : kE 1 N xs = kE7 N xs := rfl
  rw [eE]
  by_cases z : kE7 N xs = 0
  ·have ew : kB 1 N xs = ⟨1, kB7 N xs, n8, n9⟩ := kB_p N xs z
   rw [z] at H7 ⊢
   clear eE z
   go_enter Tryz.func27, Tryz.ntmps27
   go_wp2_with (refine store_cel (w.heap.size + 2) _ _ rfl rfl B6 rfl hIV.out (by simp [Value.oneCell']) ?_)
   intro w1 B6 O1
   replace B0 := O1.cel B0 (by omega)
   replace B4 := O1.cel B4 (by omega)
   replace bw := bw.trans (O1.below (by omega))
   clear O1
   have r0 := B0.cell 0 rfl
   have r1 := B0.cell 1 rfl
   go_wp2_with fail
   refine (H7.out _ bw).mono ?_
   rintro e w2 ⟨cs, rfl, hP, hN2, hb⟩
   have sz := B6.lt
   have sz2 := hb.size
   replace B4 := B4.kept hb
   replace B6 := B6.kept hb
   replace bw := bw.trans (hb.mono bw.size)
   clear hb r0 r1 B0
   go_wp2_with (refine store_part (w.heap.size + 2) [Value.int .i64 1] [Value.int .i64 0, .slice none 0 0, .slice none 0 0, .slice none 0 0] ([Value.int .i64 0, .int .i64 0, .int .i64 0, .int .i64 0, .slice none 0 0, .int .i64 0, .slice none 0 0, .slice none 0 0, .slice none 0 0] ++ [Value.int .i64 0, .int .i64 0, .int .i64 0, .int .i64 0, .int .i64 0, .slice none 0 0, .int .i64 0, .slice none 0 0]) cs rfl rfl B6 hP.arg.four.symm hP.arg.len hP.arg.one ?_)
   intro w3 B7 O3
   have hQ := hP.only hN2 (by omega) B6 (nou_mk (z7arg w).arg.nou (z8a w).nou (z9arg w).arg.nou) O3
   replace B4 := O3.cel B4 (by omega)
   replace bw := bw.trans (O3.below (by omega))
   have B8 : Cel w3 (w.heap.size + 2) (Value.int .i64 1 :: (cs ++ ([Value.int .i64 0, .int .i64 0, .int .i64 0, .int .i64 0, .slice none 0 0, .int .i64 0, .slice none 0 0, .slice none 0 0, .slice none 0 0] ++ [Value.int .i64 0, .int .i64 0, .int .i64 0, .int .i64 0, .int .i64 0, .slice none 0 0, .int .i64 0, .slice none 0 0]))) 45 := B7
   have HL := Hid.mk8 (ka_mk hK hQ.arg (z8a w3) (z9arg w3).arg).len
   have H1 := Hid.mk8 (ka_mk hK hQ.arg (z8a w3) (z9arg w3).arg).one
   have H9 := Hid.mk8 (ka_mk hK hQ.arg (z8a w3) (z9arg w3).arg).nine
   have HNF : Hid (NFV w.heap.size (Value.int .i64 1 :: (cs ++ ([Value.int .i64 0, .int .i64 0, .int .i64 0, .int .i64 0, .slice none 0 0, .int .i64 0, .slice none 0 0, .slice none 0 0, .slice none 0 0] ++ [Value.int .i64 0, .int .i64 0, .int .i64 0, .int .i64 0, .int .i64 0, .slice none 0 0, .int .i64 0, .slice none 0 0])))) := ⟨(hN2.mono (by omega)).mid (pre := [Value.int .i64 1]) (by have := hQ.arg.four; omega) rfl, (show NF w.heap.size 7 [Value.int .i64 0, .int .i64 0, .int .i64 0, .int .i64 0, .slice none 0 0, .int .i64 0, .slice none 0 0, .slice none 0 0, .slice none 0 0] from nf_mk (fr0 _) (fr0 _)).mid (pre := Value.int .i64 1 :: cs) (by decide) (by have := hQ.arg.four; simp; omega)⟩
   have HQ := Hid.mk8 (And.intro hQ hN2)
   clear B7 O3 B6 hP hN2 hQ
   go_wp2_with (first | refine load_obj (w.heap.size + 2) _ (by rfl) rfl B8 Tryz.underlying45 HL.out ?_ | refine store_cel (w.heap.size + 1) _ _ rfl rfl B4 H9.out HL.out H1.out ?_)
   intro w9 B9 O9
   have HZ := Hid.mk8 (And.intro B9 (And.intro (ki_mk hK (HQ.out.1.only HQ.out.2 (by omega) B4 (nou_mk (z7arg w).arg.nou (z8a w).nou (z9arg w).arg.nou) O9) (z8arg w9 (GG.kept (bw.trans (O9.below (by omega))))) (z9arg w9)) (bw.trans (O9.below (by omega)))))
   clear B9 O9 B8 B4 HQ
   go_wp2
   (try simp only [Exit.inBlock, Exit.then])
   refine bodyPost_ret (result_cel rfl (w.heap.size + 1) _ rfl HZ.out.1 Tryz.underlying45 HL.out) rfl ⟨_, rfl, ?_, HZ.out.2.2, HNF.out⟩
   rw [ew]
   exact HZ.out.2.1
  ·have ew : kB 1 N xs = ⟨0, n7, n8, n9⟩ := kB_none 1 N xs (by rw [eE]; exact z)
   have zz : (kE7 N xs != 0) = true := by simp [z]
   clear eE z
   generalize kE7 N xs = E1 at *
   go_enter Tryz.func27, Tryz.ntmps27
   go_wp2_with (refine store_cel (w.heap.size + 2) _ _ rfl rfl B6 rfl hIV.out (by simp [Value.oneCell']) ?_)
   intro w1 B6 O1
   replace B0 := O1.cel B0 (by omega)
   replace B4 := O1.cel B4 (by omega)
   replace bw := bw.trans (O1.below (by omega))
   clear O1
   have r0 := B0.cell 0 rfl
   have r1 := B0.cell 1 rfl
   go_wp2_with fail
   refine (H7.out _ bw).mono ?_
   rintro e w2 ⟨cs, rfl, hP, hN2, hb⟩
   have sz := B6.lt
   have sz2 := hb.size
   replace B4 := B4.kept hb
   replace B6 := B6.kept hb
   replace bw := bw.trans (hb.mono bw.size)
   clear hb r0 r1 B0
   go_wp2_with (refine store_part (w.heap.size + 2) [Value.int .i64 1] [Value.int .i64 0, .slice none 0 0, .slice none 0 0, .slice none 0 0] ([Value.int .i64 0, .int .i64 0, .int .i64 0, .int .i64 0, .slice none 0 0, .int .i64 0, .slice none 0 0, .slice none 0 0, .slice none 0 0] ++ [Value.int .i64 0, .int .i64 0, .int .i64 0, .int .i64 0, .int .i64 0, .slice none 0 0, .int .i64 0, .slice none 0 0]) cs rfl rfl B6 hP.arg.four.symm hP.arg.len hP.arg.one ?_)
   intro w3 B7 O3
   replace B4 := O3.cel B4 (by omega)
   replace bw := bw.trans (O3.below (by omega))
   clear B7 O3 B6 hP hN2
   go_wp2_with (refine store_cel (w.heap.size + 1) _ _ rfl rfl B4 rfl hIV.out (by simp [Value.oneCell']) ?_)
   intro w9 B9 O9
   have HZ := Hid.mk8 (And.intro B9 (bw.trans (O9.below (by omega))))
   clear B9 O9
   go_wp2
   (try simp only [Exit.inBlock, Exit.then])
   refine bodyPost_ret (result_cel rfl (w.heap.size + 1) _ rfl HZ.out.1 Tryz.underlying45 hIV.out) rfl ⟨_, rfl, ?_, HZ.out.2, nf_mk (fr0 _) (fr0 _), nf_mk (fr0 _) (fr0 _)⟩
   rw [ew]
   exact ki_mk i64_0 (z7arg _) (z8arg _ (GG.kept HZ.out.2)) (z9arg _)
 have eE : kE k N xs = 5 := by unfold kE; rw [if_neg q1, if_neg q2, if_neg q3]
 have ew : kB k N xs = ⟨0, n7, n8, n9⟩ := kB_none k N xs (by rw [eE]; decide)
 rw [eE]
 have d1 : (k == 1) = false := by simp [q1]
 have d2 : (k == 2) = false := by simp [q2]
 have d3 : (k == 3) = false := by simp [q3]
 clear eE
 go_enter Tryz.func27, Tryz.ntmps27
 go_wp2_with (refine store_cel (w.heap.size + 2) _ _ rfl rfl B6 rfl hIV.out (by simp [Value.oneCell']) ?_)
 intro w1 B6 O1
 replace B0 := O1.cel B0 (by omega)
 replace B4 := O1.cel B4 (by omega)
 replace bw := bw.trans (O1.below (by omega))
 clear O1
 have r0 := B0.cell 0 rfl
 have r1 := B0.cell 1 rfl
 go_wp2_with (refine store_cel (w.heap.size + 1) _ _ rfl rfl B4 rfl hIV.out (by simp [Value.oneCell']) ?_)
 intro w9 B9 O9
 have HZ := Hid.mk8 (And.intro B9 (bw.trans (O9.below (by omega))))
 clear B9 O9
 go_wp2
 (try simp only [Exit.inBlock, Exit.then])
 refine bodyPost_ret (result_cel rfl (w.heap.size + 1) _ rfl HZ.out.1 Tryz.underlying45 hIV.out) rfl ⟨_, rfl, ?_, HZ.out.2, nf_mk (fr0 _) (fr0 _), nf_mk (fr0 _) (fr0 _)⟩
 rw [ew]
 exact ki_mk i64_0 (z7arg _) (z8arg _ (GG.kept HZ.out.2)) (z9arg _)
def VB (k : Int) : Prop := ∀ (N : Int) (ao : Option Addr) (xs : List Nat) (cap : Nat) (w : World), I64 N → Wd w ao xs → Fit xs → xs.length ≤ cap → (N ≤ 3000 ∧ xs.length ≤ 1048576) → GV w → Calls Tryz.prog 27 #[.int .i64 k, .agg #[.int .i64 N, .slice ao xs.length cap]] w fun e w' => ∃ cs : List Value, e = .returned (.tuple #[.agg cs.toArray, .int .i64 (kE k N xs)]) ∧ KI w' cs (kB k N xs) ∧ Below w.heap.size w w' ∧ NFV w.heap.size cs
theorem vb_k (k : Int) (hK : I64 k) : VB k := fun N ao xs cap w h1 h2 h3 h4 h5 h6 => build_k k N ao xs cap w hK h1 h2 h3 h4 h5 h6
end Go.Proofs.YtfnkklkdajlhlaaGreatDoor
