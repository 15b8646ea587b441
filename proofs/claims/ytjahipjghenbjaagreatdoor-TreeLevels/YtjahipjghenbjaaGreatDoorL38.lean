/-
  The contracts of the program's functions of rows in blocks, over objects. The contracts of the program's Check, Size, Access, Rank and Select. What stays of a row of a kind where one other block is written; a part of a struct into its block.
-/
import Derived.Test.YtjahipjghenbjaaGreatDoorL37
import Derived.Test.YtjahipjghenbjaaGreatDoorL23
import Derived.Test.YtjahipjghenbjaaGreatDoorL27
import Derived.Test.YtjahipjghenbjaaGreatDoorL17
import Derived.Test.YtjahipjghenbjaaGreatDoorL18
set_option linter.unusedVariables false
set_option linter.unusedSimpArgs false
set_option maxRecDepth 100000
set_option maxHeartbeats 16000000
namespace Go.Proofs.YtjahipjghenbjaaGreatDoor
open Go.RowKit Num Bit Bn
theorem qbuild_bad (N : Int) (ao : Option Addr) (xs : List Nat) (cap : Nat) (w : World) (hx : Wd w ao xs) (hk : chk N xs = false) :
  Calls Tryz.prog 53 #[.agg #[.int .i64 N, .slice ao xs.length cap]] w fun e w' => e = .returned (.tuple #[.agg #[.int .i64 0, .int .i64 0, .int .i64 0, .int .i64 0, .slice none 0 0, .int .i64 0, .slice none 0 0, .slice none 0 0, .slice none 0 0], .int .i64 2]) ∧ Below w.heap.size w w' := by
 obtain ⟨W, hW⟩ : ∃ W, W = (w.alloc (.cells #[.int .i64 N, .slice ao xs.length cap] 33)).alloc (.cells #[.int .i64 0, .int .i64 0, .int .i64 0, .int .i64 0, .slice none 0 0, .int .i64 0, .slice none 0 0, .slice none 0 0, .slice none 0 0] 41) := ⟨_, rfl⟩
 have bW := yb2 hW
 have B2 := yc2 hW
 have C1 : Hid (∀ w0, Below w.heap.size w w0 → Calls Tryz.prog 92 #[.agg #[.int .i64 N, .slice ao xs.length cap]] w0 fun e w' => e = .returned (.bool false) ∧ Below w0.heap.size w0 w') := fun w0 h => by
  have := check_c N ao xs cap w0 (hx.keep h)
  rw [hk] at this
  exact this
 clear hx hk
 go_enter Tryz.func53, Tryz.ntmps53
 go_wp2_with fail
 rw [← hW]
 refine (C1.out _ bW).mono ?_
 rintro e w1 ⟨rfl, hb⟩
 have bw1 := bW.trans (hb.mono bW.size)
 replace B2 := B2.kept hb
 clear hb C1 hW bW
 go_wp2_with (refine store_cel (w.heap.size + 1) _ [.int .i64 0, .int .i64 0, .int .i64 0, .int .i64 0, .slice none 0 0, .int .i64 0, .slice none 0 0, .slice none 0 0, .slice none 0 0] rfl rfl B2 rfl info_rrr (by simp [Value.oneCell']) ?_)
 intro w2 C2 hO
 have HC := hide C2
 have bw2 := bw1.trans (hO.below (base := w.heap.size) (by omega))
 clear C2 hO B2 bw1
 go_wp2
 exact bodyPost_ret (result_cel rfl (w.heap.size + 1) _ rfl HC.out Tryz.underlying41 info_rrr) rfl ⟨rfl, bw2⟩
theorem build_k8 (N : Int) (ao : Option Addr) (xs : List Nat) (cap : Nat) (w : World) (hN : I64 N) (hx : Wd w ao xs) (hf : Fit xs) (hcap : xs.length ≤ cap) (hl : xs.length ≤ 1048576) :
  Calls Tryz.prog 53 #[.agg #[.int .i64 N, .slice ao xs.length cap]] w fun e w' => ∃ cs : List Value, e = .returned (.tuple #[.agg cs.toArray, .int .i64 (kE8 N xs)]) ∧ KI8 w' cs (kB8 N xs) ∧ NF w.heap.size 7 cs ∧ Below w.heap.size w w' := by
 cases hk : chk N xs with
 | false =>
  refine (qbuild_bad N ao xs cap w hx hk).mono ?_
  rintro e w' ⟨rfl, hb⟩
  have e1 : rbN N xs = 0 := by unfold rbN; rw [hk]; rfl
  have e2 : rbK N xs = 0 := by unfold rbK; rw [hk]; rfl
  have e3 : rbV N xs = 0 := by unfold rbV; rw [hk]; rfl
  have e4 : rbM N xs = 0 := by unfold rbM; rw [hk]; rfl
  have e5 : rbC N xs = [] := by unfold rbC; rw [hk]; rfl
  have e6 : rbL N xs = 0 := by unfold rbL; rw [hk]; rfl
  have e7 : rbO N xs = [] := by unfold rbO; rw [hk]; rfl
  have e8 : rbS N xs = [] := by unfold rbS; rw [hk]; rfl
  have e9 : rbT N xs = [] := by unfold rbT; rw [hk]; rfl
  have eE : kE8 N xs = 2 := by unfold kE8 rbE; rw [hk]; rfl
  have R : RO w.heap.size w' (rbC N xs) (rbO N xs) (rbS N xs) (rbT N xs) none 0 none 0 none 0 none 0 := by
   rw [e5, e7, e8, e9]
   exact ⟨fun h => absurd h (Nat.lt_irrefl _), Nat.le_refl _, fun h => absurd h (Nat.lt_irrefl _), Nat.le_refl _, nd0 _ _, Nat.le_refl _, nd0 _ _, Nat.le_refl _, fr0 _, fr0 _⟩
  refine ⟨_, ?_, R.ki, R.nf, hb⟩
  rw [eE, e1, e2, e3, e4, e5, e6, e7, e8, e9]
  rfl
 | true =>
  obtain ⟨h0, h1, _, _⟩ := chk_out N xs hk
  obtain ⟨m, rfl⟩ := Int.eq_ofNat_of_zero_le h0
  refine (qbuild_ok m ao xs cap w hx hf hk (by omega)).mono ?_
  rintro e w' ⟨g1, k1, g2, k2, so, sc, tO, tc, rfl, hk1, hk2, p1, p2, p3, p4, q1, q2, hb, f1, f2⟩
  have e1 : rbN (m : Int) xs = (m : Int) := by unfold rbN; rw [hk]; rfl
  have e2 : rbK (m : Int) xs = (nb m : Int) := by unfold rbK; rw [hk, Int.toNat_natCast]; rfl
  have e3 : rbV (m : Int) xs = 4 := by unfold rbV; rw [hk]; rfl
  have e4 : rbM (m : Int) xs = (nb m : Int) * 4 := by unfold rbM; rw [hk, Int.toNat_natCast]; rfl
  have e5 : rbC (m : Int) xs = rC m (bitAt xs) := by unfold rbC; rw [hk, Int.toNat_natCast]; rfl
  have e6 : rbL (m : Int) xs = (bat m (bitAt xs) (nb m) : Int) := by unfold rbL; rw [hk, Int.toNat_natCast]; rfl
  have e7 : rbO (m : Int) xs = rO m (bitAt xs) := by unfold rbO; rw [hk, Int.toNat_natCast]; rfl
  have e8 : rbS (m : Int) xs = rS m (bitAt xs) := by unfold rbS; rw [hk, Int.toNat_natCast]; rfl
  have e9 : rbT (m : Int) xs = rT m (bitAt xs) := by unfold rbT; rw [hk, Int.toNat_natCast]; rfl
  have lC : (rC m (bitAt xs)).length = k1 := by unfold rC mkS; rw [length_rowOf, length_bclP, hk1]
  have lO : (rO m (bitAt xs)).length = k2 := by unfold rO frL; rw [length_rowOf, length_bofP, hk2]
  have lS : (rS m (bitAt xs)).length = gN m := by unfold rS; rw [length_onL]
  have lT : (rT m (bitAt xs)).length = gN m := by unfold rT; rw [length_ptL]
  have R : RO w.heap.size w' (rbC (m : Int) xs) (rbO (m : Int) xs) (rbS (m : Int) xs) (rbT (m : Int) xs) (some ⟨g1, 0, none⟩) k1 (some ⟨g2, 0, none⟩) k2 so sc tO tc := by
   rw [e5, e7, e8, e9]
   exact ⟨p1, by omega, p2, by omega, p3, by omega, p4, by omega, f1, f2⟩
  refine ⟨_, ?_, R.ki, R.nf, hb⟩
  rw [kE_ok8 _ _ hk, e1, e2, e3, e4, e5, e6, e7, e8, e9, lC, lO, lS, lT]
end Go.Proofs.YtjahipjghenbjaaGreatDoor
namespace Go.Proofs.YtjahipjghenbjaaGreatDoor
open Go.RowKit Num Bit
theorem info_bv : (Tryz.prog.info? 33).map (·.size) = some 2 := by kernel_rfl
theorem Only.nd {g base : Nat} {w w' : World} {ao : Option Addr} {l : List Int} (h : Only g w w') (hx : Nd w ao l) (hf : Fr base ao) (hg : g < base) : Nd w' ao l := by
 intro h0
 obtain ⟨b, off, rfl, hlt, hc⟩ := hx h0
 have hne : base ≤ b := hf _ rfl
 exact ⟨b, off, rfl, by rw [h.size]; exact hlt, fun i hi => (h.cell (p := ⟨b, off + i, none⟩) (show b ≠ g by omega)).trans (hc i hi)⟩
def Nou (cs : List Value) : Prop := ∀ v ∈ cs, ∀ n, v ≠ .int .u64 n
theorem Nou.app {a b : List Value} (h : Nou a) (g : Nou b) : Nou (a ++ b) := fun v hv n => by
 rcases List.mem_append.1 hv with e | e
 ·exact h v e n
 ·exact g v e n
theorem KArg7.nou {w : World} {cs : List Value} {a : RA7} (h : KArg7 w cs a) : Nou cs := by
 obtain ⟨ao, cap, so, sc, tO, tc, rfl, _⟩ := h
 intro v hv n
 simp at hv
 rcases hv with rfl | rfl | rfl | rfl <;> simp
theorem KArg8.nou {w : World} {cs : List Value} {a : RA8} (h : KArg8 w cs a) : Nou cs := by
 obtain ⟨ao, cap, qo, dap, so, sc, tO, tc, rfl, _⟩ := h
 intro v hv n
 simp at hv
 rcases hv with rfl | rfl | rfl | rfl | rfl | rfl | rfl | rfl | rfl <;> simp
theorem KArg9.nou {w : World} {cs : List Value} {a : RA9} (h : KArg9 w cs a) : Nou cs := by
 obtain ⟨ao, cap, qo, dap, rfl, _⟩ := h
 intro v hv n
 simp at hv
 rcases hv with rfl | rfl | rfl | rfl | rfl | rfl | rfl | rfl <;> simp
theorem KI7.only {w w2 : World} {g base : Nat} {cs gs : List Value} {a : RA7} {T : TypeId} (h : KI7 w cs a) (nf : NF base 2 cs) (hg : g < base) (hc : Cel w g gs T) (hn : Nou gs) (hO : Only g w w2) : KI7 w2 cs a := by
 obtain ⟨⟨ao, cap, so, sc, tO, tc, rfl, h⟩, xl, sl, tl⟩ := h
 exact ⟨⟨ao, cap, so, sc, tO, tc, rfl, ⟨h.n, hO.wd h.x (h.x.apart hc hn), h.f, h.c, hO.nd h.s (nf _ _ _ (.inl rfl)) hg, h.sf, h.sc, hO.nd h.t (nf _ _ _ (.inr rfl)) hg, h.tf, h.tc⟩⟩, xl, sl, tl⟩
theorem KI8.only {w w2 : World} {g base : Nat} {cs gs : List Value} {a : RA8} {T : TypeId} (h : KI8 w cs a) (nf : NF base 7 cs) (hg : g < base) (hc : Cel w g gs T) (hn : Nou gs) (hO : Only g w w2) : KI8 w2 cs a := by
 obtain ⟨⟨ao, cap, qo, dap, so, sc, tO, tc, rfl, r, a1, a2, a3, a4, a5, a6, a7, a8, a9, a10⟩, xl, yl, sl, tl⟩ := h
 exact ⟨⟨ao, cap, qo, dap, so, sc, tO, tc, rfl, r, hO.wd a1 (a1.apart hc hn), a2, a3, hO.wd a4 (a4.apart hc hn), a5, a6, hO.nd a7 (nf _ _ _ (.inl rfl)) hg, a8, hO.nd a9 (nf _ _ _ (.inr rfl)) hg, a10⟩, xl, yl, sl, tl⟩
theorem KI9.only {w w2 : World} {g : Nat} {cs gs : List Value} {a : RA9} {T : TypeId} (h : KI9 w cs a) (hc : Cel w g gs T) (hn : Nou gs) (hO : Only g w w2) : KI9 w2 cs a := by
 obtain ⟨⟨ao, cap, qo, dap, rfl, r, a1, a2, a3, a4, a5, a6⟩, n3, xl, yl⟩ := h
 exact ⟨⟨ao, cap, qo, dap, rfl, r, hO.wd a1 (a1.apart hc hn), a2, a3, hO.wd a4 (a4.apart hc hn), a5, a6⟩, n3, xl, yl⟩
theorem i64_0 : I64 0 := ⟨by decide, by decide⟩
theorem z7arg (w : World) : KI7 w [Value.int .i64 0, .slice none 0 0, .slice none 0 0, .slice none 0 0] n7 := ⟨⟨none, 0, none, 0, none, 0, rfl, ⟨i64_0, wd0' _ _, fit_nil, Nat.le_refl _, nd0 _ _, fitI_nil, Nat.le_refl _, nd0 _ _, fitI_nil, Nat.le_refl _⟩⟩, Nat.zero_le _, Nat.zero_le _, Nat.zero_le _⟩
theorem z8arg (w : World) : KI8 w [Value.int .i64 0, .int .i64 0, .int .i64 0, .int .i64 0, .slice none 0 0, .int .i64 0, .slice none 0 0, .slice none 0 0, .slice none 0 0] n8 := ⟨⟨none, 0, none, 0, none, 0, none, 0, rfl, ⟨i64_0, i64_0, i64_0, i64_0, i64_0, fitI_nil, fitI_nil⟩, wd0' _ _, fit_nil, Nat.le_refl _, wd0' _ _, fit_nil, Nat.le_refl _, nd0 _ _, Nat.le_refl _, nd0 _ _, Nat.le_refl _⟩, Nat.zero_le _, Nat.zero_le _, Nat.zero_le _, Nat.zero_le _⟩
theorem z9arg (w : World) : KI9 w [Value.int .i64 0, .int .i64 0, .int .i64 0, .int .i64 0, .int .i64 0, .slice none 0 0, .int .i64 0, .slice none 0 0] n9 := ⟨⟨none, 0, none, 0, rfl, ⟨i64_0, i64_0, i64_0, i64_0, i64_0, i64_0⟩, wd0' _ _, fit_nil, Nat.le_refl _, wd0' _ _, fit_nil, Nat.le_refl _⟩, by decide, Nat.zero_le _, Nat.zero_le _⟩
theorem ki_mk {w : World} {cp cr cf : List Value} {K : Int} {p : RA7} {r : RA8} {f : RA9} (hK : I64 K) (h1 : KI7 w cp p) (h2 : KI8 w cr r) (h3 : KI9 w cf f) : KI w (.int .i64 K :: (cp ++ (cr ++ cf))) ⟨K, p, r, f⟩ :=
 ⟨⟨cp, cr, cf, rfl, hK, h1.arg, h2.arg, h3.arg⟩, ⟨h1.xl, h1.sl, h1.tl, h2.xl, h2.yl, h2.sl, h2.tl, h3.n3, h3.xl, h3.yl⟩⟩
theorem nou_mk {cp cr cf : List Value} {K : Int} (h1 : Nou cp) (h2 : Nou cr) (h3 : Nou cf) : Nou (.int .i64 K :: (cp ++ (cr ++ cf))) := fun v hv n => by
 rcases List.mem_cons.1 hv with rfl | e
 ·simp
 ·exact (h1.app (h2.app h3)) v e n
theorem cel_cells {w : World} {g : Nat} {T : TypeId} : ∀ (cs pre old post : List Value), old.length = cs.length → Cel w g (pre ++ (old ++ post)) T → Cel (w.setCells g pre.length cs) g (pre ++ (cs ++ post)) T ∧ Only g w (w.setCells g pre.length cs) := by
 intro cs
 induction cs generalizing w with
 | nil =>
  intro pre old post hl h
  obtain rfl := List.eq_nil_of_length_eq_zero hl
  exact ⟨h, Only.refl _ _⟩
 | cons v r ih =>
  intro pre old post hl h
  match old, hl with
  | u :: o, hl =>
   have h2 : Cel (w.setCell ⟨g, pre.length, none⟩ v) g ((pre ++ [v]) ++ (o ++ post)) T := by
    have := h.set pre.length v
    have e : (pre ++ (u :: o ++ post)).set pre.length v = (pre ++ [v]) ++ (o ++ post) := by
     rw [List.set_append_right _ _ (Nat.le_refl _), Nat.sub_self]
     simp
    rw [e] at this
    exact this
   have k := ih (pre ++ [v]) o post (by simpa using hl) h2
   rw [List.length_append, List.length_singleton] at k
   refine ⟨?_, ((Only.refl g w).set pre.length v).trans k.2⟩
   have k1 := k.1
   rw [List.append_assoc] at k1
   exact k1
theorem store_part {ops : Array Oper} {rest : List Oper} {d : Option Tmp} {ty T TT : TypeId} {ps : String} {af : Array Edge} {a : Act} {w : World} {Q : Exit → Act → World → Prop} {x y : Operand}
  (g : Nat) (pre old post cs : List Value) (hx : a.eval x = .pointer (some ⟨g, pre.length, none⟩)) (hy : a.eval y = .agg cs.toArray) (hc : Cel w g (pre ++ (old ++ post)) TT) (lo : old.length = cs.length) (hi : (Tryz.prog.info? T).map (·.size) = some cs.length) (h1 : cs.toArray.all (·.oneCell') = true)
  (h : ∀ w1, Cel w1 g (pre ++ (cs ++ post)) TT → Only g w w1 → wpList Tryz.prog ops Q rest (a.put d undef) w1) :
  wpList Tryz.prog ops Q (⟨d, .store T x y, ty, ps, af, none⟩ :: rest) a w := by
 refine wpList_store_mid rfl T x y rfl g pre.length cs.toArray hx hy ?_ (by simpa using hi) h1 ?_
 ·intro j hj
  have hj : j < cs.length := by simpa using hj
  have hl : pre.length + j < (pre ++ (old ++ post)).length := by simp only [List.length_append]; omega
  exact ⟨by rw [hc.cell (pre.length + j) (List.getElem?_eq_getElem hl)]; rfl, hc.frozen _⟩
 ·have k := cel_cells cs pre old post lo hc
  exact h _ k.1 k.2
end Go.Proofs.YtjahipjghenbjaaGreatDoor
