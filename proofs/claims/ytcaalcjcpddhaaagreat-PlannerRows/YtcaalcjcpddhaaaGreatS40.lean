/-
  What a row of one of the kinds tells, once it is known whether it may be (ok) and which bits it has (N, X): plain. Rows in blocks: when one may be, and which bits it has: plain. The contracts of the document's Check, Bits, Access, Rank and Select, over that of its Whole. The contracts of the document's Build, Whole and Size of layer 8. The two tables of package rrr, as the program's text lays them: how many bits an offset of each class has, and how many blocks of each class there are.
-/
import Derived.Test.YtcaalcjcpddhaaaGreatS39
set_option linter.unusedVariables false
set_option linter.unusedSimpArgs false
set_option maxRecDepth 100000
namespace Go.Proofs.YtcaalcjcpddhaaaGreat
open Num Bit
def I64 (n : Int) : Prop := -9223372036854775808 ≤ n ∧ n ≤ 9223372036854775807
end Go.Proofs.YtcaalcjcpddhaaaGreat
namespace Go.Proofs.YtcaalcjcpddhaaaGreat
open Num Bit Bn
def rDec (N k V : Int) (xs : List Nat) (L : Int) (ys : List Nat) : Option (List Bool) := decG N.toNat L ys ((List.range k.toNat).map (numAt V.toNat xs)) 0 []
def rEq (N k V M : Int) (xs : List Nat) (L : Int) (ys : List Nat) (S T : List Int) (m : Nat) (f : Nat → Bool) : Bool :=
 decide (N = m) && ((decide (k = nb m) && (decide (V = 4) && (decide (M = (nb m : Int) * 4) && decide (xs = rC m f)))) && ((decide (L = bat m f (nb m)) && decide (ys = rO m f)) && (decide (S = rS m f) && decide (T = rT m f))))
def rOk (N k V M : Int) (xs : List Nat) (L : Int) (ys : List Nat) (S T : List Int) : Bool :=
 (decide (0 ≤ N ∧ N ≤ 1048576) && (ichk k V M xs && chk L ys)) && rEq N k V M xs L ys S T (rwN (rDec N k V xs L ys)) (bitAt (rwX (rDec N k V xs L ys)))
def rBN (N k V M : Int) (xs : List Nat) (L : Int) (ys : List Nat) (S T : List Int) : Int := if rOk N k V M xs L ys S T then (rwN (rDec N k V xs L ys) : Int) else 0
def rBX (N k V M : Int) (xs : List Nat) (L : Int) (ys : List Nat) (S T : List Int) : List Nat := if rOk N k V M xs L ys S T then rwX (rDec N k V xs L ys) else []
def rzN (N k V M : Int) (xs : List Nat) (L : Int) (ys : List Nat) (S T : List Int) : Int := if rOk N k V M xs L ys S T then M + L + 64 * (S.length : Int) else 0
theorem rw_chk (o : Option (List Bool)) (h : ∀ l, o = some l → l.length ≤ 1048576) : chk (rwN o : Int) (rwX o) = true := by
 cases o with
 | none => decide
 | some l => exact chk_rowOf _ _ (h l rfl)
theorem rw_fit (o : Option (List Bool)) : Fit (rwX o) := by
 cases o with
 | none => intro i; unfold gt; simp [rwX]
 | some l => exact fit_rowOf _ _
theorem rDec_len (N k V : Int) (xs : List Nat) (L : Int) (ys : List Nat) (hN : N ≤ 1048576) : ∀ l, rDec N k V xs L ys = some l → l.length ≤ 1048576 := by
 intro l h
 have := length_decG N.toNat L ys _ 0 [] l (by simp) h
 omega
theorem rOk_out (N k V M : Int) (xs : List Nat) (L : Int) (ys : List Nat) (S T : List Int) (h : rOk N k V M xs L ys S T = true) :
  (0 ≤ N ∧ N ≤ 1048576) ∧ ichk k V M xs = true ∧ chk L ys = true ∧ rEq N k V M xs L ys S T (rwN (rDec N k V xs L ys)) (bitAt (rwX (rDec N k V xs L ys))) = true := by
 unfold rOk at h
 simp only [Bool.and_eq_true, decide_eq_true_eq] at h
 exact ⟨h.1.1, h.1.2.1, h.1.2.2, h.2⟩
theorem rB_chk (N k V M : Int) (xs : List Nat) (L : Int) (ys : List Nat) (S T : List Int) (h : rOk N k V M xs L ys S T = true) : chk (rBN N k V M xs L ys S T) (rBX N k V M xs L ys S T) = true := by
 obtain ⟨h1, _, _, _⟩ := rOk_out _ _ _ _ _ _ _ _ _ h
 unfold rBN rBX
 rw [if_pos h, if_pos h]
 exact rw_chk _ (rDec_len N k V xs L ys h1.2)
theorem rB_fit (N k V M : Int) (xs : List Nat) (L : Int) (ys : List Nat) (S T : List Int) : Fit (rBX N k V M xs L ys S T) := by
 unfold rBX
 split
 ·exact rw_fit _
 ·intro i; unfold gt; simp
theorem rEq_self (m : Nat) (f : Nat → Bool) : rEq m (nb m) 4 ((nb m : Int) * 4) (rC m f) (bat m f (nb m)) (rO m f) (rS m f) (rT m f) m f = true := by
 unfold rEq
 simp
theorem rDec_built (m : Nat) (f : Nat → Bool) (hm : m ≤ 1048576) : rDec m (nb m) 4 (rC m f) (bat m f (nb m)) (rO m f) = some ((List.range m).map f) := by
 unfold rDec rC rO
 rw [Int.toNat_natCast, Int.toNat_natCast]
 exact dec_built m f hm
end Go.Proofs.YtcaalcjcpddhaaaGreat
namespace Go.Proofs.YtcaalcjcpddhaaaGreat
open Go.RowKit Num Bit
theorem r8info_b : (Tryz.prog.info? 24).map (·.size) = some 2 := by kernel_rfl
set_option maxHeartbeats 2000000 in
theorem r8check_g (c0 c1 c2 c3 c4 c5 c6 c7 c8 : Value) (ok : Bool) (N : Int) (X : List Nat) (w : World) (hf : Fit X) (hck : ok = true → chk N X = true) (C1 : Hid (∀ w0, Below w.heap.size w w0 → Calls Tryz.prog 70 #[.agg #[c0, c1, c2, c3, c4, c5, c6, c7, c8]] w0 fun e w' => ∃ bo bc, e = .returned (.tuple #[.agg #[.int .i64 N, .slice bo X.length bc], .bool ok]) ∧ Wd w' bo X ∧ X.length ≤ bc ∧ Below w0.heap.size w0 w')) :
  Calls Tryz.prog 42 #[.agg #[c0, c1, c2, c3, c4, c5, c6, c7, c8]] w fun e w' => e = .returned (.bool ok) ∧ Below w.heap.size w w' := by
 obtain ⟨W, hW⟩ : ∃ W, W = w.alloc (.cells #[c0, c1, c2, c3, c4, c5, c6, c7, c8] 32) := ⟨_, rfl⟩
 have bW : Below w.heap.size w W := by rw [hW]; exact below_alloc w _
 go_enter Tryz.func42, Tryz.ntmps42
 go_wp2_with fail
 rw [← hW]
 refine (C1.out _ bW).mono ?_
 rintro e w1 ⟨bo, bc, rfl, hx, hbc, hb⟩
 have bw1 := bW.trans (hb.mono bW.size)
 clear hb C1
 have bA := below_alloc w1 (.cells #[.int .i64 N, .slice bo X.length bc] 24)
 have bw2 := bw1.trans (bA.mono bw1.size)
 go_wp2
 go_ret
 exact ⟨rfl, bw2⟩
end Go.Proofs.YtcaalcjcpddhaaaGreat
namespace Go.Proofs.YtcaalcjcpddhaaaGreat
open Go.RowKit Num Bit Bn
def rbN (N : Int) (xs : List Nat) : Int := if chk N xs then N else 0
def rbK (N : Int) (xs : List Nat) : Int := if chk N xs then (nb N.toNat : Int) else 0
def rbV (N : Int) (xs : List Nat) : Int := if chk N xs then 4 else 0
def rbM (N : Int) (xs : List Nat) : Int := if chk N xs then (nb N.toNat : Int) * 4 else 0
def rbC (N : Int) (xs : List Nat) : List Nat := if chk N xs then rC N.toNat (bitAt xs) else []
def rbL (N : Int) (xs : List Nat) : Int := if chk N xs then (bat N.toNat (bitAt xs) (nb N.toNat) : Int) else 0
def rbO (N : Int) (xs : List Nat) : List Nat := if chk N xs then rO N.toNat (bitAt xs) else []
def rbS (N : Int) (xs : List Nat) : List Int := if chk N xs then rS N.toNat (bitAt xs) else []
def rbT (N : Int) (xs : List Nat) : List Int := if chk N xs then rT N.toNat (bitAt xs) else []
def rbE (N : Int) (xs : List Nat) : Int := if chk N xs then 0 else 2
set_option maxHeartbeats 2000000 in
theorem r8build_bad (N : Int) (ao : Option Addr) (xs : List Nat) (cap : Nat) (w : World) (hx : Wd w ao xs) (hf : Fit xs) (hk : chk N xs = false) :
  Calls Tryz.prog 13 #[.agg #[.int .i64 N, .slice ao xs.length cap]] w fun e w' => e = .returned (.tuple #[.agg #[.int .i64 0, .int .i64 0, .int .i64 0, .int .i64 0, .slice none 0 0, .int .i64 0, .slice none 0 0, .slice none 0 0, .slice none 0 0], .int .i64 2]) ∧ Below w.heap.size w w' := by
 obtain ⟨W, hW⟩ : ∃ W, W = (w.alloc (.cells #[.int .i64 N, .slice ao xs.length cap] 24)).alloc (.cells #[.int .i64 0, .int .i64 0, .int .i64 0, .int .i64 0, .slice none 0 0, .int .i64 0, .slice none 0 0, .slice none 0 0, .slice none 0 0] 32) := ⟨_, rfl⟩
 have bW : Below w.heap.size w W := by rw [hW]; exact (below_alloc w _).alloc (by simp) _
 have B2 : Cel W (w.heap.size + 1) [.int .i64 0, .int .i64 0, .int .i64 0, .int .i64 0, .slice none 0 0, .int .i64 0, .slice none 0 0, .slice none 0 0, .slice none 0 0] 32 := by rw [hW]; exact Cel.new2 w _ _ _
 have C1 : Hid (∀ w0, w0 = W → Calls Tryz.prog 21 #[.agg #[.int .i64 N, .slice ao xs.length cap]] w0 fun e w' => e = .returned (.bool false) ∧ Below w0.heap.size w0 w') := fun w0 h => by
  subst h
  have := refcheck_c N ao xs cap w0 (hx.keep bW) hf
  rw [hk] at this
  exact this
 go_enter Tryz.func13, Tryz.ntmps13
 go_wp2_with fail
 rw [← hW]
 refine (C1.out _ rfl).mono ?_
 rintro e w1 ⟨rfl, hb⟩
 have bw1 := bW.trans (hb.mono bW.size)
 replace B2 := B2.kept hb
 clear hb C1 hW bW W
 go_wp2_with (refine store_cel (w.heap.size + 1) _ _ rfl rfl B2 rfl info_r9 (by simp [Value.oneCell']) ?_)
 intro w3 B3 O3
 have HZ := Hid.mk8 (And.intro B3 (bw1.trans (O3.below (Nat.le_succ _))))
 clear B3 O3 B2 bw1
 go_wp2
 (try simp only [Exit.inBlock, Exit.then])
 exact bodyPost_ret (result_cel rfl (w.heap.size + 1) _ rfl HZ.out.1 Tryz.underlying32 info_r9) rfl ⟨rfl, HZ.out.2⟩
theorem r8build_c (N : Int) (ao : Option Addr) (xs : List Nat) (cap : Nat) (w : World) (hx : Wd w ao xs) (hf : Fit xs) :
  Calls Tryz.prog 13 #[.agg #[.int .i64 N, .slice ao xs.length cap]] w fun e w' => ∃ bo bc qo qc so sc tO tc, e = .returned (.tuple #[.agg #[.int .i64 (rbN N xs), .int .i64 (rbK N xs), .int .i64 (rbV N xs), .int .i64 (rbM N xs), .slice bo (rbC N xs).length bc, .int .i64 (rbL N xs), .slice qo (rbO N xs).length qc, .slice so (rbS N xs).length sc, .slice tO (rbT N xs).length tc], .int .i64 (rbE N xs)]) ∧ RO w.heap.size w' (rbC N xs) (rbO N xs) (rbS N xs) (rbT N xs) bo bc qo qc so sc tO tc ∧ Below w.heap.size w w' := by
 unfold rbN rbK rbV rbM rbC rbL rbO rbS rbT rbE
 cases hk : chk N xs with
 | false =>
  refine (r8build_bad N ao xs cap w hx hf hk).mono ?_
  rintro e w' ⟨rfl, hb⟩
  exact ⟨none, 0, none, 0, none, 0, none, 0, rfl, ⟨wd0' _ _, Nat.le_refl _, wd0' _ _, Nat.le_refl _, nd0 _ _, Nat.le_refl _, nd0 _ _, Nat.le_refl _, fr0 _, fr0 _⟩, hb⟩
 | true =>
  obtain ⟨h0, h1, _, _⟩ := chk_out N xs hk
  obtain ⟨m, rfl⟩ := Int.eq_ofNat_of_zero_le h0
  have := r8build_ok m ao xs cap w hx hf hk
  simp only [Int.toNat_natCast]
  exact this
structure RIn (w : World) (N k V M : Int) (ao : Option Addr) (xs : List Nat) (cap : Nat) (L : Int) (qo : Option Addr) (ys : List Nat) (dap : Nat) (so : Option Addr) (S : List Int) (sc : Nat) (tO : Option Addr) (T : List Int) (tc : Nat) : Prop where
 x : Wd w ao xs
 xf : Fit xs
 xc : xs.length ≤ cap
 y : Wd w qo ys
 yf : Fit ys
 yc : ys.length ≤ dap
 s : Nd w so S
 sl : S.length ≤ 1048576
 sc : S.length ≤ sc
 t : Nd w tO T
 tl : T.length ≤ 1048576
 tc : T.length ≤ tc
theorem RIn.keep {w w' : World} {N k V M : Int} {ao : Option Addr} {xs : List Nat} {cap : Nat} {L : Int} {qo : Option Addr} {ys : List Nat} {dap : Nat} {so : Option Addr} {S : List Int} {sc : Nat} {tO : Option Addr} {T : List Int} {tc : Nat} (h : RIn w N k V M ao xs cap L qo ys dap so S sc tO T tc) (hb : Below w.heap.size w w') : RIn w' N k V M ao xs cap L qo ys dap so S sc tO T tc :=
 ⟨h.x.keep hb, h.xf, h.xc, h.y.keep hb, h.yf, h.yc, h.s.keep hb, h.sl, h.sc, h.t.keep hb, h.tl, h.tc⟩
set_option maxHeartbeats 8000000 in
theorem r8whole_main (N k V M : Int) (ao : Option Addr) (xs : List Nat) (cap : Nat) (L : Int) (qo : Option Addr) (ys : List Nat) (dap : Nat) (so : Option Addr) (S : List Int) (sc : Nat) (tO : Option Addr) (T : List Int) (tc : Nat) (w : World) (h : RIn w N k V M ao xs cap L qo ys dap so S sc tO T tc) (h2 : 0 ≤ N) (h3 : ¬ 1048576 < N) (hik : ichk k V M xs = true) (hck : chk L ys = true) :
  Calls Tryz.prog 70 #[.agg #[.int .i64 N, .int .i64 k, .int .i64 V, .int .i64 M, .slice ao xs.length cap, .int .i64 L, .slice qo ys.length dap, .slice so S.length sc, .slice tO T.length tc]] w fun e w' => ∃ bo bc, e = .returned (.tuple #[.agg #[.int .i64 (rBN N k V M xs L ys S T), .slice bo (rBX N k V M xs L ys S T).length bc], .bool (rOk N k V M xs L ys S T)]) ∧ Wd w' bo (rBX N k V M xs L ys S T) ∧ (rBX N k V M xs L ys S T).length ≤ bc ∧ Below w.heap.size w w' := by
 obtain ⟨W, hW⟩ : ∃ W, W = (w.alloc (.cells #[.int .i64 N, .int .i64 k, .int .i64 V, .int .i64 M, .slice ao xs.length cap, .int .i64 L, .slice qo ys.length dap, .slice so S.length sc, .slice tO T.length tc] 32)).alloc (.cells #[.int .i64 0, .slice none 0 0] 24) := ⟨_, rfl⟩
 have bW : Below w.heap.size w W := by rw [hW]; exact (below_alloc w _).alloc (by simp) _
 have B1 : Cel W w.heap.size [.int .i64 N, .int .i64 k, .int .i64 V, .int .i64 M, .slice ao xs.length cap, .int .i64 L, .slice qo ys.length dap, .slice so S.length sc, .slice tO T.length tc] 32 := by rw [hW]; exact (Cel.new w _ _).alloc _
 have B2 : Cel W (w.heap.size + 1) [.int .i64 0, .slice none 0 0] 24 := by rw [hW]; exact Cel.new2 w _ _ _
 have C1 : Hid (∀ w0, Below w.heap.size w w0 → Calls Tryz.prog 89 #[.agg #[.int .i64 k, .int .i64 V, .int .i64 M, .slice ao xs.length cap]] w0 fun e w' => e = .returned (.bool (ichk k V M xs)) ∧ Below w0.heap.size w0 w') := fun w0 hb => irefcheck_c k V M ao xs cap w0 (h.x.keep hb) h.xf
 have C2 : Hid (∀ w0, Below w.heap.size w w0 → Calls Tryz.prog 21 #[.agg #[.int .i64 L, .slice qo ys.length dap]] w0 fun e w' => e = .returned (.bool (chk L ys)) ∧ Below w0.heap.size w0 w') := fun w0 hb => refcheck_c L qo ys dap w0 (h.y.keep hb) h.yf
 obtain ⟨Z1, hZ1⟩ : ∃ Z, Hid (Z = rBN N k V M xs L ys S T) := ⟨_, rfl⟩
 obtain ⟨Z2, hZ2⟩ : ∃ Z, Hid (Z = rBX N k V M xs L ys S T) := ⟨_, rfl⟩
 obtain ⟨Z3, hZ3⟩ : ∃ Z, Hid (Z = rOk N k V M xs L ys S T) := ⟨_, rfl⟩
 rw [← hZ1.out, ← hZ2.out, ← hZ3.out]
 have bad : Hid (rOk N k V M xs L ys S T = false → Z1 = 0 ∧ Z2 = [] ∧ Z3 = false) := fun h => by rw [hZ1.out, hZ2.out, hZ3.out]; unfold rBN rBX; rw [h]; exact ⟨rfl, rfl, rfl⟩
 have r0 := B1.cell 0 rfl
 have r1 := B1.cell 1 rfl
 have r2 := B1.cell 2 rfl
 have r3 := B1.cell 3 rfl
 have r4 := B1.cell 4 rfl
 have r5 := B1.cell 5 rfl
 have r6 := B1.cell 6 rfl
 have r7 := B1.cell 7 rfl
 have r8 := B1.cell 8 rfl
 have h4 : ¬ N < 0 := by omega
 rw [hik] at C1
 rw [hck] at C2
 obtain ⟨m, rfl⟩ := Int.eq_ofNat_of_zero_le h2
 obtain ⟨a1, a2, a3, a4, a5, a6, a7, a8⟩ := ichk_out k V M xs hik
 obtain ⟨n, rfl⟩ := Int.eq_ofNat_of_zero_le a3
 obtain ⟨v, rfl⟩ := Int.eq_ofNat_of_zero_le (show 0 ≤ V by omega)
 obtain ⟨O, hO⟩ : ∃ O, Hid (O = rDec m n v xs L ys) := ⟨_, rfl⟩
 have hO2 : decG m L ys ((List.range n).map (numAt v xs)) 0 [] = O := by rw [hO.out]; rfl
 have hOl : ∀ l, O = some l → l.length ≤ 1048576 := fun l e => rDec_len m n v xs L ys (by omega) l (hO.out.symm.trans e)
 have ck := rw_chk O hOl
 have RWc : Hid (∀ w0, Below w.heap.size w w0 → Calls Tryz.prog 90 #[.agg #[.int .i64 m, .int .i64 n, .int .i64 v, .int .i64 M, .slice ao xs.length cap, .int .i64 L, .slice qo ys.length dap, .slice so S.length sc, .slice tO T.length tc]] w0 fun e w' => ∃ bo bc, e = .returned (.agg #[.int .i64 (rwN O), .slice bo (rwX O).length bc]) ∧ Wd w' bo (rwX O) ∧ Fit (rwX O) ∧ (rwX O).length ≤ bc ∧ Below w0.heap.size w0 w') := fun w0 hb =>
  row_c m n v M ao xs cap L qo ys dap so S.length sc tO T.length tc w0 (by omega) (h.x.keep hb) h.xf hik (h.y.keep hb) h.yf O hO2
 have E : Hid (Z3 = rEq m n v M xs L ys S T (rwN O) (bitAt (rwX O))) := by
  show _ = _
  rw [hZ3.out]
  unfold rOk
  rw [hik, hck, ← hO.out, decide_eq_true (show (0 : Int) ≤ m ∧ (m : Int) ≤ 1048576 by omega)]
  rfl
 have E1 : Hid (Z1 = if Z3 then (rwN O : Int) else 0) := by show _ = _; rw [hZ1.out, hZ3.out, hO.out]; rfl
 have E2 : Hid (Z2 = if Z3 then rwX O else []) := by show _ = _; rw [hZ2.out, hZ3.out, hO.out]; rfl
 clear hZ1 hZ2 hZ3 bad hO hO2 hOl
 generalize rwN O = p at *
 generalize rwX O = X at *
 have BD : Hid (∀ w0 bo bc, Wd w0 bo X → Fit X → Calls Tryz.prog 13 #[.agg #[.int .i64 p, .slice bo X.length bc]] w0 fun e w' => ∃ co cc po pc uo uc vo vc, e = .returned (.tuple #[.agg #[.int .i64 p, .int .i64 (nb p), .int .i64 4, .int .i64 ((nb p : Int) * 4), .slice co (rC p (bitAt X)).length cc, .int .i64 (bat p (bitAt X) (nb p)), .slice po (rO p (bitAt X)).length pc, .slice uo (rS p (bitAt X)).length uc, .slice vo (rT p (bitAt X)).length vc], .int .i64 0]) ∧ RO w0.heap.size w' (rC p (bitAt X)) (rO p (bitAt X)) (rS p (bitAt X)) (rT p (bitAt X)) co cc po pc uo uc vo vc ∧ Below w0.heap.size w0 w') := fun w0 bo bc hX hF => r8build_ok p bo X bc w0 hX hF ck
 have lx : xs.length ≤ 1048576 := by have := (chk_out M xs a5).2.2.1; omega
 have ly : ys.length ≤ 1048576 := by obtain ⟨_, _, h7, _⟩ := chk_out L ys hck; omega
 have SM : Hid (∀ bz w0 co cc po pc uo uc vo vc, Below w.heap.size w w0 → RO bz w0 (rC p (bitAt X)) (rO p (bitAt X)) (rS p (bitAt X)) (rT p (bitAt X)) co cc po pc uo uc vo vc → Calls Tryz.prog 91 #[.agg #[.int .i64 m, .int .i64 n, .int .i64 v, .int .i64 M, .slice ao xs.length cap, .int .i64 L, .slice qo ys.length dap, .slice so S.length sc, .slice tO T.length tc], .agg #[.int .i64 p, .int .i64 (nb p), .int .i64 4, .int .i64 ((nb p : Int) * 4), .slice co (rC p (bitAt X)).length cc, .int .i64 (bat p (bitAt X) (nb p)), .slice po (rO p (bitAt X)).length pc, .slice uo (rS p (bitAt X)).length uc, .slice vo (rT p (bitAt X)).length vc]] w0 fun e w' => e = .returned (.bool Z3) ∧ Below w0.heap.size w0 w') := fun bz w0 co cc po pc uo uc vo vc hb hr => by
  have h9 := h.keep hb
  rw [E.out]
  exact r8same_c m n v M ao xs cap L qo ys dap so S sc tO T tc p (nb p) 4 ((nb p : Int) * 4) co (rC p (bitAt X)) cc (bat p (bitAt X) (nb p)) po (rO p (bitAt X)) pc uo (rS p (bitAt X)) uc vo (rT p (bitAt X)) vc w0 h9.x hr.c lx h9.y hr.o ly h9.s hr.s h9.sl h9.t hr.t h9.tl
 clear ck a1 a2 a3 a4 a5 a6 a7 a8 lx ly
 go_enter Tryz.func70, Tryz.ntmps70
 go_upto_region 1 with fail
 rw [← hW]
 clear hW
 go_wp2_with fail
 refine (C1.out _ bW).mono ?_
 rintro e w1 ⟨rfl, hb⟩
 have bw1 := bW.trans (hb.mono bW.size)
 replace B1 := B1.kept hb
 replace B2 := B2.kept hb
 have q0 := B1.cell 0 rfl
 have q1 := B1.cell 1 rfl
 have q2 := B1.cell 2 rfl
 have q3 := B1.cell 3 rfl
 have q4 := B1.cell 4 rfl
 have q5 := B1.cell 5 rfl
 have q6 := B1.cell 6 rfl
 have q7 := B1.cell 7 rfl
 have q8 := B1.cell 8 rfl
 clear hb r0 r1 r2 r3 r4 r5 r6 r7 r8
 have r0 := q0
 have r1 := q1
 have r2 := q2
 have r3 := q3
 have r4 := q4
 have r5 := q5
 have r6 := q6
 have r7 := q7
 have r8 := q8
 clear q0 q1 q2 q3 q4 q5 q6 q7 q8
 go_wp2_with fail
 refine (C2.out _ bw1).mono ?_
 rintro e w2 ⟨rfl, hb⟩
 have bw2 := bw1.trans (hb.mono bw1.size)
 replace B1 := B1.kept hb
 replace B2 := B2.kept hb
 have q0 := B1.cell 0 rfl
 have q1 := B1.cell 1 rfl
 have q2 := B1.cell 2 rfl
 have q3 := B1.cell 3 rfl
 have q4 := B1.cell 4 rfl
 have q5 := B1.cell 5 rfl
 have q6 := B1.cell 6 rfl
 have q7 := B1.cell 7 rfl
 have q8 := B1.cell 8 rfl
 clear hb r0 r1 r2 r3 r4 r5 r6 r7 r8
 have r0 := q0
 have r1 := q1
 have r2 := q2
 have r3 := q3
 have r4 := q4
 have r5 := q5
 have r6 := q6
 have r7 := q7
 have r8 := q8
 clear q0 q1 q2 q3 q4 q5 q6 q7 q8
 go_wp2_with fail
 refine (RWc.out _ bw2).mono ?_
 rintro e w3 ⟨bo, bc, rfl, hX, hF, hbc, hb⟩
 have bw3 := bw2.trans (hb.mono bw2.size)
 replace B1 := B1.kept hb
 replace B2 := B2.kept hb
 clear hb RWc C1 C2 r0 r1 r2 r3 r4 r5 r6 r7 r8
 have z3 := B2.lt
 have n3 : w3.heap.size ≠ w.heap.size + 1 := by omega
 clear z3
 obtain ⟨U, hU⟩ : ∃ U, U = w3.alloc (.cells #[.int .i64 p, .slice bo X.length bc] 24) := ⟨_, rfl⟩
 have bA : Below w3.heap.size w3 U := by rw [hU]; exact below_alloc w3 _
 have bV := bw3.trans (bA.mono bw3.size)
 have D4 : Cel U w3.heap.size [.int .i64 p, .slice bo X.length bc] 24 := by rw [hU]; exact Cel.new w3 _ _
 replace B1 := B1.kept bA
 replace B2 := B2.kept bA
 replace hX := hX.keep bA
 clear bA
 go_wp2_with fail
 rw [← hU]
 clear hU
 refine (BD.out _ _ _ hX hF).mono ?_
 rintro e w5 ⟨co, cc, po, pc, uo, uc, vo, vc, rfl, hr, hb⟩
 have bw5 := bV.trans (hb.mono bV.size)
 replace B1 := B1.kept hb
 replace B2 := B2.kept hb
 replace D4 := D4.kept hb
 replace hX := hX.keep hb
 clear hb BD
 obtain ⟨V5, hV⟩ : ∃ V5, V5 = w5.alloc (.cells #[.int .i64 p, .int .i64 (nb p), .int .i64 4, .int .i64 ((nb p : Int) * 4), .slice co (rC p (bitAt X)).length cc, .int .i64 (bat p (bitAt X) (nb p)), .slice po (rO p (bitAt X)).length pc, .slice uo (rS p (bitAt X)).length uc, .slice vo (rT p (bitAt X)).length vc] 32) := ⟨_, rfl⟩
 have bA : Below w5.heap.size w5 V5 := by rw [hV]; exact below_alloc w5 _
 have bV5 := bw5.trans (bA.mono bw5.size)
 replace hr := hr.keep bA
 have r := B1.lt
 have r0 := B1.cell 0 rfl
 have r1 := B1.cell 1 rfl
 have r2 := B1.cell 2 rfl
 have r3 := B1.cell 3 rfl
 have r4 := B1.cell 4 rfl
 have r5 := B1.cell 5 rfl
 have r6 := B1.cell 6 rfl
 have r7 := B1.cell 7 rfl
 have r8 := B1.cell 8 rfl
 replace B2 := B2.kept bA
 replace D4 := D4.kept bA
 replace hX := hX.keep bA
 clear bA
 go_wp2_with fail
 rw [← hV]
 clear hV r r0 r1 r2 r3 r4 r5 r6 r7 r8
 refine (SM.out _ _ _ _ _ _ _ _ _ _ bV5 hr).mono ?_
 rintro e w6 ⟨rfl, hb⟩
 have bw6 := bV5.trans (hb.mono bV5.size)
 replace B2 := B2.kept hb
 replace D4 := D4.kept hb
 replace hX := hX.keep hb
 clear hb SM hr
 cases hz : Z3 with
 | false =>
  have E0 : Hid (Z1 = 0 ∧ Z2 = []) := by
   show _ ∧ _
   rw [E1.out, E2.out, hz]
   exact ⟨rfl, rfl⟩
  clear E E1 E2
  go_wp2_with (first | refine load_cel w3.heap.size _ rfl D4 Tryz.underlying24 r8info_b ?_ | refine store_cel (w.heap.size + 1) _ _ rfl rfl B2 rfl r8info_b (by simp [Value.oneCell']) ?_)
  intro w9 B9 O9
  have HZ := Hid.mk8 (And.intro B9 (bw6.trans (O9.below (Nat.le_succ _))))
  clear B9 O9 B2 D4 hX
  go_wp2
  (try simp only [Exit.inBlock, Exit.then])
  refine bodyPost_ret (result_cel rfl (w.heap.size + 1) _ rfl HZ.out.1 Tryz.underlying24 r8info_b) rfl ?_
  obtain ⟨e1, e2⟩ := E0.out
  rw [e1, e2, hz]
  exact ⟨none, 0, rfl, wd0' _ _, Nat.le_refl _, HZ.out.2⟩
 | true =>
  have E0 : Hid (Z1 = (p : Int) ∧ Z2 = X) := by
   show _ ∧ _
   rw [E1.out, E2.out, hz]
   exact ⟨rfl, rfl⟩
  clear E E1 E2
  have hne := hX.apart B2 (by intro v hv n; simp at hv; rcases hv with rfl | rfl <;> simp)
  go_wp2_with (first | refine load_cel w3.heap.size _ rfl D4 Tryz.underlying24 r8info_b ?_ | refine store_cel (w.heap.size + 1) _ _ rfl rfl B2 rfl r8info_b (by simp [Value.oneCell']) ?_)
  intro w9 B9 O9
  have HZ := Hid.mk8 (And.intro B9 (And.intro (O9.wd hX hne) (bw6.trans (O9.below (Nat.le_succ _)))))
  clear B9 O9 B2 D4 hX hne
  go_wp2
  (try simp only [Exit.inBlock, Exit.then])
  refine bodyPost_ret (result_cel rfl (w.heap.size + 1) _ rfl HZ.out.1 Tryz.underlying24 r8info_b) rfl ?_
  obtain ⟨e1, e2⟩ := E0.out
  rw [e1, e2, hz]
  exact ⟨bo, bc, rfl, HZ.out.2.1, hbc, HZ.out.2.2⟩
set_option maxHeartbeats 8000000 in
theorem r8whole_c (N k V M : Int) (ao : Option Addr) (xs : List Nat) (cap : Nat) (L : Int) (qo : Option Addr) (ys : List Nat) (dap : Nat) (so : Option Addr) (S : List Int) (sc : Nat) (tO : Option Addr) (T : List Int) (tc : Nat) (w : World) (h : RIn w N k V M ao xs cap L qo ys dap so S sc tO T tc) :
  Calls Tryz.prog 70 #[.agg #[.int .i64 N, .int .i64 k, .int .i64 V, .int .i64 M, .slice ao xs.length cap, .int .i64 L, .slice qo ys.length dap, .slice so S.length sc, .slice tO T.length tc]] w fun e w' => ∃ bo bc, e = .returned (.tuple #[.agg #[.int .i64 (rBN N k V M xs L ys S T), .slice bo (rBX N k V M xs L ys S T).length bc], .bool (rOk N k V M xs L ys S T)]) ∧ Wd w' bo (rBX N k V M xs L ys S T) ∧ (rBX N k V M xs L ys S T).length ≤ bc ∧ Below w.heap.size w w' := by
 obtain ⟨W, hW⟩ : ∃ W, W = (w.alloc (.cells #[.int .i64 N, .int .i64 k, .int .i64 V, .int .i64 M, .slice ao xs.length cap, .int .i64 L, .slice qo ys.length dap, .slice so S.length sc, .slice tO T.length tc] 32)).alloc (.cells #[.int .i64 0, .slice none 0 0] 24) := ⟨_, rfl⟩
 have bW : Below w.heap.size w W := by rw [hW]; exact (below_alloc w _).alloc (by simp) _
 have B1 : Cel W w.heap.size [.int .i64 N, .int .i64 k, .int .i64 V, .int .i64 M, .slice ao xs.length cap, .int .i64 L, .slice qo ys.length dap, .slice so S.length sc, .slice tO T.length tc] 32 := by rw [hW]; exact (Cel.new w _ _).alloc _
 have B2 : Cel W (w.heap.size + 1) [.int .i64 0, .slice none 0 0] 24 := by rw [hW]; exact Cel.new2 w _ _ _
 have C1 : Hid (∀ w0, Below w.heap.size w w0 → Calls Tryz.prog 89 #[.agg #[.int .i64 k, .int .i64 V, .int .i64 M, .slice ao xs.length cap]] w0 fun e w' => e = .returned (.bool (ichk k V M xs)) ∧ Below w0.heap.size w0 w') := fun w0 hb => irefcheck_c k V M ao xs cap w0 (h.x.keep hb) h.xf
 have C2 : Hid (∀ w0, Below w.heap.size w w0 → Calls Tryz.prog 21 #[.agg #[.int .i64 L, .slice qo ys.length dap]] w0 fun e w' => e = .returned (.bool (chk L ys)) ∧ Below w0.heap.size w0 w') := fun w0 hb => refcheck_c L qo ys dap w0 (h.y.keep hb) h.yf
 obtain ⟨Z1, hZ1⟩ : ∃ Z, Hid (Z = rBN N k V M xs L ys S T) := ⟨_, rfl⟩
 obtain ⟨Z2, hZ2⟩ : ∃ Z, Hid (Z = rBX N k V M xs L ys S T) := ⟨_, rfl⟩
 obtain ⟨Z3, hZ3⟩ : ∃ Z, Hid (Z = rOk N k V M xs L ys S T) := ⟨_, rfl⟩
 rw [← hZ1.out, ← hZ2.out, ← hZ3.out]
 have bad : Hid (rOk N k V M xs L ys S T = false → Z1 = 0 ∧ Z2 = [] ∧ Z3 = false) := fun h => by rw [hZ1.out, hZ2.out, hZ3.out]; unfold rBN rBX; rw [h]; exact ⟨rfl, rfl, rfl⟩
 have r0 := B1.cell 0 rfl
 have r1 := B1.cell 1 rfl
 have r2 := B1.cell 2 rfl
 have r3 := B1.cell 3 rfl
 have r4 := B1.cell 4 rfl
 have r5 := B1.cell 5 rfl
 have r6 := B1.cell 6 rfl
 have r7 := B1.cell 7 rfl
 have r8 := B1.cell 8 rfl
 by_cases h0 : N < 0
 ·have E : Hid (Z1 = 0 ∧ Z2 = [] ∧ Z3 = false) := bad.out (by unfold rOk; rw [decide_eq_false (by omega)]; rfl)
  clear bad hZ1 hZ2 hZ3
  go_enter Tryz.func70, Tryz.ntmps70
  go_upto_region 1 with fail
  rw [← hW]
  clear hW
  go_wp2_with (refine store_cel (w.heap.size + 1) _ _ rfl rfl B2 rfl r8info_b (by simp [Value.oneCell']) ?_)
  intro w9 B9 O9
  have HZ := Hid.mk8 (And.intro B9 (bW.trans (O9.below (Nat.le_succ _))))
  clear B9 O9
  go_wp2
  (try simp only [Exit.inBlock, Exit.then])
  refine bodyPost_ret (result_cel rfl (w.heap.size + 1) _ rfl HZ.out.1 Tryz.underlying24 r8info_b) rfl ?_
  obtain ⟨e1, e2, e3⟩ := E.out
  rw [e1, e2, e3]
  exact ⟨none, 0, rfl, wd0' _ _, Nat.le_refl _, HZ.out.2⟩
 by_cases h1 : 1048576 < N
 ·have E : Hid (Z1 = 0 ∧ Z2 = [] ∧ Z3 = false) := bad.out (by unfold rOk; rw [decide_eq_false (by omega)]; rfl)
  clear bad hZ1 hZ2 hZ3
  go_enter Tryz.func70, Tryz.ntmps70
  go_upto_region 1 with fail
  rw [← hW]
  clear hW
  go_wp2_with (refine store_cel (w.heap.size + 1) _ _ rfl rfl B2 rfl r8info_b (by simp [Value.oneCell']) ?_)
  intro w9 B9 O9
  have HZ := Hid.mk8 (And.intro B9 (bW.trans (O9.below (Nat.le_succ _))))
  clear B9 O9
  go_wp2
  (try simp only [Exit.inBlock, Exit.then])
  refine bodyPost_ret (result_cel rfl (w.heap.size + 1) _ rfl HZ.out.1 Tryz.underlying24 r8info_b) rfl ?_
  obtain ⟨e1, e2, e3⟩ := E.out
  rw [e1, e2, e3]
  exact ⟨none, 0, rfl, wd0' _ _, Nat.le_refl _, HZ.out.2⟩
 have h2 : 0 ≤ N := by omega
 have h3 : ¬ 1048576 < N := by omega
 have h4 : ¬ N < 0 := by omega
 cases hik : ichk k V M xs with
 | false =>
  have E : Hid (Z1 = 0 ∧ Z2 = [] ∧ Z3 = false) := bad.out (by unfold rOk; rw [hik]; simp)
  clear bad hZ1 hZ2 hZ3
  rw [hik] at C1
  go_enter Tryz.func70, Tryz.ntmps70
  go_upto_region 1 with fail
  rw [← hW]
  clear hW
  go_wp2_with fail
  refine (C1.out _ bW).mono ?_
  rintro e w1 ⟨rfl, hb⟩
  have bw1 := bW.trans (hb.mono bW.size)
  replace B1 := B1.kept hb
  replace B2 := B2.kept hb
  have q0 := B1.cell 0 rfl
  have q1 := B1.cell 1 rfl
  have q2 := B1.cell 2 rfl
  have q3 := B1.cell 3 rfl
  have q4 := B1.cell 4 rfl
  have q5 := B1.cell 5 rfl
  have q6 := B1.cell 6 rfl
  have q7 := B1.cell 7 rfl
  have q8 := B1.cell 8 rfl
  clear hb r0 r1 r2 r3 r4 r5 r6 r7 r8
  have r0 := q0
  have r1 := q1
  have r2 := q2
  have r3 := q3
  have r4 := q4
  have r5 := q5
  have r6 := q6
  have r7 := q7
  have r8 := q8
  clear q0 q1 q2 q3 q4 q5 q6 q7 q8
  go_wp2_with (refine store_cel (w.heap.size + 1) _ _ rfl rfl B2 rfl r8info_b (by simp [Value.oneCell']) ?_)
  intro w9 B9 O9
  have HZ := Hid.mk8 (And.intro B9 (bw1.trans (O9.below (Nat.le_succ _))))
  clear B9 O9
  go_wp2
  (try simp only [Exit.inBlock, Exit.then])
  refine bodyPost_ret (result_cel rfl (w.heap.size + 1) _ rfl HZ.out.1 Tryz.underlying24 r8info_b) rfl ?_
  obtain ⟨e1, e2, e3⟩ := E.out
  rw [e1, e2, e3]
  exact ⟨none, 0, rfl, wd0' _ _, Nat.le_refl _, HZ.out.2⟩
 | true =>
  rw [hik] at C1
  cases hck : chk L ys with
  | false =>
   have E : Hid (Z1 = 0 ∧ Z2 = [] ∧ Z3 = false) := bad.out (by unfold rOk; rw [hik, hck]; simp)
   clear bad hZ1 hZ2 hZ3
   rw [hck] at C2
   go_enter Tryz.func70, Tryz.ntmps70
   go_upto_region 1 with fail
   rw [← hW]
   clear hW
   go_wp2_with fail
   refine (C1.out _ bW).mono ?_
   rintro e w1 ⟨rfl, hb⟩
   have bw1 := bW.trans (hb.mono bW.size)
   replace B1 := B1.kept hb
   replace B2 := B2.kept hb
   have q0 := B1.cell 0 rfl
   have q1 := B1.cell 1 rfl
   have q2 := B1.cell 2 rfl
   have q3 := B1.cell 3 rfl
   have q4 := B1.cell 4 rfl
   have q5 := B1.cell 5 rfl
   have q6 := B1.cell 6 rfl
   have q7 := B1.cell 7 rfl
   have q8 := B1.cell 8 rfl
   clear hb r0 r1 r2 r3 r4 r5 r6 r7 r8
   have r0 := q0
   have r1 := q1
   have r2 := q2
   have r3 := q3
   have r4 := q4
   have r5 := q5
   have r6 := q6
   have r7 := q7
   have r8 := q8
   clear q0 q1 q2 q3 q4 q5 q6 q7 q8
   go_wp2_with fail
   refine (C2.out _ bw1).mono ?_
   rintro e w2 ⟨rfl, hb⟩
   have bw2 := bw1.trans (hb.mono bw1.size)
   replace B1 := B1.kept hb
   replace B2 := B2.kept hb
   have q0 := B1.cell 0 rfl
   have q1 := B1.cell 1 rfl
   have q2 := B1.cell 2 rfl
   have q3 := B1.cell 3 rfl
   have q4 := B1.cell 4 rfl
   have q5 := B1.cell 5 rfl
   have q6 := B1.cell 6 rfl
   have q7 := B1.cell 7 rfl
   have q8 := B1.cell 8 rfl
   clear hb r0 r1 r2 r3 r4 r5 r6 r7 r8
   have r0 := q0
   have r1 := q1
   have r2 := q2
   have r3 := q3
   have r4 := q4
   have r5 := q5
   have r6 := q6
   have r7 := q7
   have r8 := q8
   clear q0 q1 q2 q3 q4 q5 q6 q7 q8
   go_wp2_with (refine store_cel (w.heap.size + 1) _ _ rfl rfl B2 rfl r8info_b (by simp [Value.oneCell']) ?_)
   intro w9 B9 O9
   have HZ := Hid.mk8 (And.intro B9 (bw2.trans (O9.below (Nat.le_succ _))))
   clear B9 O9
   go_wp2
   (try simp only [Exit.inBlock, Exit.then])
   refine bodyPost_ret (result_cel rfl (w.heap.size + 1) _ rfl HZ.out.1 Tryz.underlying24 r8info_b) rfl ?_
   obtain ⟨e1, e2, e3⟩ := E.out
   rw [e1, e2, e3]
   exact ⟨none, 0, rfl, wd0' _ _, Nat.le_refl _, HZ.out.2⟩
  | true =>
   rw [hZ1.out, hZ2.out, hZ3.out]
   exact r8whole_main N k V M ao xs cap L qo ys dap so S sc tO T tc w h h2 h3 hik hck
end Go.Proofs.YtcaalcjcpddhaaaGreat
namespace Go.Proofs.YtcaalcjcpddhaaaGreat
open Go.RowKit Num Bit Bn
def Tb (w : World) (b : Nat) (cs : List Value) : Prop := ∃ T, Cel w b cs T
theorem Tb.lt {w : World} {b : Nat} {cs : List Value} (h : Tb w b cs) : b < w.heap.size := by
 obtain ⟨T, h⟩ := h
 exact h.lt
theorem Tb.cell {w : World} {b : Nat} {cs : List Value} (h : Tb w b cs) (i : Nat) {v : Value} (hv : cs[i]? = some v) : w.cell? ⟨b, i, none⟩ = some v := by
 obtain ⟨T, h⟩ := h
 exact h.cell i hv
structure GV (w : World) : Prop where
 t : True
theorem GV.keep {w w' : World} (h : GV w) (hb : Below w.heap.size w w') : GV w' := ⟨trivial⟩
theorem GV.kept {w w' : World} (h : GV w) (hb : Below w.heap.size w w') : GV w' := ⟨trivial⟩
end Go.Proofs.YtcaalcjcpddhaaaGreat
