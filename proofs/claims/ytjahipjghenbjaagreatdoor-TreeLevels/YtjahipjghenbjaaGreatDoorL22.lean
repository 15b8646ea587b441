/-
  The contract of the program's Rank of trees. The contract of the program's Access of trees.
-/
import Derived.Test.YtjahipjghenbjaaGreatDoorL21
set_option linter.unusedVariables false
set_option linter.unusedSimpArgs false
set_option maxRecDepth 100000
set_option maxHeartbeats 16000000
namespace Go.Proofs.YtjahipjghenbjaaGreatDoor
open Go.RowKit Num Bit
def trE (x : TR) (i : Int) : Int := if tOk x then (if i < 0 ∨ x.N < i then 3 else 0) else 2
def trN (x : TR) (c : Nat) (i : Int) : Int := if trE x i = 0 then (Tw.cn (txt x) c i.toNat : Int) else 0
theorem tr_bad {x : TR} (c : Nat) (i : Int) (ok : tOk x = false) : trE x i = 2 ∧ trN x c i = 0 := by
 have e : trE x i = 2 := by unfold trE; rw [ok]; rfl
 refine ⟨e, ?_⟩
 unfold trN
 rw [e]
 rfl
theorem tr_out {x : TR} (c : Nat) (i : Int) (ok : tOk x = true) (hi : i < 0 ∨ x.N < i) : trE x i = 3 ∧ trN x c i = 0 := by
 have e : trE x i = 3 := by unfold trE; rw [ok, if_pos rfl, if_pos hi]
 refine ⟨e, ?_⟩
 unfold trN
 rw [e]
 rfl
theorem tr_in {x : TR} (c : Nat) (i : Nat) (ok : tOk x = true) (hi : (i : Int) ≤ x.N) : trE x i = 0 ∧ trN x c i = (Tw.cn (txt x) c i : Int) := by
 have e : trE x i = 0 := by unfold trE; rw [ok, if_pos rfl, if_neg (by omega)]
 refine ⟨e, ?_⟩
 unfold trN
 rw [e, if_pos rfl, Int.toNat_natCast]
theorem row_at {b off cap : Nat} {x : TR} {t : List Nat} {w : World} (h : TI w (some ⟨b, off, none⟩) cap x) (ht : TT x t) (q : Nat) (hq : q < 8) : ∃ cs : List Value, w.rangeAt b (off + q * 22) cs ∧ KI w cs (lw x q) ∧ (Tryz.prog.info? 45).map (·.size) = some cs.length := by
 obtain ⟨b', off', e, _, hrows⟩ := h.l (by rw [ht.e]; decide)
 simp only [Option.some.injEq, Addr.mk.injEq, and_true] at e
 obtain ⟨rfl, rfl⟩ := e
 obtain ⟨cs, h1, h2⟩ := hrows q (by rw [ht.e]; exact hq)
 exact ⟨cs, h1, h2, h2.arg.len⟩
theorem rank_t {P : RA → Prop} (U : VC P) (V : VR P) (lo : Option Addr) (cap : Nat) (x : TR) (c : Nat) (i : Int) (w : World) (h : TI w lo cap x) (hc : c < 256) (hI : I64 i) (hp : ∀ l, l < x.av.length → P (lw x l)) :
  Calls Tryz.prog 13 #[.agg #[.int .i64 x.K, .int .i64 x.N, .slice lo x.av.length cap], .int .u8 c, .int .i64 i] w fun e w' => e = .returned (.tuple #[.int .i64 (trN x c i), .int .i64 (trE x i)]) ∧ Below w.heap.size w w' := by
 have HPP := Hid.mkt hp
 clear hp
 have CK : Hid (∀ w0, Below w.heap.size w w0 → Calls Tryz.prog 23 #[.agg #[.int .i64 x.K, .int .i64 x.N, .slice lo x.av.length cap]] w0 fun e w' => e = .returned (.bool (tOk x)) ∧ Below w0.heap.size w0 w') := fun w0 hb => check_t U lo cap x w0 (h.keep hb) HPP.out
 have bx := Cel.new w [.int .i64 x.K, .int .i64 x.N, .slice lo x.av.length cap] 26
 have bw := below_alloc w (.cells #[.int .i64 x.K, .int .i64 x.N, .slice lo x.av.length cap] 26)
 cases ok : tOk x with
 | false =>
  rw [ok] at CK
  have r1 := tr_bad c i ok
  rw [r1.1, r1.2]
  clear h ok r1
  generalize x.N = N at *
  generalize x.K = K at *
  generalize x.av.length = m at *
  go_enter Tryz.func13, Tryz.ntmps13
  go_wp2_with fail
  refine (CK.out _ bw).mono ?_
  rintro e w1 ⟨rfl, hb⟩
  replace bw := bw.trans (hb.mono bw.size)
  clear hb bx
  go_wp2
  go_ret2
  exact ⟨rfl, bw⟩
 | true =>
  have ht := tt_of x ok
  rw [ok] at CK
  by_cases hr : i < 0 ∨ x.N < i
  ·obtain ⟨r1, r2⟩ := tr_out c i ok hr
   rw [r1, r2]
   have hn := h.n
   clear h r1 r2 ht ok
   generalize x.N = N at *
   generalize x.K = K at *
   generalize x.av.length = m at *
   have x1 := bx.cell 1 rfl
   by_cases i0 : i < 0
   ·go_enter Tryz.func13, Tryz.ntmps13
    go_wp2_with fail
    refine (CK.out _ bw).mono ?_
    rintro e w1 ⟨rfl, hb⟩
    replace bw := bw.trans (hb.mono bw.size)
    clear hb bx x1
    go_wp2
    go_ret2
    exact ⟨rfl, bw⟩
   ·have i1 : N < i := by omega
    have i00 : (0 : Int) ≤ i := by omega
    go_enter Tryz.func13, Tryz.ntmps13
    go_wp2_with fail
    refine (CK.out _ bw).mono ?_
    rintro e w1 ⟨rfl, hb⟩
    replace bw := bw.trans (hb.mono bw.size)
    replace bx := bx.kept hb
    clear hb x1
    have x1 := bx.cell 1 rfl
    go_wp2
    go_ret2
    exact ⟨rfl, bw⟩
  ·obtain ⟨i, rfl⟩ := Int.eq_ofNat_of_zero_le (show 0 ≤ i by omega)
   obtain ⟨r1, r2⟩ := tr_in c i ok (by omega)
   rw [r1, r2]
   have hiN : (i : Int) ≤ x.N := by omega
   generalize txt x = t at *
   clear r1 r2 hr ok
   obtain ⟨b, off, rfl, hbl, _⟩ := h.l (by rw [ht.e]; decide)
   obtain ⟨n, hn⟩ : ∃ n, Hid (n = t.length) := ⟨_, rfl⟩
   have hn8 : n ≤ 8192 := by rw [hn.out]; exact ht.h
   have HTI := Hid.mkt h
   have HT := Hid.mkt ht
   have PO : Hid (∀ w0, Below w.heap.size w w0 → Calls Tryz.prog 36 #[.agg #[.int .i64 x.K, .int .i64 (n : Int), .slice (some ⟨b, off, none⟩) 8 cap], .int .u8 c] w0 fun e w' => e = .returned (.agg (iv (pn x t c 8)).toArray) ∧ Below w0.heap.size w0 w') := fun w0 hb => by
    have := pathOf_c V (some ⟨b, off, none⟩) cap x t c w0 (HTI.out.keep hb) HT.out hc (fun l hl => HPP.out l (by rw [HT.out.e]; exact hl))
    rw [HT.out.n, ← hn.out] at this
    exact this
   have BO : Hid (∀ w0 (q : Nat), q < 8 → Calls Tryz.prog 37 #[.int .u8 c, .int .i64 q] w0 fun e w' => e = .returned (.bool (Tw.tb q c)) ∧ w' = w0) := fun w0 q hq => bitOf_c c q hc hq w0
   have CO : Hid (∀ q, q < 8 → ∃ cs : List Value, w.rangeAt b (off + q * 22) cs ∧ (Tryz.prog.info? 45).map (·.size) = some cs.length ∧ ∀ w0, Below w.heap.size w w0 → Calls Tryz.prog 35 #[.agg cs.toArray, .bool (Tw.tb q c), .int .i64 ((pS t c q + Tw.rk t q (Tw.hi q c) i : Nat) : Int)] w0 fun r w' => r = .returned (.int .i64 ((pA x t c q + Tw.rk t (q + 1) (Tw.hi (q + 1) c) i : Nat) : Int)) ∧ Below w0.heap.size w0 w') := fun q hq => by
    obtain ⟨cs, h1, h2, h3⟩ := row_at HTI.out HT.out q hq
    refine ⟨cs, h1, h3, fun w0 hb => ?_⟩
    obtain ⟨_, r2, r3, _⟩ := HT.out.r q hq
    have hin : i ≤ t.length := by have := HT.out.n; omega
    have := count_t V cs (lw x q) (Tw.tb q c) t.length (pS t c q + Tw.rk t q (Tw.hi q c) i) w0 (h2.keep hb) r2 r3 (pS_rk t c q i (by omega) hc HT.out.b hin) (by have := HT.out.h; omega) (HPP.out q (by rw [HT.out.e]; exact hq))
    rw [HT.out.down c q i hq hc hin] at this
    exact this
   have HB : Hid (∀ q, q ≤ 8 → pS t c q ≤ 8192 ∧ pS t c q + Tw.rk t q (Tw.hi q c) i ≤ 8192) := fun q hq => by
    have hin : i ≤ t.length := by have := HT.out.n; omega
    have := pS_rk t c q i hq hc HT.out.b hin
    have := HT.out.h
    omega
   have HA : Hid (∀ q, q < 8 → pA x t c q ≤ 8192) := fun q hq => by
    have := cB_le (kBX (lw x q)) (Tw.tb q c) (pS t c q)
    have := HB.out q (by omega)
    unfold pA
    omega
   have T0 := Hid.mkt (rk_top t c i hc ht.b)
   obtain ⟨Z, hZ⟩ : ∃ Z, Hid (Z = Tw.cn t c i) := ⟨_, rfl⟩
   rw [← hZ.out]
   have T8 : Hid (Tw.rk t 8 (Tw.hi 8 c) i = Z) := (rk_low t c i).trans hZ.out.symm
   have e8 := ht.e
   have eN : x.N = (n : Int) := by rw [hn.out]; exact ht.n
   rw [e8, eN] at bx bw CK ⊢
   rw [eN] at hiN
   have hin : i ≤ n := by omega
   clear h ht e8 eN
   generalize x.K = K at *
   have x1 := bx.cell 1 rfl
   go_enter Tryz.func13, Tryz.ntmps13
   go_wp2_with fail
   refine (CK.out _ bw).mono ?_
   rintro e w1 ⟨rfl, hb⟩
   replace bw := bw.trans (hb.mono bw.size)
   replace bx := bx.kept hb
   clear hb x1 CK
   have x0 := bx.cell 0 rfl
   have x1 := bx.cell 1 rfl
   have x2 := bx.cell 2 rfl
   go_wp2_with fail
   refine (PO.out _ bw).mono ?_
   rintro e w2 ⟨rfl, hb⟩
   replace bw := bw.trans (hb.mono bw.size)
   replace bx := bx.kept hb
   have hs2 := bx.lt
   clear hb x0 x1 x2 PO
   go_wp2_with (refine alloc_z _ info_path ?_)
   intro w3 c3 b3 s3
   have hz := bw.size
   replace bx := bx.kept b3
   replace bw := bw.trans (b3.mono hz)
   go_wp2_with (refine store_cel w2.heap.size _ _ rfl rfl c3 (by simp [length_iv, length_pn]) (size_path _ (length_pn _ _ _ _)) (one_iv _) ?_)
   intro w4 c4 o4
   have l8 : w.heap.size < w2.heap.size := by
    have := hs2
    omega
   replace bx := o4.cel bx (by omega)
   replace bw := bw.trans (o4.below hz)
   clear c3 b3 s3 o4 hs2
   generalize w2.heap.size = g8 at *
   simp only [Act.put, yq3, List.set]
   go_wp2
   go_loopw [24, 2] (fun s v wr => ∃ q : Nat, q ≤ 8 ∧ s = .int .i64 q ∧ v = .int .i64 (Tw.rk t q (Tw.hi q c) i : Nat) ∧ Cel wr w.heap.size [.int .i64 K, .int .i64 (n : Int), .slice (some ⟨b, off, none⟩) 8 cap] 26 ∧ Cel wr g8 (iv (pn x t c 8)) 81 ∧ Below w.heap.size w wr) (fun s _ _ => 8 - (intOf s).toNat)
   case atStart => exact ⟨0, Nat.zero_le _, rfl, by rw [T0.out], bx, c4, bw⟩
   case round =>
    obtain ⟨q, hq, rfl, rfl, hx, h8, hb⟩ := hrel
    clear bx c4 bw
    by_cases hi : q < 8
    ·have hi2 : (q : Int) < 8 := by omega
     obtain ⟨cs, rg, HL, C⟩ := CO.out q hi
     have HL := Hid.mkt HL
     have C := Hid.mkt C
     have RG := Hid.mkt rg
     have B : Hid (∀ w0, Calls Tryz.prog 37 #[.int .u8 c, .int .i64 q] w0 fun e w' => e = .returned (.bool (Tw.tb q c)) ∧ w' = w0) := fun w0 => BO.out w0 q hi
     have R1 : Hid (∀ w' : World, Cel w' g8 (iv (pn x t c 8)) 81 → w'.cell? ⟨g8, q * 3, none⟩ = some (.int .i64 (pS t c q : Nat))) := fun w' h => by
      rw [cel_iv h (q * 3) (by rw [length_pn]; omega), pn_s x t c 8 q hq hq]
     have R2 : Hid (∀ w' : World, Cel w' g8 (iv (pn x t c 8)) 81 → w'.cell? ⟨g8, q * 3 + 2, none⟩ = some (.int .i64 (pA x t c q : Nat))) := fun w' h => by
      rw [cel_iv h (q * 3 + 2) (by rw [length_pn]; omega), pn_a x t c 8 q hq hi]
     obtain ⟨u1, u2⟩ := HB.out q hq
     have u3 := HA.out q hi
     have u4 := Tw.rk_le t (q + 1) (Tw.hi (q + 1) c) i
     obtain ⟨R', hR'⟩ : ∃ R', Hid (R' = Tw.rk t (q + 1) (Tw.hi (q + 1) c) i) := ⟨_, rfl⟩
     rw [← hR'.out] at C u4
     generalize pS t c q = s0 at *
     generalize pA x t c q = a0 at *
     generalize Tw.rk t q (Tw.hi q c) i = R at *
     generalize Tw.tb q c = bit at *
     clear BO CO HB HA rg
     have m1 : IntKind.i64.wrap ((s0 : Int) + (R : Int)) = ((s0 + R : Nat) : Int) := by rw [IntKind.wrap_i64]; omega
     have m2 : IntKind.i64.wrap (((a0 + R' : Nat) : Int) - (a0 : Int)) = (R' : Int) := by rw [IntKind.wrap_i64]; omega
     have m3 : IntKind.i64.wrap ((a0 : Int) + (R' : Int) - (a0 : Int)) = (R' : Int) := by rw [IntKind.wrap_i64]; omega
     have q9 : (q : Int) < 9 := by omega
     go_wp2
     refine region_g [] (fun w' => Cel w' w.heap.size [.int .i64 K, .int .i64 (n : Int), .slice (some ⟨b, off, none⟩) 8 cap] 26 ∧ Cel w' g8 (iv (pn x t c 8)) 81 ∧ Below w.heap.size w w') (by kernel_rfl) ?_
     have hS : (fun w' => Cel w' w.heap.size [.int .i64 K, .int .i64 (n : Int), .slice (some ⟨b, off, none⟩) 8 cap] 26 ∧ Cel w' g8 (iv (pn x t c 8)) 81 ∧ Below w.heap.size w w') wr.drew := ⟨hx, h8, hb.drew⟩
     clear hx h8 hb
     generalize wr.drew = V at *
     refine AnyG.tk 0 hS ?_
     refine AnyG.tf 1 hS rfl (fun w0 h0 => by have c1 := h0.1.cell 2 rfl; go_simp; try with_reducible rfl) ?_
     refine AnyG.tk 2 hS ?_
     refine AnyG.tk 3 hS ?_
     refine AnyG.take 4 (v := .agg (cs).toArray) rfl (by kernel_rfl) (by kernel_rfl) (by kernel_rfl) (by kernel_rfl) (fun _ _ _ h => h) hS (fun w0 h0 => run_load_part b (off + q * 22) _ rfl (range_keep RG.out h0.2.2 hbl) Tryz.underlying45 HL.out) (by rfl) ?rest5
     simp only [Act.put, yq0, yq1, yq2, yq3, yq4, yq5]
     refine AnyG.tk 5 hS ?_
     refine AnyG.tk 6 hS ?_
     refine AnyG.tk 8 hS ?_
     refine AnyG.tk 9 hS ?_
     refine AnyG.tk 10 hS ?_
     refine AnyG.tf 11 hS rfl (fun w0 h0 => by have c1 := R1.out w0 h0.2.1; go_simp; try with_reducible rfl) ?_
     refine AnyG.tk 12 hS ?_
     refine AnyG.tk 13 hS ?_
     refine AnyG.tk 15 hS ?_
     refine AnyG.tk 16 hS ?_
     refine AnyG.tk 17 hS ?_
     refine AnyG.tf 18 hS rfl (fun w0 h0 => by have c1 := R2.out w0 h0.2.1; go_simp; try with_reducible rfl) ?_
     refine AnyG.o1 7 ?_
     intro K hK
     go_simp
     refine (B.out _).mono ?_
     rintro e w5 ⟨rfl, h3⟩
     rw [h3]
     clear h3 w5
     refine hK.out _ _ (fun _ => hS) ?_
     clear hK K
     try simp only [Act.put, yq0, yq1, yq2, yq3, yq4, yq5]
     refine AnyG.o1 14 ?_
     intro K hK
     go_simp
     refine (C.out _ hS.2.2).mono ?_
     rintro e w6 ⟨rfl, hb4⟩
     have hS2 := And.intro (hS.1.kept hb4) (And.intro (hS.2.1.kept hb4) (hS.2.2.trans (hb4.mono hS.2.2.size)))
     clear hb4 hS
     refine hK.out _ _ (fun _ => hS2) ?_
     clear hK K
     try simp only [Act.put, yq0, yq1, yq2, yq3, yq4, yq5]
     refine AnyG.tk 19 hS2 ?_
     refine AnyG.tk 20 hS2 ?_
     refine AnyG.done (by kernel_rfl) ?_ _
     have HF := Hid.mkt hS2
     clear hS2
     go_wp2
     exact ⟨⟨q + 1, by omega, by go_num, by rw [hR'.out], HF.out⟩, by simp only [intOf]; omega⟩
    ·obtain rfl : q = 8 := by omega
     clear BO CO HB HA
     rw [T8.out]
     go_wp2
     go_ret2
     exact ⟨rfl, hb⟩
def taE (x : TR) (i : Int) : Int := if tOk x then (if i < 0 ∨ x.N ≤ i then 3 else 0) else 2
def taC (x : TR) (i : Int) : Nat := if taE x i = 0 then gt (txt x) i.toNat else 0
theorem ta_bad {x : TR} (i : Int) (ok : tOk x = false) : taE x i = 2 ∧ taC x i = 0 := by
 have e : taE x i = 2 := by unfold taE; rw [ok]; rfl
 refine ⟨e, ?_⟩
 unfold taC
 rw [e]
 rfl
theorem ta_out {x : TR} (i : Int) (ok : tOk x = true) (hi : i < 0 ∨ x.N ≤ i) : taE x i = 3 ∧ taC x i = 0 := by
 have e : taE x i = 3 := by unfold taE; rw [ok, if_pos rfl, if_pos hi]
 refine ⟨e, ?_⟩
 unfold taC
 rw [e]
 rfl
theorem ta_in {x : TR} (i : Nat) (ok : tOk x = true) (hi : (i : Int) < x.N) : taE x i = 0 ∧ taC x i = gt (txt x) i := by
 have e : taE x i = 0 := by unfold taE; rw [ok, if_pos rfl, if_neg (by omega)]
 refine ⟨e, ?_⟩
 unfold taC
 rw [e, if_pos rfl, Int.toNat_natCast]
theorem or8 : ∀ (c : Fin 256) (l : Fin 8), bits .or .u8 (c.val : Int) ((2 ^ (7 - l.val) : Nat) : Int) = ((c.val ||| 2 ^ (7 - l.val) : Nat) : Int) := by decide +kernel
theorem access_t {P : RA → Prop} (U : VC P) (V : VR P) (lo : Option Addr) (cap : Nat) (x : TR) (i : Int) (w : World) (h : TI w lo cap x) (hI : I64 i) (hp : ∀ l, l < x.av.length → P (lw x l)) :
  Calls Tryz.prog 12 #[.agg #[.int .i64 x.K, .int .i64 x.N, .slice lo x.av.length cap], .int .i64 i] w fun e w' => e = .returned (.tuple #[.int .u8 (taC x i : Nat), .int .i64 (taE x i)]) ∧ Below w.heap.size w w' := by
 have HPP := Hid.mkt hp
 clear hp
 have CK : Hid (∀ w0, Below w.heap.size w w0 → Calls Tryz.prog 23 #[.agg #[.int .i64 x.K, .int .i64 x.N, .slice lo x.av.length cap]] w0 fun e w' => e = .returned (.bool (tOk x)) ∧ Below w0.heap.size w0 w') := fun w0 hb => check_t U lo cap x w0 (h.keep hb) HPP.out
 have bx := Cel.new w [.int .i64 x.K, .int .i64 x.N, .slice lo x.av.length cap] 26
 have bw := below_alloc w (.cells #[.int .i64 x.K, .int .i64 x.N, .slice lo x.av.length cap] 26)
 cases ok : tOk x with
 | false =>
  rw [ok] at CK
  have r1 := ta_bad i ok
  rw [r1.1, r1.2]
  clear h ok r1
  generalize x.N = N at *
  generalize x.K = K at *
  generalize x.av.length = m at *
  go_enter Tryz.func12, Tryz.ntmps12
  go_wp2_with fail
  refine (CK.out _ bw).mono ?_
  rintro e w1 ⟨rfl, hb⟩
  replace bw := bw.trans (hb.mono bw.size)
  clear hb bx
  go_wp2
  go_ret2
  exact ⟨rfl, bw⟩
 | true =>
  have ht := tt_of x ok
  rw [ok] at CK
  by_cases hr : i < 0 ∨ x.N ≤ i
  ·obtain ⟨r1, r2⟩ := ta_out i ok hr
   rw [r1, r2]
   have hn := h.n
   clear h r1 r2 ht ok
   generalize x.N = N at *
   generalize x.K = K at *
   generalize x.av.length = m at *
   by_cases i0 : i < 0
   ·clear hr
    go_enter Tryz.func12, Tryz.ntmps12
    go_wp2_with fail
    refine (CK.out _ bw).mono ?_
    rintro e w1 ⟨rfl, hb⟩
    replace bw := bw.trans (hb.mono bw.size)
    replace bx := bx.kept hb
    clear hb
    have x1 := bx.cell 1 rfl
    go_wp2
    go_ret2
    exact ⟨rfl, bw⟩
   ·have i1 : N ≤ i := by omega
    have i2 : ¬ i < N := by omega
    have i00 : (0 : Int) ≤ i := by omega
    clear hr
    go_enter Tryz.func12, Tryz.ntmps12
    go_wp2_with fail
    refine (CK.out _ bw).mono ?_
    rintro e w1 ⟨rfl, hb⟩
    replace bw := bw.trans (hb.mono bw.size)
    replace bx := bx.kept hb
    clear hb
    have x1 := bx.cell 1 rfl
    go_wp2
    go_ret2
    exact ⟨rfl, bw⟩
  ·obtain ⟨i, rfl⟩ := Int.eq_ofNat_of_zero_le (show 0 ≤ i by omega)
   obtain ⟨r1, r2⟩ := ta_in i ok (by omega)
   rw [r1, r2]
   have hiN : (i : Int) < x.N := by omega
   generalize txt x = t at *
   clear r1 r2 hr ok
   obtain ⟨b, off, rfl, hbl, _⟩ := h.l (by rw [ht.e]; decide)
   obtain ⟨n, hn⟩ : ∃ n, Hid (n = t.length) := ⟨_, rfl⟩
   have hn8 : n ≤ 8192 := by rw [hn.out]; exact ht.h
   have HTI := Hid.mkt h
   have HT := Hid.mkt ht
   have hit : i < t.length := by have := ht.n; omega
   obtain ⟨c, hc0⟩ : ∃ c, Hid (c = gt t i) := ⟨_, rfl⟩
   have hc : c < 256 := by rw [hc0.out]; exact ht.b i
   rw [← hc0.out]
   have PA : Hid (∀ q, q < 8 → ∃ cs : List Value, w.rangeAt b (off + q * 22) cs ∧ ((Tryz.prog.info? 45).map (·.size) = some cs.length ∧ 22 = cs.length ∧ cs.toArray.all (·.oneCell') = true)
    ∧ (∀ w0, Below w.heap.size w w0 → Calls Tryz.prog 32 #[.agg cs.toArray, .int .i64 ((pS t c q + Tw.rk t q (Tw.hi q c) i : Nat) : Int)] w0 fun r w' => r = .returned (.tuple #[.bool (Tw.tb q c), .int .i64 0]) ∧ Below w0.heap.size w0 w')
    ∧ (∀ w0, Below w.heap.size w w0 → Calls Tryz.prog 34 #[.agg cs.toArray, .agg #[.int .i64 (pS t c q : Nat), .int .i64 (pE t c q : Nat), .int .i64 0], .bool (Tw.tb q c)] w0 fun r w' => r = .returned (.tuple #[.agg #[.int .i64 (pS t c q : Nat), .int .i64 (pE t c q : Nat), .int .i64 (pA x t c q : Nat)], .agg #[.int .i64 (pS t c (q + 1) : Nat), .int .i64 (pE t c (q + 1) : Nat), .int .i64 0]]) ∧ Below w0.heap.size w0 w')
    ∧ ∀ w0, Below w.heap.size w w0 → Calls Tryz.prog 35 #[.agg cs.toArray, .bool (Tw.tb q c), .int .i64 ((pS t c q + Tw.rk t q (Tw.hi q c) i : Nat) : Int)] w0 fun r w' => r = .returned (.int .i64 ((pA x t c q + Tw.rk t (q + 1) (Tw.hi (q + 1) c) i : Nat) : Int)) ∧ Below w0.heap.size w0 w') := fun q hq => by
    obtain ⟨cs, h1, h2, h3⟩ := row_at HTI.out HT.out q hq
    obtain ⟨_, r2, r3, _⟩ := HT.out.r q hq
    have hpq := HPP.out q (by rw [HT.out.e]; exact hq)
    have b4 := HT.out.at q i hq hit
    have b5 := HT.out.h
    rw [← hc0.out] at b4
    refine ⟨cs, h1, ⟨h3, h2.arg.nine, h2.arg.one⟩, fun w0 hb => ?_, fun w0 hb => ?_, fun w0 hb => ?_⟩
    ·have := V.access cs (lw x q) ((pS t c q + Tw.rk t q (Tw.hi q c) i : Nat) : Int) w0 (h2.keep hb) hpq ⟨by omega, by omega⟩
     have e1 := HT.out.bit q i hq hit
     rw [← hc0.out] at e1
     have e2 := kB_chk _ r2
     rw [r3] at e2
     unfold gaB gaE getB getE at this
     rw [r2, r3, e2, Int.toNat_natCast, e1, if_pos rfl, if_neg (by decide), if_neg (by omega), decide_eq_true (by omega)] at this
     simpa using this
    ·have := parted_c V cs (lw x q) (Tw.tb q c) t.length (pS t c q) (pE t c q) 0 w0 (h2.keep hb) r2 r3 (pS_le t c q) (pE_le t c q (by omega) hc HT.out.b) HT.out.h hpq
     obtain ⟨e1, e2⟩ := HT.out.next c q hq hc
     unfold pA at e1 e2 ⊢
     rw [e1, e2] at this
     exact this
    ·have := count_t V cs (lw x q) (Tw.tb q c) t.length (pS t c q + Tw.rk t q (Tw.hi q c) i) w0 (h2.keep hb) r2 r3 (by omega) (by omega) hpq
     rw [HT.out.down c q i hq hc (by omega)] at this
     exact this
   have HB : Hid (∀ q, q ≤ 8 → pS t c q + Tw.rk t q (Tw.hi q c) i ≤ 8192 ∧ pE t c q ≤ 8192) := fun q hq => by
    have := pS_rk t c q i hq hc HT.out.b (by omega)
    have := pE_le t c q hq hc HT.out.b
    have := HT.out.h
    omega
   have HA : Hid (∀ q, q < 8 → pA x t c q ≤ 8192) := fun q hq => by
    have := cB_le (kBX (lw x q)) (Tw.tb q c) (pS t c q)
    have := HB.out q (by omega)
    unfold pA
    omega
   have WG : Hid (∀ w0 (q : Nat), q < 8 → Calls Tryz.prog 33 #[.int .i64 q] w0 fun e w' => e = .returned (.int .u8 ((2 ^ (7 - q) : Nat) : Int)) ∧ w' = w0) := fun w0 q hq => wgt_c q hq w0
   have T0 := Hid.mkt (rk_top t c i hc ht.b)
   have P0 := Hid.mkt (pS_top t c hc)
   have Q0 : Hid (pE t c 0 = n) := (pE_top t c hc ht.b).trans hn.out.symm
   have e8 := ht.e
   have eN : x.N = (n : Int) := by rw [hn.out]; exact ht.n
   rw [e8, eN] at bx bw CK ⊢
   rw [eN] at hiN
   have hin : i < n := by omega
   have dn : decide (n ≤ i) = false := decide_eq_false (by omega)
   have di : decide ((i : Int) < 0) = false := decide_eq_false (by omega)
   clear h ht e8 eN hit
   generalize x.K = K at *
   go_enter Tryz.func12, Tryz.ntmps12
   go_wp2_with fail
   refine (CK.out _ bw).mono ?_
   rintro e w1 ⟨rfl, hb⟩
   replace bw := bw.trans (hb.mono bw.size)
   replace bx := bx.kept hb
   clear hb CK
   have x1 := bx.cell 1 rfl
   have nz := Cel.new w1 [.int .i64 0, .int .i64 (n : Int), .int .i64 0] 73
   have bz := below_alloc w1 (.cells [.int .i64 0, .int .i64 (n : Int), .int .i64 0].toArray 73)
   have hs1 := bx.lt
   replace bx := bx.kept bz
   replace bw := bw.trans (bz.mono bw.size)
   clear bz
   go_wp2
   have l7 : w.heap.size < w1.heap.size := hs1
   clear hs1 x1
   generalize w1.heap.size = g7 at *
   go_loopw [28, 1, 6] (fun s v u wr => ∃ q : Nat, q ≤ 8 ∧ s = .int .i64 q ∧ v = .int .i64 (Tw.rk t q (Tw.hi q c) i : Nat) ∧ u = .int .u8 (hb c q : Nat) ∧ Cel wr w.heap.size [.int .i64 K, .int .i64 (n : Int), .slice (some ⟨b, off, none⟩) 8 cap] 26 ∧ Cel wr g7 [.int .i64 (pS t c q : Nat), .int .i64 (pE t c q : Nat), .int .i64 0] 73 ∧ Below w.heap.size w wr) (fun s _ _ _ => 8 - (intOf s).toNat)
   case atStart => exact ⟨0, Nat.zero_le _, rfl, by rw [T0.out], by rw [hb_zero hc]; rfl, bx, by rw [P0.out, Q0.out]; exact nz, bw⟩
   case round =>
    obtain ⟨q, hq, rfl, rfl, rfl, hx, h7, hw⟩ := hrel
    clear bx bw nz
    by_cases hi : q < 8
    ·have hi2 : (q : Int) < 8 := by omega
     obtain ⟨cs, rg, h3, CA0, CP0, CC0⟩ := PA.out q hi
     have HL := Hid.mkt h3.1
     have H22 := Hid.mkt (len_zv.trans h3.2.1)
     have H1 := Hid.mkt h3.2.2
     have CA := Hid.mkt CA0
     have CP := Hid.mkt CP0
     have CC := Hid.mkt CC0
     clear h3 CA0 CP0 CC0
     have WQ := Hid.mkt (fun w0 => WG.out w0 q hi)
     have rg2 := range_keep rg hw hbl
     obtain ⟨u1, u2⟩ := HB.out q hq
     obtain ⟨u3, u4⟩ := HB.out (q + 1) (by omega)
     have u5 := HA.out q hi
     have H8 := or8 ⟨hb c q, hb_lt hq hc⟩ ⟨q, hi⟩
     dsimp only at H8
     have HS := hb_succ (c := c) hi
     obtain ⟨R', hR'⟩ : ∃ R', Hid (R' = Tw.rk t (q + 1) (Tw.hi (q + 1) c) i) := ⟨_, rfl⟩
     obtain ⟨s1, hs1⟩ : ∃ s1, Hid (s1 = pS t c (q + 1)) := ⟨_, rfl⟩
     obtain ⟨e1, he1⟩ : ∃ e1, Hid (e1 = pE t c (q + 1)) := ⟨_, rfl⟩
     rw [← hR'.out] at CC u3
     rw [← hs1.out] at u3
     rw [← hs1.out, ← he1.out] at CP
     have uR : R' ≤ 8192 := by omega
     clear u3 u4
     generalize pS t c q = s0 at *
     generalize pE t c q = e0 at *
     generalize pA x t c q = a0 at *
     generalize Tw.rk t q (Tw.hi q c) i = R at *
     obtain ⟨H', hH⟩ : ∃ H', Hid (H' = hb c (q + 1)) := ⟨_, rfl⟩
     rw [← hH.out] at HS
     have hbb := hb_lt (c := c) hq hc
     generalize hb c q = H at *
     generalize (2 : Nat) ^ (7 - q) = W at *
     clear PA HB HA WG rg
     have m1 : IntKind.i64.wrap ((s0 : Int) + (R : Int)) = ((s0 + R : Nat) : Int) := by rw [IntKind.wrap_i64]; omega
     have m2 : IntKind.i64.wrap (((a0 + R' : Nat) : Int) - (a0 : Int)) = (R' : Int) := by rw [IntKind.wrap_i64]; omega
     have m3 : IntKind.i64.wrap ((a0 : Int) + (R' : Int) - (a0 : Int)) = (R' : Int) := by rw [IntKind.wrap_i64]; omega
     have x2 := hx.cell 2 rfl
     go_wp2_with (first | refine load_part b (off + q * 22) cs (by rfl) rfl rg2 Tryz.underlying45 HL.out ?_ | refine alloc_z zv info_zv ?_)
     intro w1 c1 b1 s1'
     have hz := hw.size
     have lx := hx.lt
     have l7' := h7.lt
     go_wp2_with (refine store_cel wr.heap.size zv cs rfl rfl c1 H22.out HL.out H1.out ?_)
     intro w2 c2 o2
     replace hx := o2.cel (hx.kept b1) (by omega)
     replace h7 := o2.cel (h7.kept b1) (by omega)
     replace hw := (hw.trans (b1.mono hz)).trans (o2.below hz)
     clear x2 rg2 c1 b1 s1' o2
     have lr : w.heap.size < wr.heap.size := lx
     have lr7 : g7 < wr.heap.size := l7'
     clear lx l7' hz
     generalize wr.heap.size = gr at *
     have y0 := h7.cell 0 rfl
     go_wp2_with (refine load_obj gr cs (by rfl) rfl c2 Tryz.underlying45 HL.out ?_)
     refine (CA.out _ hw).mono ?_
     rintro e w3 ⟨rfl, hb3⟩
     replace hx := hx.kept hb3
     replace h7 := h7.kept hb3
     replace c2 := c2.kept hb3
     replace hw := hw.trans (hb3.mono hw.size)
     clear hb3 y0 CA
     cases hbit : Tw.tb q c with
     | true =>
      rw [hbit, if_pos rfl] at HS
      rw [hbit] at CP CC
      rw [← HS] at H8
      have hH2 := hH
      clear HS hbit
      go_wp2_with fail
      refine (WQ.out _).mono ?_
      rintro e w9 ⟨rfl, h9⟩
      rw [h9]
      clear h9 w9 WQ
      have y0 := h7.cell 0 rfl
      have y1 := h7.cell 1 rfl
      have y2 := h7.cell 2 rfl
      go_wp2_with (refine load_obj gr cs (by rfl) rfl c2 Tryz.underlying45 HL.out ?_)
      refine (CP.out _ hw).mono ?_
      rintro e w4 ⟨rfl, hb4⟩
      replace c2 := c2.kept hb4
      replace h7 := h7.kept hb4
      replace hx := hx.kept hb4
      replace hw := hw.trans (hb4.mono hw.size)
      clear hb4 y0 y1 y2 CP
      have k12 := (Cel.new w4 [.int .i64 (s0 : Int), .int .i64 (e0 : Int), .int .i64 (a0 : Int)] 73).alloc (.cells [.int .i64 (s1 : Int), .int .i64 (e1 : Int), .int .i64 0].toArray 73)
      have k13 := Cel.new2 w4 (.cells [.int .i64 (s0 : Int), .int .i64 (e0 : Int), .int .i64 (a0 : Int)].toArray 73) [.int .i64 (s1 : Int), .int .i64 (e1 : Int), .int .i64 0] 73
      have b5 : Below w4.heap.size w4 ((w4.alloc (.cells [.int .i64 (s0 : Int), .int .i64 (e0 : Int), .int .i64 (a0 : Int)].toArray 73)).alloc (.cells [.int .i64 (s1 : Int), .int .i64 (e1 : Int), .int .i64 0].toArray 73)) := (below_alloc w4 _).alloc (by simp) _
      have l4 : gr < w4.heap.size := c2.lt
      have l47 : g7 < w4.heap.size := h7.lt
      have l4w : w.heap.size < w4.heap.size := hx.lt
      go_wp2
      refine region_g [] (fun w' => Cel w' gr cs 45 ∧ Cel w' w4.heap.size [.int .i64 (s0 : Int), .int .i64 (e0 : Int), .int .i64 (a0 : Int)] 73 ∧ Cel w' (w4.heap.size + 1) [.int .i64 (s1 : Int), .int .i64 (e1 : Int), .int .i64 0] 73 ∧ Cel w' g7 [.int .i64 (s0 : Int), .int .i64 (e0 : Int), .int .i64 0] 73 ∧ Cel w' w.heap.size [.int .i64 K, .int .i64 (n : Int), .slice (some ⟨b, off, none⟩) 8 cap] 26 ∧ Below w.heap.size w w') (by kernel_rfl) ?_
      have hS : (fun w' => Cel w' gr cs 45 ∧ Cel w' w4.heap.size [.int .i64 (s0 : Int), .int .i64 (e0 : Int), .int .i64 (a0 : Int)] 73 ∧ Cel w' (w4.heap.size + 1) [.int .i64 (s1 : Int), .int .i64 (e1 : Int), .int .i64 0] 73 ∧ Cel w' g7 [.int .i64 (s0 : Int), .int .i64 (e0 : Int), .int .i64 0] 73 ∧ Cel w' w.heap.size [.int .i64 K, .int .i64 (n : Int), .slice (some ⟨b, off, none⟩) 8 cap] 26 ∧ Below w.heap.size w w') ((w4.alloc (.cells [.int .i64 (s0 : Int), .int .i64 (e0 : Int), .int .i64 (a0 : Int)].toArray 73)).alloc (.cells [.int .i64 (s1 : Int), .int .i64 (e1 : Int), .int .i64 0].toArray 73)).drew := ⟨(c2.kept b5).drew, k12.drew, k13.drew, (h7.kept b5).drew, (hx.kept b5).drew, (hw.trans (b5.mono hw.size)).drew⟩
      clear c2 h7 hx hw k12 k13 b5
      generalize ((w4.alloc (.cells [.int .i64 (s0 : Int), .int .i64 (e0 : Int), .int .i64 (a0 : Int)].toArray 73)).alloc (.cells [.int .i64 (s1 : Int), .int .i64 (e1 : Int), .int .i64 0].toArray 73)).drew = V at *
      refine AnyG.take 0 (v := .agg (cs).toArray) rfl (by kernel_rfl) (by kernel_rfl) (by kernel_rfl) (by kernel_rfl) (fun _ _ _ h => h) hS (fun w0 h0 => run_load_obj gr _ rfl h0.1 Tryz.underlying45 HL.out) (by rfl) ?rest1
      simp only [Act.put, yq0, yq1, yq2, yq3, yq4, yq5]
      refine AnyG.tk 1 hS ?_
      refine AnyG.tk 2 hS ?_
      refine AnyG.tf 3 hS rfl (fun w0 h0 => by have d0 := h0.2.1.cell 0 rfl; go_simp; try with_reducible rfl) ?_
      refine AnyG.tk 4 hS ?_
      refine AnyG.tk 5 hS ?_
      refine AnyG.tk 7 hS ?_
      refine AnyG.tf 8 hS rfl (fun w0 h0 => by have d0 := h0.2.1.cell 2 rfl; go_simp; try with_reducible rfl) ?_
      refine AnyG.o1 6 ?_
      intro K hK
      go_simp
      refine (CC.out _ hS.2.2.2.2.2).mono ?_
      rintro e w6 ⟨rfl, hb6⟩
      have hS2 := And.intro (hS.1.kept hb6) (And.intro (hS.2.1.kept hb6) (And.intro (hS.2.2.1.kept hb6) (And.intro (hS.2.2.2.1.kept hb6) (And.intro (hS.2.2.2.2.1.kept hb6) (hS.2.2.2.2.2.trans (hb6.mono hS.2.2.2.2.2.size))))))
      clear hb6 hS
      refine hK.out _ _ (fun _ => hS2) ?_
      clear hK K
      try simp only [Act.put, yq0, yq1, yq2, yq3, yq4, yq5]
      refine AnyG.tk 9 hS2 ?_
      refine AnyG.tk 10 hS2 ?_
      refine AnyG.done (by kernel_rfl) ?_ _
      have d0 := hS2.2.2.1.cell 0 rfl
      have d1 := hS2.2.2.1.cell 1 rfl
      have d2 := hS2.2.2.1.cell 2 rfl
      go_wp2_with (refine store_cel g7 [.int .i64 (s0 : Int), .int .i64 (e0 : Int), .int .i64 0] [.int .i64 (s1 : Int), .int .i64 (e1 : Int), .int .i64 0] rfl rfl hS2.2.2.2.1 rfl (by kernel_rfl) (by simp [Value.oneCell']) ?_)
      intro w7 c7 o7
      have HF := Hid.mkt (And.intro (o7.cel hS2.2.2.2.2.1 (by omega)) (And.intro c7 (hS2.2.2.2.2.2.trans (o7.below (by omega)))))
      clear c7 o7 d0 d1 d2 hS2
      go_wp2
      exact ⟨⟨q + 1, by omega, by go_num, by rw [hR'.out], by rw [hH.out], by rw [← hs1.out, ← he1.out]; exact HF.out⟩, by simp only [intOf]; omega⟩
     | false =>
      rw [hbit, if_neg (by decide)] at HS
      rw [hbit] at CP CC
      subst HS
      clear H8 hbit
      clear WQ
      have y0 := h7.cell 0 rfl
      have y1 := h7.cell 1 rfl
      have y2 := h7.cell 2 rfl
      go_wp2_with (refine load_obj gr cs (by rfl) rfl c2 Tryz.underlying45 HL.out ?_)
      refine (CP.out _ hw).mono ?_
      rintro e w4 ⟨rfl, hb4⟩
      replace c2 := c2.kept hb4
      replace h7 := h7.kept hb4
      replace hx := hx.kept hb4
      replace hw := hw.trans (hb4.mono hw.size)
      clear hb4 y0 y1 y2 CP
      have k12 := (Cel.new w4 [.int .i64 (s0 : Int), .int .i64 (e0 : Int), .int .i64 (a0 : Int)] 73).alloc (.cells [.int .i64 (s1 : Int), .int .i64 (e1 : Int), .int .i64 0].toArray 73)
      have k13 := Cel.new2 w4 (.cells [.int .i64 (s0 : Int), .int .i64 (e0 : Int), .int .i64 (a0 : Int)].toArray 73) [.int .i64 (s1 : Int), .int .i64 (e1 : Int), .int .i64 0] 73
      have b5 : Below w4.heap.size w4 ((w4.alloc (.cells [.int .i64 (s0 : Int), .int .i64 (e0 : Int), .int .i64 (a0 : Int)].toArray 73)).alloc (.cells [.int .i64 (s1 : Int), .int .i64 (e1 : Int), .int .i64 0].toArray 73)) := (below_alloc w4 _).alloc (by simp) _
      have l4 : gr < w4.heap.size := c2.lt
      have l47 : g7 < w4.heap.size := h7.lt
      have l4w : w.heap.size < w4.heap.size := hx.lt
      go_wp2
      refine region_g [] (fun w' => Cel w' gr cs 45 ∧ Cel w' w4.heap.size [.int .i64 (s0 : Int), .int .i64 (e0 : Int), .int .i64 (a0 : Int)] 73 ∧ Cel w' (w4.heap.size + 1) [.int .i64 (s1 : Int), .int .i64 (e1 : Int), .int .i64 0] 73 ∧ Cel w' g7 [.int .i64 (s0 : Int), .int .i64 (e0 : Int), .int .i64 0] 73 ∧ Cel w' w.heap.size [.int .i64 K, .int .i64 (n : Int), .slice (some ⟨b, off, none⟩) 8 cap] 26 ∧ Below w.heap.size w w') (by kernel_rfl) ?_
      have hS : (fun w' => Cel w' gr cs 45 ∧ Cel w' w4.heap.size [.int .i64 (s0 : Int), .int .i64 (e0 : Int), .int .i64 (a0 : Int)] 73 ∧ Cel w' (w4.heap.size + 1) [.int .i64 (s1 : Int), .int .i64 (e1 : Int), .int .i64 0] 73 ∧ Cel w' g7 [.int .i64 (s0 : Int), .int .i64 (e0 : Int), .int .i64 0] 73 ∧ Cel w' w.heap.size [.int .i64 K, .int .i64 (n : Int), .slice (some ⟨b, off, none⟩) 8 cap] 26 ∧ Below w.heap.size w w') ((w4.alloc (.cells [.int .i64 (s0 : Int), .int .i64 (e0 : Int), .int .i64 (a0 : Int)].toArray 73)).alloc (.cells [.int .i64 (s1 : Int), .int .i64 (e1 : Int), .int .i64 0].toArray 73)).drew := ⟨(c2.kept b5).drew, k12.drew, k13.drew, (h7.kept b5).drew, (hx.kept b5).drew, (hw.trans (b5.mono hw.size)).drew⟩
      clear c2 h7 hx hw k12 k13 b5
      generalize ((w4.alloc (.cells [.int .i64 (s0 : Int), .int .i64 (e0 : Int), .int .i64 (a0 : Int)].toArray 73)).alloc (.cells [.int .i64 (s1 : Int), .int .i64 (e1 : Int), .int .i64 0].toArray 73)).drew = V at *
      refine AnyG.take 0 (v := .agg (cs).toArray) rfl (by kernel_rfl) (by kernel_rfl) (by kernel_rfl) (by kernel_rfl) (fun _ _ _ h => h) hS (fun w0 h0 => run_load_obj gr _ rfl h0.1 Tryz.underlying45 HL.out) (by rfl) ?rest11
      simp only [Act.put, yq0, yq1, yq2, yq3, yq4, yq5]
      refine AnyG.tk 1 hS ?_
      refine AnyG.tk 2 hS ?_
      refine AnyG.tf 3 hS rfl (fun w0 h0 => by have d0 := h0.2.1.cell 0 rfl; go_simp; try with_reducible rfl) ?_
      refine AnyG.tk 4 hS ?_
      refine AnyG.tk 5 hS ?_
      refine AnyG.tk 7 hS ?_
      refine AnyG.tf 8 hS rfl (fun w0 h0 => by have d0 := h0.2.1.cell 2 rfl; go_simp; try with_reducible rfl) ?_
      refine AnyG.o1 6 ?_
      intro K hK
      go_simp
      refine (CC.out _ hS.2.2.2.2.2).mono ?_
      rintro e w6 ⟨rfl, hb6⟩
      have hS2 := And.intro (hS.1.kept hb6) (And.intro (hS.2.1.kept hb6) (And.intro (hS.2.2.1.kept hb6) (And.intro (hS.2.2.2.1.kept hb6) (And.intro (hS.2.2.2.2.1.kept hb6) (hS.2.2.2.2.2.trans (hb6.mono hS.2.2.2.2.2.size))))))
      clear hb6 hS
      refine hK.out _ _ (fun _ => hS2) ?_
      clear hK K
      try simp only [Act.put, yq0, yq1, yq2, yq3, yq4, yq5]
      refine AnyG.tk 9 hS2 ?_
      refine AnyG.tk 10 hS2 ?_
      refine AnyG.done (by kernel_rfl) ?_ _
      have d0 := hS2.2.2.1.cell 0 rfl
      have d1 := hS2.2.2.1.cell 1 rfl
      have d2 := hS2.2.2.1.cell 2 rfl
      go_wp2_with (refine store_cel g7 [.int .i64 (s0 : Int), .int .i64 (e0 : Int), .int .i64 0] [.int .i64 (s1 : Int), .int .i64 (e1 : Int), .int .i64 0] rfl rfl hS2.2.2.2.1 rfl (by kernel_rfl) (by simp [Value.oneCell']) ?_)
      intro w7 c7 o7
      have HF := Hid.mkt (And.intro (o7.cel hS2.2.2.2.2.1 (by omega)) (And.intro c7 (hS2.2.2.2.2.2.trans (o7.below (by omega)))))
      clear c7 o7 d0 d1 d2 hS2
      go_wp2
      exact ⟨⟨q + 1, by omega, by go_num, by rw [hR'.out], by rw [hH.out], by rw [← hs1.out, ← he1.out]; exact HF.out⟩, by simp only [intOf]; omega⟩
    ·obtain rfl : q = 8 := by omega
     clear PA HB HA WG
     rw [hb_eight]
     go_wp2
     go_ret2
     exact ⟨rfl, hw⟩
end Go.Proofs.YtjahipjghenbjaaGreatDoor
