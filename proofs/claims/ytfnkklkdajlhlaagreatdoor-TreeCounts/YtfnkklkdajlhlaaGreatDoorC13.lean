/-
  The contract of the program's Access of trees. The contract of the program's order: the places of symbols as they stand in a row. The contract of the program's rowOf: the bits of a row of a text. The contract of the program's Text of trees. The contract of the program's only: the kind, if the fields of the others are zero. The library's Clone at words. The library's Search. The contracts of the program's copied, count and sought.
-/
import Derived.Test.YtfnkklkdajlhlaaGreatDoorC12
import Derived.Test.YtfnkklkdajlhlaaGreatDoorC11
import Derived.Test.YtfnkklkdajlhlaaGreatDoorC02
import Derived.Test.YtfnkklkdajlhlaaGreatDoorC06
import Derived.Test.YtfnkklkdajlhlaaGreatDoorC03
import Derived.Test.YtfnkklkdajlhlaaGreatDoorC01
import Derived.Test.YtfnkklkdajlhlaaGreatDoorC07
import Derived.Laws.Cover3
set_option linter.unusedVariables false
set_option linter.unusedSimpArgs false
set_option maxRecDepth 100000
set_option maxHeartbeats 16000000
namespace Go.Proofs.YtfnkklkdajlhlaaGreatDoor
open Go.RowKit Num Bit
def taE (x : TR) (i : Int) : Int := if tOk x then (if i < 0 ∨ x.N ≤ i then 3 else 0) else 2
def taC (x : TR) (i : Int) : Nat := if taE x i = 0 then gt (txt x) i.toNat else 0
theorem ta_bad {x : TR} (i : Int) (ok : tOk x = false) : taE x i = 2 ∧ taC x i = 0 := by
 have e : taE x i = 2 := by unfold taE; rw [ok]; rfl
 refine ⟨e, ?_⟩
 unfold taC
 rw [e]
 rfl
theorem ta_out {x : TR} (i : Int) (ok : tOk x = true) (hi : i < 0 ∨ x.N ≤ i) : taE x i = 3 ∧ taC x i = 0 := by
 have e : taE x i = 3 := by unfold taE; rw [ok, if_pos rfl, if_pos hi]
 refine ⟨e, ?_⟩
 unfold taC
 rw [e]
 rfl
theorem ta_in {x : TR} (i : Nat) (ok : tOk x = true) (hi : (i : Int) < x.N) : taE x i = 0 ∧ taC x i = gt (txt x) i := by
 have e : taE x i = 0 := by unfold taE; rw [ok, if_pos rfl, if_neg (by omega)]
 refine ⟨e, ?_⟩
 unfold taC
 rw [e, if_pos rfl, Int.toNat_natCast]
theorem or8 : ∀ (c : Fin 256) (l : Fin 8), bits .or .u8 (c.val : Int) ((2 ^ (7 - l.val) : Nat) : Int) = ((c.val ||| 2 ^ (7 - l.val) : Nat) : Int) := by decide +kernel
theorem access_t {P : RA → Prop} (U : VC P) (V : VR P) (lo : Option Addr) (cap : Nat) (x : TR) (i : Int) (w : World) (h : TI w lo cap x) (hI : I64 i) (hp : ∀ l, l < x.av.length → P (lw x l)) :
  Calls Tryz.prog 12 #[.agg #[.int .i64 x.K, .int .i64 x.N, .slice lo x.av.length cap], .int .i64 i] w fun e w' => e = .returned (.tuple #[.int .u8 (taC x i : Nat), .int .i64 (taE x i)]) ∧ Below w.heap.size w w' := by
 have HPP := Hid.mkt hp
 clear hp
 have CK : Hid (∀ w0, Below w.heap.size w w0 → Calls Tryz.prog 23 #[.agg #[.int .i64 x.K, .int .i64 x.N, .slice lo x.av.length cap]] w0 fun e w' => e = .returned (.bool (tOk x)) ∧ Below w0.heap.size w0 w') := fun w0 hb => check_t U lo cap x w0 (h.keep hb) HPP.out
 have bx := Cel.new w [.int .i64 x.K, .int .i64 x.N, .slice lo x.av.length cap] 26
 have bw := below_alloc w (.cells #[.int .i64 x.K, .int .i64 x.N, .slice lo x.av.length cap] 26)
 cases ok : tOk x with
 | false =>
  rw [ok] at CK
  have r1 := ta_bad i ok
  rw [r1.1, r1.2]
  clear h ok r1
  generalize x.N = N at *
  generalize x.K = K at *
  generalize x.av.length = m at *
  go_enter Tryz.func12, Tryz.ntmps12
  go_wp2_with fail
  refine (CK.out _ bw).mono ?_
  rintro e w1 ⟨rfl, hb⟩
  replace bw := bw.trans (hb.mono bw.size)
  clear hb bx
  go_wp2
  go_ret2
  exact ⟨rfl, bw⟩
 | true =>
  have ht := tt_of x ok
  rw [ok] at CK
  by_cases hr : i < 0 ∨ x.N ≤ i
  ·obtain ⟨r1, r2⟩ := ta_out i ok hr
   rw [r1, r2]
   have hn := h.n
   clear h r1 r2 ht ok
   generalize x.N = N at *
   generalize x.K = K at *
   generalize x.av.length = m at *
   by_cases i0 : i < 0
   ·clear hr
    go_enter Tryz.func12, Tryz.ntmps12
    go_wp2_with fail
    refine (CK.out _ bw).mono ?_
    rintro e w1 ⟨rfl, hb⟩
    replace bw := bw.trans (hb.mono bw.size)
    replace bx := bx.kept hb
    clear hb
    have x1 := bx.cell 1 rfl
    go_wp2
    go_ret2
    exact ⟨rfl, bw⟩
   ·have i1 : N ≤ i := by omega
    have i2 : ¬ i < N := by omega
    have i00 : (0 : Int) ≤ i := by omega
    clear hr
    go_enter Tryz.func12, Tryz.ntmps12
    go_wp2_with fail
    refine (CK.out _ bw).mono ?_
    rintro e w1 ⟨rfl, hb⟩
    replace bw := bw.trans (hb.mono bw.size)
    replace bx := bx.kept hb
    clear hb
    have x1 := bx.cell 1 rfl
    go_wp2
    go_ret2
    exact ⟨rfl, bw⟩
  ·obtain ⟨i, rfl⟩ := Int.eq_ofNat_of_zero_le (show 0 ≤ i by omega)
   obtain ⟨r1, r2⟩ := ta_in i ok (by omega)
   rw [r1, r2]
   have hiN : (i : Int) < x.N := by omega
   generalize txt x = t at *
   clear r1 r2 hr ok
   obtain ⟨b, off, rfl, hbl, _⟩ := h.l (by rw [ht.e]; decide)
   obtain ⟨n, hn⟩ : ∃ n, Hid (n = t.length) := ⟨_, rfl⟩
   have hn8 : n ≤ 8192 := by rw [hn.out]; exact ht.h
   have HTI := Hid.mkt h
   have HT := Hid.mkt ht
   have hit : i < t.length := by have := ht.n; omega
   obtain ⟨c, hc0⟩ : ∃ c, Hid (c = gt t i) := ⟨_, rfl⟩
   have hc : c < 256 := by rw [hc0.out]; exact ht.b i
   rw [← hc0.out]
   have PA : Hid (∀ q, q < 8 → ∃ cs : List Value, w.rangeAt b (off + q * 22) cs ∧ ((Tryz.prog.info? 45).map (·.size) = some cs.length ∧ 22 = cs.length ∧ cs.toArray.all (·.oneCell') = true)
    ∧ (∀ w0, Below w.heap.size w w0 → Calls Tryz.prog 32 #[.agg cs.toArray, .int .i64 ((pS t c q + Tw.rk t q (Tw.hi q c) i : Nat) : Int)] w0 fun r w' => r = .returned (.tuple #[.bool (Tw.tb q c), .int .i64 0]) ∧ Below w0.heap.size w0 w')
    ∧ (∀ w0, Below w.heap.size w w0 → Calls Tryz.prog 34 #[.agg cs.toArray, .agg #[.int .i64 (pS t c q : Nat), .int .i64 (pE t c q : Nat), .int .i64 0], .bool (Tw.tb q c)] w0 fun r w' => r = .returned (.tuple #[.agg #[.int .i64 (pS t c q : Nat), .int .i64 (pE t c q : Nat), .int .i64 (pA x t c q : Nat)], .agg #[.int .i64 (pS t c (q + 1) : Nat), .int .i64 (pE t c (q + 1) : Nat), .int .i64 0]]) ∧ Below w0.heap.size w0 w')
    ∧ ∀ w0, Below w.heap.size w w0 → Calls Tryz.prog 35 #[.agg cs.toArray, .bool (Tw.tb q c), .int .i64 ((pS t c q + Tw.rk t q (Tw.hi q c) i : Nat) : Int)] w0 fun r w' => r = .returned (.int .i64 ((pA x t c q + Tw.rk t (q + 1) (Tw.hi (q + 1) c) i : Nat) : Int)) ∧ Below w0.heap.size w0 w') := fun q hq => by
    obtain ⟨cs, h1, h2, h3⟩ := row_at HTI.out HT.out q hq
    obtain ⟨_, r2, r3, _⟩ := HT.out.r q hq
    have hpq := HPP.out q (by rw [HT.out.e]; exact hq)
    have b4 := HT.out.at q i hq hit
    have b5 := HT.out.h
    rw [← hc0.out] at b4
    refine ⟨cs, h1, ⟨h3, h2.arg.nine, h2.arg.one⟩, fun w0 hb => ?_, fun w0 hb => ?_, fun w0 hb => ?_⟩
    ·have := V.access cs (lw x q) ((pS t c q + Tw.rk t q (Tw.hi q c) i : Nat) : Int) w0 (h2.keep hb) hpq ⟨by omega, by omega⟩
     have e1 := HT.out.bit q i hq hit
     rw [← hc0.out] at e1
     have e2 := kB_chk _ r2
     rw [r3] at e2
     unfold gaB gaE getB getE at this
     rw [r2, r3, e2, Int.toNat_natCast, e1, if_pos rfl, if_neg (by decide), if_neg (by omega), decide_eq_true (by omega)] at this
     simpa using this
    ·have := parted_c V cs (lw x q) (Tw.tb q c) t.length (pS t c q) (pE t c q) 0 w0 (h2.keep hb) r2 r3 (pS_le t c q) (pE_le t c q (by omega) hc HT.out.b) HT.out.h hpq
     obtain ⟨e1, e2⟩ := HT.out.next c q hq hc
     unfold pA at e1 e2 ⊢
     rw [e1, e2] at this
     exact this
    ·have := count_t V cs (lw x q) (Tw.tb q c) t.length (pS t c q + Tw.rk t q (Tw.hi q c) i) w0 (h2.keep hb) r2 r3 (by omega) (by omega) hpq
     rw [HT.out.down c q i hq hc (by omega)] at this
     exact this
   have HB : Hid (∀ q, q ≤ 8 → pS t c q + Tw.rk t q (Tw.hi q c) i ≤ 8192 ∧ pE t c q ≤ 8192) := fun q hq => by
    have := pS_rk t c q i hq hc HT.out.b (by omega)
    have := pE_le t c q hq hc HT.out.b
    have := HT.out.h
    omega
   have HA : Hid (∀ q, q < 8 → pA x t c q ≤ 8192) := fun q hq => by
    have := cB_le (kBX (lw x q)) (Tw.tb q c) (pS t c q)
    have := HB.out q (by omega)
    unfold pA
    omega
   have WG : Hid (∀ w0 (q : Nat), q < 8 → Calls Tryz.prog 33 #[.int .i64 q] w0 fun e w' => e = .returned (.int .u8 ((2 ^ (7 - q) : Nat) : Int)) ∧ w' = w0) := fun w0 q hq => wgt_c q hq w0
   have T0 := Hid.mkt (rk_top t c i hc ht.b)
   have P0 := Hid.mkt (pS_top t c hc)
   have Q0 : Hid (pE t c 0 = n) := (pE_top t c hc ht.b).trans hn.out.symm
   have e8 := ht.e
   have eN : x.N = (n : Int) := by rw [hn.out]; exact ht.n
   rw [e8, eN] at bx bw CK ⊢
   rw [eN] at hiN
   have hin : i < n := by omega
   have dn : decide (n ≤ i) = false := decide_eq_false (by omega)
   have di : decide ((i : Int) < 0) = false := decide_eq_false (by omega)
   clear h ht e8 eN hit
   generalize x.K = K at *
   go_enter Tryz.func12, Tryz.ntmps12
   go_wp2_with fail
   refine (CK.out _ bw).mono ?_
   rintro e w1 ⟨rfl, hb⟩
   replace bw := bw.trans (hb.mono bw.size)
   replace bx := bx.kept hb
   clear hb CK
   have x1 := bx.cell 1 rfl
   have nz := Cel.new w1 [.int .i64 0, .int .i64 (n : Int), .int .i64 0] 73
   have bz := below_alloc w1 (.cells [.int .i64 0, .int .i64 (n : Int), .int .i64 0].toArray 73)
   have hs1 := bx.lt
   replace bx := bx.kept bz
   replace bw := bw.trans (bz.mono bw.size)
   clear bz
   go_wp2
   have l7 : w.heap.size < w1.heap.size := hs1
   clear hs1 x1
   generalize w1.heap.size = g7 at *
   go_loopw [28, 1, 6] (fun s v u wr => ∃ q : Nat, q ≤ 8 ∧ s = .int .i64 q ∧ v = .int .i64 (Tw.rk t q (Tw.hi q c) i : Nat) ∧ u = .int .u8 (hb c q : Nat) ∧ Cel wr w.heap.size [.int .i64 K, .int .i64 (n : Int), .slice (some ⟨b, off, none⟩) 8 cap] 26 ∧ Cel wr g7 [.int .i64 (pS t c q : Nat), .int .i64 (pE t c q : Nat), .int .i64 0] 73 ∧ Below w.heap.size w wr) (fun s _ _ _ => 8 - (intOf s).toNat)
   case atStart => exact ⟨0, Nat.zero_le _, rfl, by rw [T0.out], by rw [hb_zero hc]; rfl, bx, by rw [P0.out, Q0.out]; exact nz, bw⟩
   case round =>
    obtain ⟨q, hq, rfl, rfl, rfl, hx, h7, hw⟩ := hrel
    clear bx bw nz
    by_cases hi : q < 8
    ·have hi2 : (q : Int) < 8 := by omega
     obtain ⟨cs, rg, h3, CA0, CP0, CC0⟩ := PA.out q hi
     have HL := Hid.mkt h3.1
     have H22 := Hid.mkt (len_zv.trans h3.2.1)
     have H1 := Hid.mkt h3.2.2
     have CA := Hid.mkt CA0
     have CP := Hid.mkt CP0
     have CC := Hid.mkt CC0
     clear h3 CA0 CP0 CC0
     have WQ := Hid.mkt (fun w0 => WG.out w0 q hi)
     have rg2 := range_keep rg hw hbl
     obtain ⟨u1, u2⟩ := HB.out q hq
     obtain ⟨u3, u4⟩ := HB.out (q + 1) (by omega)
     have u5 := HA.out q hi
     have H8 := or8 ⟨hb c q, hb_lt hq hc⟩ ⟨q, hi⟩
     dsimp only at H8
     have HS := hb_succ (c := c) hi
     obtain ⟨R', hR'⟩ : ∃ R', Hid (R' = Tw.rk t (q + 1) (Tw.hi (q + 1) c) i) := ⟨_, rfl⟩
     obtain ⟨s1, hs1⟩ : ∃ s1, Hid (s1 = pS t c (q + 1)) := ⟨_, rfl⟩
     obtain ⟨e1, he1⟩ : ∃ e1, Hid (e1 = pE t c (q + 1)) := ⟨_, rfl⟩
     rw [← hR'.out] at CC u3
     rw [← hs1.out] at u3
     rw [← hs1.out, ← he1.out] at CP
     have uR : R' ≤ 8192 := by omega
     clear u3 u4
     generalize pS t c q = s0 at *
     generalize pE t c q = e0 at *
     generalize pA x t c q = a0 at *
     generalize Tw.rk t q (Tw.hi q c) i = R at *
     obtain ⟨H', hH⟩ : ∃ H', Hid (H' = hb c (q + 1)) := ⟨_, rfl⟩
     rw [← hH.out] at HS
     have hbb := hb_lt (c := c) hq hc
     generalize hb c q = H at *
     generalize (2 : Nat) ^ (7 - q) = W at *
     clear PA HB HA WG rg
     have m1 : IntKind.i64.wrap ((s0 : Int) + (R : Int)) = ((s0 + R : Nat) : Int) := by rw [IntKind.wrap_i64]; omega
     have m2 : IntKind.i64.wrap (((a0 + R' : Nat) : Int) - (a0 : Int)) = (R' : Int) := by rw [IntKind.wrap_i64]; omega
     have m3 : IntKind.i64.wrap ((a0 : Int) + (R' : Int) - (a0 : Int)) = (R' : Int) := by rw [IntKind.wrap_i64]; omega
     have x2 := hx.cell 2 rfl
     go_wp2_with (first | refine load_part b (off + q * 22) cs (by rfl) rfl rg2 Tryz.underlying45 HL.out ?_ | refine alloc_z zv info_zv ?_)
     intro w1 c1 b1 s1'
     have hz := hw.size
     have lx := hx.lt
     have l7' := h7.lt
     go_wp2_with (refine store_cel wr.heap.size zv cs rfl rfl c1 H22.out HL.out H1.out ?_)
     intro w2 c2 o2
     replace hx := o2.cel (hx.kept b1) (by omega)
     replace h7 := o2.cel (h7.kept b1) (by omega)
     replace hw := (hw.trans (b1.mono hz)).trans (o2.below hz)
     clear x2 rg2 c1 b1 s1' o2
     have lr : w.heap.size < wr.heap.size := lx
     have lr7 : g7 < wr.heap.size := l7'
     clear lx l7' hz
     generalize wr.heap.size = gr at *
     have y0 := h7.cell 0 rfl
     go_wp2_with (refine load_obj gr cs (by rfl) rfl c2 Tryz.underlying45 HL.out ?_)
     refine (CA.out _ hw).mono ?_
     rintro e w3 ⟨rfl, hb3⟩
     replace hx := hx.kept hb3
     replace h7 := h7.kept hb3
     replace c2 := c2.kept hb3
     replace hw := hw.trans (hb3.mono hw.size)
     clear hb3 y0 CA
     cases hbit : Tw.tb q c with
     | true =>
      rw [hbit, if_pos rfl] at HS
      rw [hbit] at CP CC
      rw [← HS] at H8
      have hH2 := hH
      clear HS hbit
      go_wp2_with fail
      refine (WQ.out _).mono ?_
      rintro e w9 ⟨rfl, h9⟩
      rw [h9]
      clear h9 w9 WQ
      have y0 := h7.cell 0 rfl
      have y1 := h7.cell 1 rfl
      have y2 := h7.cell 2 rfl
      go_wp2_with (refine load_obj gr cs (by rfl) rfl c2 Tryz.underlying45 HL.out ?_)
      refine (CP.out _ hw).mono ?_
      rintro e w4 ⟨rfl, hb4⟩
      replace c2 := c2.kept hb4
      replace h7 := h7.kept hb4
      replace hx := hx.kept hb4
      replace hw := hw.trans (hb4.mono hw.size)
      clear hb4 y0 y1 y2 CP
      have k12 := (Cel.new w4 [.int .i64 (s0 : Int), .int .i64 (e0 : Int), .int .i64 (a0 : Int)] 73).alloc (.cells [.int .i64 (s1 : Int), .int .i64 (e1 : Int), .int .i64 0].toArray 73)
      have k13 := Cel.new2 w4 (.cells [.int .i64 (s0 : Int), .int .i64 (e0 : Int), .int .i64 (a0 : Int)].toArray 73) [.int .i64 (s1 : Int), .int .i64 (e1 : Int), .int .i64 0] 73
      have b5 : Below w4.heap.size w4 ((w4.alloc (.cells [.int .i64 (s0 : Int), .int .i64 (e0 : Int), .int .i64 (a0 : Int)].toArray 73)).alloc (.cells [.int .i64 (s1 : Int), .int .i64 (e1 : Int), .int .i64 0].toArray 73)) := (below_alloc w4 _).alloc (by simp) _
      have l4 : gr < w4.heap.size := c2.lt
      have l47 : g7 < w4.heap.size := h7.lt
      have l4w : w.heap.size < w4.heap.size := hx.lt
      go_wp2
      refine region_g [] (fun w' => Cel w' gr cs 45 ∧ Cel w' w4.heap.size [.int .i64 (s0 : Int), .int .i64 (e0 : Int), .int .i64 (a0 : Int)] 73 ∧ Cel w' (w4.heap.size + 1) [.int .i64 (s1 : Int), .int .i64 (e1 : Int), .int .i64 0] 73 ∧ Cel w' g7 [.int .i64 (s0 : Int), .int .i64 (e0 : Int), .int .i64 0] 73 ∧ Cel w' w.heap.size [.int .i64 K, .int .i64 (n : Int), .slice (some ⟨b, off, none⟩) 8 cap] 26 ∧ Below w.heap.size w w') (by kernel_rfl) ?_
      have hS : (fun w' => Cel w' gr cs 45 ∧ Cel w' w4.heap.size [.int .i64 (s0 : Int), .int .i64 (e0 : Int), .int .i64 (a0 : Int)] 73 ∧ Cel w' (w4.heap.size + 1) [.int .i64 (s1 : Int), .int .i64 (e1 : Int), .int .i64 0] 73 ∧ Cel w' g7 [.int .i64 (s0 : Int), .int .i64 (e0 : Int), .int .i64 0] 73 ∧ Cel w' w.heap.size [.int .i64 K, .int .i64 (n : Int), .slice (some ⟨b, off, none⟩) 8 cap] 26 ∧ Below w.heap.size w w') ((w4.alloc (.cells [.int .i64 (s0 : Int), .int .i64 (e0 : Int), .int .i64 (a0 : Int)].toArray 73)).alloc (.cells [.int .i64 (s1 : Int), .int .i64 (e1 : Int), .int .i64 0].toArray 73)).drew := ⟨(c2.kept b5).drew, k12.drew, k13.drew, (h7.kept b5).drew, (hx.kept b5).drew, (hw.trans (b5.mono hw.size)).drew⟩
      clear c2 h7 hx hw k12 k13 b5
      generalize ((w4.alloc (.cells [.int .i64 (s0 : Int), .int .i64 (e0 : Int), .int .i64 (a0 : Int)].toArray 73)).alloc (.cells [.int .i64 (s1 : Int), .int .i64 (e1 : Int), .int .i64 0].toArray 73)).drew = V at *
      refine AnyG.take 0 (v := .agg (cs).toArray) rfl (by kernel_rfl) (by kernel_rfl) (by kernel_rfl) (by kernel_rfl) (fun _ _ _ h => h) hS (fun w0 h0 => run_load_obj gr _ rfl h0.1 Tryz.underlying45 HL.out) (by rfl) ?rest1
      simp only [Act.put, yq0, yq1, yq2, yq3, yq4, yq5]
      refine AnyG.tk 1 hS ?_
      refine AnyG.tk 2 hS ?_
      refine AnyG.tf 3 hS rfl (fun w0 h0 => by have d0 := h0.2.1.cell 0 rfl; go_simp; try with_reducible rfl) ?_
      refine AnyG.tk 4 hS ?_
      refine AnyG.tk 5 hS ?_
      refine AnyG.tk 7 hS ?_
      refine AnyG.tf 8 hS rfl (fun w0 h0 => by have d0 := h0.2.1.cell 2 rfl; go_simp; try with_reducible rfl) ?_
      refine AnyG.o1 6 ?_
      intro K hK
      go_simp
      refine (CC.out _ hS.2.2.2.2.2).mono ?_
      rintro e w6 ⟨rfl, hb6⟩
      have hS2 := And.intro (hS.1.kept hb6) (And.intro (hS.2.1.kept hb6) (And.intro (hS.2.2.1.kept hb6) (And.intro (hS.2.2.2.1.kept hb6) (And.intro (hS.2.2.2.2.1.kept hb6) (hS.2.2.2.2.2.trans (hb6.mono hS.2.2.2.2.2.size))))))
      clear hb6 hS
      refine hK.out _ _ (fun _ => hS2) ?_
      clear hK K
      try simp only [Act.put, yq0, yq1, yq2, yq3, yq4, yq5]
      refine AnyG.tk 9 hS2 ?_
      refine AnyG.tk 10 hS2 ?_
      refine AnyG.done (by kernel_rfl) ?_ _
      have d0 := hS2.2.2.1.cell 0 rfl
      have d1 := hS2.2.2.1.cell 1 rfl
      have d2 := hS2.2.2.1.cell 2 rfl
      go_wp2_with (refine store_cel g7 [.int .i64 (s0 : Int), .int .i64 (e0 : Int), .int .i64 0] [.int .i64 (s1 : Int), .int .i64 (e1 : Int), .int .i64 0] rfl rfl hS2.2.2.2.1 rfl (by kernel_rfl) (by simp [Value.oneCell']) ?_)
      intro w7 c7 o7
      have HF := Hid.mkt (And.intro (o7.cel hS2.2.2.2.2.1 (by omega)) (And.intro c7 (hS2.2.2.2.2.2.trans (o7.below (by omega)))))
      clear c7 o7 d0 d1 d2 hS2
      go_wp2
      exact ⟨⟨q + 1, by omega, by go_num, by rw [hR'.out], by rw [hH.out], by rw [← hs1.out, ← he1.out]; exact HF.out⟩, by simp only [intOf]; omega⟩
     | false =>
      rw [hbit, if_neg (by decide)] at HS
      rw [hbit] at CP CC
      subst HS
      clear H8 hbit
      clear WQ
      have y0 := h7.cell 0 rfl
      have y1 := h7.cell 1 rfl
      have y2 := h7.cell 2 rfl
      go_wp2_with (refine load_obj gr cs (by rfl) rfl c2 Tryz.underlying45 HL.out ?_)
      refine (CP.out _ hw).mono ?_
      rintro e w4 ⟨rfl, hb4⟩
      replace c2 := c2.kept hb4
      replace h7 := h7.kept hb4
      replace hx := hx.kept hb4
      replace hw := hw.trans (hb4.mono hw.size)
      clear hb4 y0 y1 y2 CP
      have k12 := (Cel.new w4 [.int .i64 (s0 : Int), .int .i64 (e0 : Int), .int .i64 (a0 : Int)] 73).alloc (.cells [.int .i64 (s1 : Int), .int .i64 (e1 : Int), .int .i64 0].toArray 73)
      have k13 := Cel.new2 w4 (.cells [.int .i64 (s0 : Int), .int .i64 (e0 : Int), .int .i64 (a0 : Int)].toArray 73) [.int .i64 (s1 : Int), .int .i64 (e1 : Int), .int .i64 0] 73
      have b5 : Below w4.heap.size w4 ((w4.alloc (.cells [.int .i64 (s0 : Int), .int .i64 (e0 : Int), .int .i64 (a0 : Int)].toArray 73)).alloc (.cells [.int .i64 (s1 : Int), .int .i64 (e1 : Int), .int .i64 0].toArray 73)) := (below_alloc w4 _).alloc (by simp) _
      have l4 : gr < w4.heap.size := c2.lt
      have l47 : g7 < w4.heap.size := h7.lt
      have l4w : w.heap.size < w4.heap.size := hx.lt
      go_wp2
      refine region_g [] (fun w' => Cel w' gr cs 45 ∧ Cel w' w4.heap.size [.int .i64 (s0 : Int), .int .i64 (e0 : Int), .int .i64 (a0 : Int)] 73 ∧ Cel w' (w4.heap.size + 1) [.int .i64 (s1 : Int), .int .i64 (e1 : Int), .int .i64 0] 73 ∧ Cel w' g7 [.int .i64 (s0 : Int), .int .i64 (e0 : Int), .int .i64 0] 73 ∧ Cel w' w.heap.size [.int .i64 K, .int .i64 (n : Int), .slice (some ⟨b, off, none⟩) 8 cap] 26 ∧ Below w.heap.size w w') (by kernel_rfl) ?_
      have hS : (fun w' => Cel w' gr cs 45 ∧ Cel w' w4.heap.size [.int .i64 (s0 : Int), .int .i64 (e0 : Int), .int .i64 (a0 : Int)] 73 ∧ Cel w' (w4.heap.size + 1) [.int .i64 (s1 : Int), .int .i64 (e1 : Int), .int .i64 0] 73 ∧ Cel w' g7 [.int .i64 (s0 : Int), .int .i64 (e0 : Int), .int .i64 0] 73 ∧ Cel w' w.heap.size [.int .i64 K, .int .i64 (n : Int), .slice (some ⟨b, off, none⟩) 8 cap] 26 ∧ Below w.heap.size w w') ((w4.alloc (.cells [.int .i64 (s0 : Int), .int .i64 (e0 : Int), .int .i64 (a0 : Int)].toArray 73)).alloc (.cells [.int .i64 (s1 : Int), .int .i64 (e1 : Int), .int .i64 0].toArray 73)).drew := ⟨(c2.kept b5).drew, k12.drew, k13.drew, (h7.kept b5).drew, (hx.kept b5).drew, (hw.trans (b5.mono hw.size)).drew⟩
      clear c2 h7 hx hw k12 k13 b5
      generalize ((w4.alloc (.cells [.int .i64 (s0 : Int), .int .i64 (e0 : Int), .int .i64 (a0 : Int)].toArray 73)).alloc (.cells [.int .i64 (s1 : Int), .int .i64 (e1 : Int), .int .i64 0].toArray 73)).drew = V at *
      refine AnyG.take 0 (v := .agg (cs).toArray) rfl (by kernel_rfl) (by kernel_rfl) (by kernel_rfl) (by kernel_rfl) (fun _ _ _ h => h) hS (fun w0 h0 => run_load_obj gr _ rfl h0.1 Tryz.underlying45 HL.out) (by rfl) ?rest11
      simp only [Act.put, yq0, yq1, yq2, yq3, yq4, yq5]
      refine AnyG.tk 1 hS ?_
      refine AnyG.tk 2 hS ?_
      refine AnyG.tf 3 hS rfl (fun w0 h0 => by have d0 := h0.2.1.cell 0 rfl; go_simp; try with_reducible rfl) ?_
      refine AnyG.tk 4 hS ?_
      refine AnyG.tk 5 hS ?_
      refine AnyG.tk 7 hS ?_
      refine AnyG.tf 8 hS rfl (fun w0 h0 => by have d0 := h0.2.1.cell 2 rfl; go_simp; try with_reducible rfl) ?_
      refine AnyG.o1 6 ?_
      intro K hK
      go_simp
      refine (CC.out _ hS.2.2.2.2.2).mono ?_
      rintro e w6 ⟨rfl, hb6⟩
      have hS2 := And.intro (hS.1.kept hb6) (And.intro (hS.2.1.kept hb6) (And.intro (hS.2.2.1.kept hb6) (And.intro (hS.2.2.2.1.kept hb6) (And.intro (hS.2.2.2.2.1.kept hb6) (hS.2.2.2.2.2.trans (hb6.mono hS.2.2.2.2.2.size))))))
      clear hb6 hS
      refine hK.out _ _ (fun _ => hS2) ?_
      clear hK K
      try simp only [Act.put, yq0, yq1, yq2, yq3, yq4, yq5]
      refine AnyG.tk 9 hS2 ?_
      refine AnyG.tk 10 hS2 ?_
      refine AnyG.done (by kernel_rfl) ?_ _
      have d0 := hS2.2.2.1.cell 0 rfl
      have d1 := hS2.2.2.1.cell 1 rfl
      have d2 := hS2.2.2.1.cell 2 rfl
      go_wp2_with (refine store_cel g7 [.int .i64 (s0 : Int), .int .i64 (e0 : Int), .int .i64 0] [.int .i64 (s1 : Int), .int .i64 (e1 : Int), .int .i64 0] rfl rfl hS2.2.2.2.1 rfl (by kernel_rfl) (by simp [Value.oneCell']) ?_)
      intro w7 c7 o7
      have HF := Hid.mkt (And.intro (o7.cel hS2.2.2.2.2.1 (by omega)) (And.intro c7 (hS2.2.2.2.2.2.trans (o7.below (by omega)))))
      clear c7 o7 d0 d1 d2 hS2
      go_wp2
      exact ⟨⟨q + 1, by omega, by go_num, by rw [hR'.out], by rw [hH.out], by rw [← hs1.out, ← he1.out]; exact HF.out⟩, by simp only [intOf]; omega⟩
    ·obtain rfl : q = 8 := by omega
     clear PA HB HA WG
     rw [hb_eight]
     go_wp2
     go_ret2
     exact ⟨rfl, hw⟩
theorem made_one {w : World} {base g n : Nat} {E : TypeId} {x : Value} (h : w.ownsRow base E 1 (.slice (some ⟨g, 0, none⟩) n n) n (madeCells #[x] n).toList) : Cel w g (List.replicate n x) E := by
 obtain ⟨_, h | ⟨g', cap, cur, e, _, hh, _, _, hs, ht⟩⟩ := h
 ·simp at h
 ·simp only [Value.slice.injEq, Option.some.injEq, Addr.mk.injEq] at e
  obtain ⟨⟨rfl, _, _⟩, _, rfl⟩ := e
  unfold Cel
  rw [hh]
  rw [toList_madeCells_one x n] at ht
  have e3 : cur.toList.take (n * 1) = cur.toList := List.take_of_length_le (by simp; omega)
  rw [e3] at ht
  rw [← ht]
def nxs (t : List Nat) (l q : Nat) : List Int := (List.range 128).map fun p => (Tw.st t l p : Int) + (Tw.rk t l p q : Int)
theorem length_nxs (t : List Nat) (l q : Nat) : (nxs t l q).length = 128 := by simp [nxs]
theorem gi_nxs (t : List Nat) (l q p : Nat) (h : p < 128) : gi (nxs t l q) p = (Tw.st t l p : Int) + (Tw.rk t l p q : Int) := gi_map _ _ _ h
theorem nxs_zero (t : List Nat) (l : Nat) : fst t l 127 = nxs t l 0 := by
 refine gi_ext (by rw [length_fst, length_nxs]) fun q hq => ?_
 rw [length_fst] at hq
 rw [gi_fst _ _ _ _ hq, gi_nxs _ _ _ _ hq, if_pos (by omega)]
 rfl
theorem nxs_step (t : List Nat) (l q p : Nat) (hp : Tw.hi l (gt t q) = p) (h : p < 128) : (nxs t l q).set p ((Tw.st t l p : Int) + (Tw.rk t l p q : Int) + 1) = nxs t l (q + 1) := by
 refine gi_ext (by rw [List.length_set, length_nxs, length_nxs]) fun i hi => ?_
 rw [List.length_set, length_nxs] at hi
 rw [gi_set _ _ _ _ (by rw [length_nxs]; exact h), gi_nxs _ _ _ _ hi, gi_nxs _ _ _ _ hi, Tw.rk_succ, hp]
 by_cases e : p = i
 ·subst e; simp; omega
 ·simp [e]
def pls (t : List Nat) (l q : Nat) : List Int := (Tw.plc t l).map fun x => if x < q then (x : Int) else 0
theorem length_pls (t : List Nat) (l q : Nat) : (pls t l q).length = (Tw.plc t l).length := by simp [pls]
theorem gi_pls (t : List Nat) (l q i x : Nat) (h : (Tw.plc t l)[i]? = some x) : gi (pls t l q) i = if x < q then (x : Int) else 0 := by
 unfold gi pls
 rw [List.getD_eq_getElem?_getD, List.getElem?_map, h]
 rfl
theorem pls_zero (t : List Nat) (l n : Nat) (hn : (Tw.plc t l).length = n) : iv (pls t l 0) = List.replicate n (.int .i64 0) := by
 unfold iv pls
 rw [List.map_map]
 refine List.eq_replicate_iff.2 ⟨by simp [hn], fun b hb => ?_⟩
 obtain ⟨a, _, rfl⟩ := List.mem_map.1 hb
 simp
theorem pls_step (t : List Nat) (l q : Nat) (hl : l ≤ 8) (hB : Tw.Byt t) (hq : q < t.length) : (pls t l q).set (Tw.pos t l q) (q : Int) = pls t l (q + 1) := by
 have hg := Tw.plc_get t l q hl hB hq
 have hln := Tw.length_plc t l hl hB
 have hps := Tw.pos_lt t l q hl hB hq
 refine gi_ext (by rw [List.length_set, length_pls, length_pls]) fun i hi => ?_
 rw [List.length_set, length_pls] at hi
 have hx : (Tw.plc t l)[i]? = some (Tw.plc t l)[i] := List.getElem?_eq_getElem hi
 rw [gi_set _ _ _ _ (by rw [length_pls]; omega)]
 generalize (Tw.plc t l)[i] = x at hx
 rw [gi_pls _ _ _ _ _ hx, gi_pls _ _ _ _ _ hx]
 by_cases e : Tw.pos t l q = i
 ·rw [e, hx] at hg
  obtain rfl : x = q := by injection hg
  rw [if_pos e, if_pos (by omega)]
 ·rw [if_neg e]
  have : x ≠ q := fun h => by
   subst h
   exact e (Tw.pos_plc t l i x hl hB hx)
  by_cases c : x < q
  ·rw [if_pos c, if_pos (by omega)]
  ·rw [if_neg c, if_neg (by omega)]
def plI (t : List Nat) (l : Nat) : List Int := (Tw.plc t l).map fun (x : Nat) => (x : Int)
theorem length_plI (t : List Nat) (l : Nat) : (plI t l).length = (Tw.plc t l).length := by simp [plI]
theorem pls_all (t : List Nat) (l : Nat) : pls t l t.length = plI t l := by
 unfold pls plI
 refine List.map_congr_left fun x hx => ?_
 obtain ⟨i, hi⟩ := List.getElem?_of_mem hx
 rw [if_pos (Tw.plc_lt t l i x hi)]
theorem order_c (ao : Option Addr) (t : List Nat) (cap l : Nat) (w : World) (hx : Bd w ao t) (hB : Tw.Byt t) (hl : l < 8) (hn : t.length ≤ 8192) :
  Calls Tryz.prog 50 #[.slice ao t.length cap, .int .i64 l] w fun e w' => ∃ g, e = .returned (.slice (some ⟨g, 0, none⟩) t.length t.length) ∧ w.heap.size ≤ g ∧ Cel w' g (iv (plI t l)) 3 ∧ Below w.heap.size w w' := by
 have H : Hid (∀ w0, Below w.heap.size w w0 → Calls Tryz.prog 90 #[.slice ao t.length cap, .int .i64 l] w0 fun e w' => e = .returned (.agg (iv (nxs t l 0)).toArray) ∧ Below w0.heap.size w0 w') := fun w0 hb => by
  have := starts_c ao t cap l w0 (hx.keep hb) hB hl hn
  rw [nxs_zero] at this
  exact this
 have hln := Tw.length_plc t l (by omega) hB
 obtain ⟨i0, hi, hz0, hz1, hz2⟩ := info_parts Tryz.info3
 obtain ⟨k, hk⟩ : ∃ k, 8 - l = k := ⟨_, rfl⟩
 have hk2 : IntKind.i64.wrap (8 - (l : Int)) = (k : Int) := by rw [IntKind.wrap_i64]; omega
 obtain ⟨n, hnn⟩ : ∃ n, n = t.length := ⟨_, rfl⟩
 have HN := Hid.mkt hnn
 rw [← hnn] at hn hln H ⊢
 clear hnn
 go_enter Tryz.func50, Tryz.ntmps50
 go_wp2_with fail
 refine (H.out _ (Below.refl _ _)).mono ?_
 rintro e w1 ⟨rfl, hb1⟩
 clear H
 go_wp2_with (refine alloc_z _ info_a128 ?_)
 intro w2 hc2 hb2 hs2
 go_wp2_with (refine store_cel w1.heap.size _ _ rfl rfl hc2 (by simp [length_iv, length_nxs]) (size_a128 _ (length_nxs _ _ _)) (one_iv _) ?_)
 intro w3 hc3 ho3
 have l1 : w.heap.size ≤ w1.heap.size := hb1.size
 have b3 : Below w.heap.size w w3 := (hb1.trans (hb2.mono l1)).trans (ho3.below (by omega))
 have l3 : w1.heap.size < w3.heap.size := by rw [ho3.size]; exact hs2
 clear hc2 hb2 hs2 ho3 hb1
 generalize w1.heap.size = g5 at *
 simp only [Act.put, yq3, List.set]
 go_wp2_with (at_make; refine wpList_make_full _ rfl _ _ 35 rfl w3.heap.size 3 i0 (.int .i64 0) 1 Tryz.underlying35 hi hz0 hz1 .i64 .i64 _ _ n rfl rfl rfl rfl ?b2 ?b3 ?b4 ?_)
 case b2 => rw [hz2]; omega
 case b3 => unfold maxLen; omega
 case b4 => omega
 intro w4 hown hgr
 have hg4 := made_one hown
 have b4 : Below w3.heap.size w3 w4 := (Below.refl _ _).grown hgr (Nat.le_refl _) (fun k h => by cases h)
 have l4 : g5 < w3.heap.size := l3
 have c5 := hc3.kept b4
 have bA := b3.trans (b4.mono b3.size)
 rw [← pls_zero t l n hln] at hg4
 clear hown hgr b3 b4 hc3 hi hz0 hz1 hz2 l3
 generalize w3.heap.size = g6 at *
 go_wp2
 go_loopw [18] (fun s wr => ∃ q : Nat, q ≤ n ∧ s = .int .i64 q ∧ Cel wr g5 (iv (nxs t l q)) 136 ∧ Cel wr g6 (iv (pls t l q)) 3 ∧ Below w.heap.size w wr) (fun s _ => n - (intOf s).toNat)
 case atStart => exact ⟨0, Nat.zero_le _, rfl, c5, hg4, bA⟩
 case round =>
  obtain ⟨q, hq, rfl, h5, h6, hb⟩ := hrel
  clear c5 hg4 bA
  by_cases hi : q < n
  ·have hi2 : (q : Int) < (n : Int) := by omega
   obtain ⟨b, off, rfl, hbl, hcc⟩ := hx (by rw [← HN.out]; omega)
   have e2 := (hb.cell (p := ⟨b, off + q, none⟩) hbl).trans (hcc q (by rw [← HN.out]; exact hi))
   have hc := hB q
   have hp := hi128 hB hl q
   have es := shr8 (gt t q) l
   rw [hk] at es
   have hqt : q < t.length := by rw [← HN.out]; exact hi
   have hps := Tw.pos_lt t l q (by omega) hB hqt
   rw [← HN.out] at hps
   have hpe : Tw.st t l (Tw.hi l (gt t q)) + Tw.rk t l (Tw.hi l (gt t q)) q = Tw.pos t l q := rfl
   have e1 := cel_iv h5 (Tw.hi l (gt t q)) (by rw [length_nxs]; exact hp)
   rw [gi_nxs _ _ _ _ hp, ← Int.natCast_add, hpe] at e1
   have hgp := Tw.plc_get t l q (by omega) hB hqt
   have e6 := cel_iv h6 (Tw.pos t l q) (by rw [length_pls, hln]; exact hps)
   have s6 := cel_iset h6 (Tw.pos t l q) (q : Int)
   rw [pls_step t l q (by omega) hB hqt] at s6
   have f6 := h6.frozen (Tw.pos t l q)
   have h5' := h5.other (a := ⟨g6, Tw.pos t l q, none⟩) (by show g5 ≠ g6; omega) (.int .i64 (q : Int))
   have hb' : Below w.heap.size w (wr.setCell ⟨g6, Tw.pos t l q, none⟩ (.int .i64 (q : Int))) := hb.setCell (by show w.heap.size ≤ g6; omega) _
   have d1 := cel_iv h5' (Tw.hi l (gt t q)) (by rw [length_nxs]; exact hp)
   rw [gi_nxs _ _ _ _ hp, ← Int.natCast_add, hpe] at d1
   have f5 := h5'.frozen (Tw.hi l (gt t q))
   have s5 := cel_iset h5' (Tw.hi l (gt t q)) ((Tw.pos t l q : Int) + 1)
   rw [← hpe, Int.natCast_add, nxs_step t l q _ rfl hp, ← Int.natCast_add, hpe] at s5
   have s6' := s6.other (a := ⟨g5, Tw.hi l (gt t q), none⟩) (by show g6 ≠ g5; omega) (.int .i64 ((Tw.pos t l q : Int) + 1))
   have hb2 : Below w.heap.size w ((wr.setCell ⟨g6, Tw.pos t l q, none⟩ (.int .i64 (q : Int))).setCell ⟨g5, Tw.hi l (gt t q), none⟩ (.int .i64 ((Tw.pos t l q : Int) + 1))) := hb'.setCell (by show w.heap.size ≤ g5; omega) _
   have HF := Hid.mkt (And.intro s5 (And.intro s6' hb2))
   clear s5 s6' hb2 hb' h5' s6 hpe hgp h5 h6 hb hcc hx hqt
   generalize Tw.pos t l q = Z at *
   generalize Tw.hi l (gt t q) = P at *
   generalize gt t q = C at *
   have hC2 : (C : Int) < 256 := by omega
   have hP2 : (P : Int) < 128 := by omega
   have hZ2 : (Z : Int) < (n : Int) := by omega
   have hk0 : (0 : Int) ≤ (k : Int) := by omega
   have hk8 : (k : Int) ≤ 8 := by omega
   clear hk
   go_wp2
   exact ⟨⟨q + 1, by omega, by go_num, HF.out⟩, by simp only [intOf]; omega⟩
  ·obtain rfl : q = n := by omega
   have e : pls t l q = plI t l := by rw [HN.out]; exact pls_all t l
   rw [e] at h6
   have HF := Hid.mkt (And.intro h6 hb)
   have hg : w.heap.size ≤ g6 := by omega
   clear h5 h6 hb hx e
   go_wp2
   go_ret
   exact ⟨_, rfl, hg, HF.out⟩
theorem bvs_put (n : Nat) (f : Nat → Bool) (q : Nat) : (bvs n (fun i => decide (i < q) && f i)).set q (.bool (f q)) = bvs n (fun i => decide (i < q + 1) && f i) := by
 refine List.ext_getElem? fun i => ?_
 rw [List.getElem?_set, length_bvs]
 by_cases c : i < n
 ·rw [bvs_get n _ i c, bvs_get n _ i c]
  by_cases d : q = i
  ·subst d; simp [c]
  ·rw [if_neg d, show decide (i < q + 1) = decide (i < q) from decide_eq_decide.2 (by omega)]
 ·have e : ∀ g, (bvs n g)[i]? = none := fun g => List.getElem?_eq_none (by rw [length_bvs]; omega)
  rw [e, e]
  by_cases d : q = i
  ·subst d; simp [c]
  ·rw [if_neg d]
theorem bvs_none (n : Nat) (f : Nat → Bool) : (bvs n fun _ => false) = bvs n (fun i => decide (i < 0) && f i) := bvs_congr _ _ _ fun i _ => by simp
theorem bvs_full (n : Nat) (f : Nat → Bool) : bvs n (fun i => decide (i < n) && f i) = bvs n f := bvs_congr _ _ _ fun i hi => by simp [hi]
def rw_ (t : List Nat) (l : Nat) : List Nat := rowOf t.length (Tw.rb t l)
theorem length_rw_ (t : List Nat) (l : Nat) : (rw_ t l).length = (t.length + 63) / 64 := length_rowOf _ _
theorem length_bls (n : Nat) (f : Nat → Bool) : (bls n f).length = n := by simp [bls]
theorem fr_bls (n : Nat) (f : Nat → Bool) : frL (bls n f) = rowOf n f := by
 unfold frL
 rw [length_bls]
 refine rowOf_congr _ _ _ fun i hi => ?_
 unfold bt bls
 rw [List.getD_eq_getElem?_getD, List.getElem?_map, List.getElem?_range hi]
 rfl
theorem trow_c (ao : Option Addr) (t : List Nat) (cap l : Nat) (w : World) (hx : Bd w ao t) (hB : Tw.Byt t) (hl : l < 8) (hn : t.length ≤ 8192) :
  Calls Tryz.prog 28 #[.slice ao t.length cap, .int .i64 l] w fun e w' => ∃ bo dap, e = .returned (.agg #[.int .i64 t.length, .slice bo (rw_ t l).length dap]) ∧ Wd w' bo (rw_ t l) ∧ (rw_ t l).length ≤ dap ∧ Below w.heap.size w w' := by
 have H : Hid (∀ w0, Below w.heap.size w w0 → Calls Tryz.prog 50 #[.slice ao t.length cap, .int .i64 l] w0 fun e w' => ∃ g, e = .returned (.slice (some ⟨g, 0, none⟩) t.length t.length) ∧ w0.heap.size ≤ g ∧ Cel w' g (iv (plI t l)) 3 ∧ Below w0.heap.size w0 w') := fun w0 hb => order_c ao t cap l w0 (hx.keep hb) hB hl hn
 have F : Hid (∀ w0 g, Cel w0 g (bvs t.length (Tw.rb t l)) 4 → Calls Tryz.prog 55 #[.slice (some ⟨g, 0, none⟩) t.length t.length] w0 fun e w' => ∃ bo dap, e = .returned (.tuple #[.agg #[.int .i64 t.length, .slice bo (rw_ t l).length dap], .int .i64 0]) ∧ Wd w' bo (rw_ t l) ∧ (rw_ t l).length ≤ dap ∧ Below w0.heap.size w0 w') := fun w0 g hc => by
  have := from_c (some ⟨g, 0, none⟩) (bls t.length (Tw.rb t l)) t.length w0 (bl_cel hc) (by rw [length_bls]; omega)
  rw [length_bls, fr_bls] at this
  refine this.mono ?_
  rintro e w' ⟨bo, dap, rfl, h1, h2, h3, h4⟩
  exact ⟨bo, dap, rfl, h1, h3, h4⟩
 have hln := Tw.length_plc t l (by omega) hB
 obtain ⟨i0, hi, hz0, hz1, hz2⟩ := info_parts Tryz.info4
 have BO : Hid (∀ w0 c, c < 256 → Calls Tryz.prog 37 #[.int .u8 ((c : Nat) : Int), .int .i64 l] w0 fun e w' => e = .returned (.bool (Tw.tb l c)) ∧ w' = w0) := fun w0 c hc => bitOf_c c l hc hl w0
 have HX := Hid.mkt hx
 obtain ⟨n, hnn⟩ : ∃ n, n = t.length := ⟨_, rfl⟩
 have HN := Hid.mkt hnn
 rw [← hnn] at hn hln H F ⊢
 generalize (rw_ t l).length = k at *
 clear hnn hx
 go_enter Tryz.func28, Tryz.ntmps28
 go_wp2_with (at_make; refine wpList_make_full _ rfl _ _ 85 rfl (w.heap.size + 1) 4 i0 (.bool false) 1 Tryz.underlying85 hi hz0 hz1 .i64 .i64 _ _ n rfl rfl rfl rfl ?b2 ?b3 ?b4 ?_)
 case b2 => rw [hz2]; omega
 case b3 => unfold maxLen; omega
 case b4 => simp
 intro w1 hown hgr
 have g1 := bcel_made hown
 have hz : (w.alloc (.cells #[.int .i64 0, .slice none 0 0] 33)).heap.size = w.heap.size + 1 := by simp
 have b1 : Below (w.heap.size + 1) (w.alloc (.cells #[.int .i64 0, .slice none 0 0] 33)) w1 := (Below.refl _ _).grown hgr (by rw [hz]; exact Nat.le_refl _) (fun k h => by cases h)
 have c4 : Cel w1 w.heap.size [.int .i64 0, .slice none 0 0] 33 := (Cel.new w _ _).keep b1 (by omega)
 have bA : Below w.heap.size w w1 := (below_alloc w _).trans (b1.mono (by omega))
 have hs1 : w.heap.size + 1 < w1.heap.size := g1.lt
 clear hown hgr b1 hz hi hz0 hz1 hz2
 rw [bvs_none n (Tw.rb t l)] at g1
 go_wp2_with fail
 refine (H.out _ bA).mono ?_
 rintro e w2 ⟨g, rfl, hg, cg, hb2⟩
 replace g1 := g1.kept hb2
 replace c4 := c4.kept hb2
 replace bA := bA.trans (hb2.mono bA.size)
 have hs2 := hb2.size
 have hsg : w.heap.size + 1 < g := by omega
 have hsg2 : w.heap.size < g := by omega
 clear hb2 H hg hs2 hs1
 go_wp2
 go_loopw [17] (fun s wr => ∃ q : Nat, q ≤ n ∧ s = .int .i64 q ∧ Cel wr (w.heap.size + 1) (bvs n (fun i => decide (i < q) && Tw.rb t l i)) 4 ∧ Cel wr g (iv (plI t l)) 3 ∧ Cel wr w.heap.size [.int .i64 0, .slice none 0 0] 33 ∧ Below w.heap.size w wr) (fun s _ => n - (intOf s).toNat)
 case atStart => exact ⟨0, Nat.zero_le _, rfl, g1, cg, c4, bA⟩
 case round =>
  obtain ⟨q, hq, rfl, h5, hg, h4, hb⟩ := hrel
  clear g1 cg c4 bA
  by_cases hi : q < n
  ·have hi2 : (q : Int) < (n : Int) := by omega
   obtain ⟨x, hx⟩ : ∃ x, (Tw.plc t l)[q]? = some x := ⟨_, List.getElem?_eq_getElem (by omega)⟩
   have hxt := Tw.plc_lt t l q x hx
   have hxn : x < n := by rw [HN.out]; exact hxt
   obtain ⟨b, off, rfl, hbl, hcc⟩ := HX.out (by omega)
   have e2 := (hb.cell (p := ⟨b, off + x, none⟩) hbl).trans (hcc x hxt)
   have e1 := cel_iv hg q (by rw [length_plI, hln]; exact hi)
   have e1' : gi (plI t l) q = (x : Int) := by
    unfold gi plI
    rw [List.getD_eq_getElem?_getD, List.getElem?_map, hx]
    rfl
   rw [e1'] at e1
   have hr : Tw.tb l (gt t x) = Tw.rb t l q := by
    unfold Tw.rb
    rw [List.getD_eq_getElem?_getD, hx]
    rfl
   have hc := hB x
   have B := Hid.mkt (fun w0 => BO.out w0 (gt t x) hc)
   rw [hr] at B
   have s5 := h5.set q (.bool (Tw.rb t l q))
   rw [bvs_put] at s5
   have z5 : wr.cell? ⟨w.heap.size + 1, q, none⟩ = some (.bool (decide (q < q) && Tw.rb t l q)) := h5.cell q (bvs_get n _ q hi)
   have f5 := h5.frozen q
   have hg' := hg.other (a := ⟨w.heap.size + 1, q, none⟩) (by show g ≠ w.heap.size + 1; omega) (.bool (Tw.rb t l q))
   have h4' := h4.other (a := ⟨w.heap.size + 1, q, none⟩) (by show w.heap.size ≠ w.heap.size + 1; omega) (.bool (Tw.rb t l q))
   have hb' : Below w.heap.size w (wr.setCell ⟨w.heap.size + 1, q, none⟩ (.bool (Tw.rb t l q))) := hb.setCell (by show w.heap.size ≤ w.heap.size + 1; omega) _
   have HF := Hid.mkt (And.intro s5 (And.intro hg' (And.intro h4' hb')))
   clear s5 hg' h4' hb' h5 hg h4 hb e1' hr hcc HX BO F hx
   generalize Tw.rb t l q = R at *
   generalize gt t x = C at *
   have hx2 : (x : Int) < (n : Int) := by omega
   go_wp2_with fail
   refine (B.out _).mono ?_
   rintro e w3 ⟨rfl, h3⟩
   rw [h3]
   clear h3 w3 B
   go_wp2
   exact ⟨⟨q + 1, by omega, by go_num, HF.out⟩, by simp only [intOf]; omega⟩
  ·obtain rfl : q = n := by omega
   rw [bvs_full] at h5
   clear BO HX hg
   go_wp2_with fail
   refine (F.out _ _ h5).mono ?_
   rintro e w4 ⟨bo, dap, rfl, x1, x2, hb4⟩
   replace h4 := h4.kept hb4
   have bW := hb.trans (hb4.mono hb.size)
   have hs := h4.lt
   have bZ := below_alloc w4 (.cells #[.int .i64 (q : Int), .slice bo k dap] 33)
   clear h5 hb hb4 F
   have h4' := h4.alloc (.cells #[.int .i64 (q : Int), .slice bo k dap] 33)
   have bW' := bW.trans (bZ.mono bW.size)
   have x1' := x1.keep bZ
   have HX := Hid.mkt (And.intro x1' (And.intro x2 bW'))
   clear x1 x1' x2 bW bW' bZ h4
   go_wp2_with (refine store_cel w.heap.size [.int .i64 0, .slice none 0 0] [.int .i64 (q : Int), .slice bo k dap] rfl rfl h4' rfl (by kernel_rfl) (by simp [Value.oneCell']) ?_)
   intro w5 c5 o5
   have HZ := Hid.mkt (And.intro c5 (And.intro (o5.wd HX.out.1 (HX.out.1.apart h4' (by simp))) (And.intro HX.out.2.1 (HX.out.2.2.trans (o5.below (Nat.le_refl _))))))
   clear c5 o5 h4' HX
   go_wp2
   (try simp only [Exit.inBlock, Exit.then])
   exact bodyPost_ret (result_cel1 rfl w.heap.size _ rfl HZ.out.1 Tryz.underlying33 (by kernel_rfl)) rfl ⟨bo, dap, rfl, HZ.out.2⟩
theorem KI.fit_t {w : World} {cs : List Value} {a : RA} (h : KI w cs a) : Fit (kBX a) := by
 obtain ⟨cp, cr, cf, _, _, h1, h2, h3⟩ := h.arg
 obtain ⟨ao, cap, so, sc, tO, tc, _, g1⟩ := h1
 by_cases k1 : kOn a = 1
 ·rw [(on_p k1).2.2.1]
  unfold kBX7 piX
  split
  ·exact g1.f
  ·exact fit_nil
 by_cases k2 : kOn a = 2
 ·rw [(on_r k2).2.2.1]
  exact kB_fit8 _
 by_cases k3 : kOn a = 3
 ·rw [(on_f k3).2.2.1]
  exact kB_fit9 _
 rw [(on_n k1 k2 k3).2.2.1]
 exact fit_nil
def tTx (x : TR) : List Nat := if tOk x then txt x else []
def bv8 (t : List Nat) : List Value := t.map fun y => .int .u8 (y : Nat)
theorem bv8_get (t : List Nat) (i : Nat) (h : i < t.length) : (bv8 t)[i]? = some (.int .u8 (gt t i : Nat)) := by
 unfold bv8
 rw [List.getElem?_map, gt_get t i h]
 rfl
theorem bv8_set (t : List Nat) (i v : Nat) : (bv8 t).set i (.int .u8 (v : Nat)) = bv8 (t.set i v) := by unfold bv8; rw [List.map_set]
theorem bd_cel {w : World} {g : Nat} {t : List Nat} (h : Cel w g (bv8 t) 5) : Bd w (some ⟨g, 0, none⟩) t := fun _ => ⟨g, 0, rfl, h.lt, fun i hi => by rw [Nat.zero_add]; exact h.cell i (bv8_get t i hi)⟩
theorem nou_bv8 (t : List Nat) : ∀ v ∈ bv8 t, ∀ n, v ≠ .int .u64 n := fun v hv n e => by
 subst e
 unfold bv8 at hv
 obtain ⟨_, _, e⟩ := List.mem_map.1 hv
 cases e
theorem Tryz.info5 : (Tryz.prog.info? 5).map (fun i => (i.zero, i.size, i.bytes)) = some (some (.int .u8 0), 1, 1) := by kernel_rfl
theorem text_t {P : RA → Prop} (U : VC P) (V : VR P) (lo : Option Addr) (cap : Nat) (x : TR) (w : World) (h : TI w lo cap x) (hp : ∀ l, l < x.av.length → P (lw x l)) :
  Calls Tryz.prog 25 #[.agg #[.int .i64 x.K, .int .i64 x.N, .slice lo x.av.length cap]] w fun e w' => ∃ bo bc, e = .returned (.slice bo (tTx x).length bc) ∧ Bd w' bo (tTx x) ∧ (tTx x).length ≤ bc ∧ Below w.heap.size w w' := by
 have HPP := Hid.mkt hp
 clear hp
 have CK : Hid (∀ w0, Below w.heap.size w w0 → Calls Tryz.prog 23 #[.agg #[.int .i64 x.K, .int .i64 x.N, .slice lo x.av.length cap]] w0 fun e w' => e = .returned (.bool (tOk x)) ∧ Below w0.heap.size w0 w') := fun w0 hb => check_t U lo cap x w0 (h.keep hb) HPP.out
 have bx := Cel.new w [.int .i64 x.K, .int .i64 x.N, .slice lo x.av.length cap] 26
 have bw := below_alloc w (.cells #[.int .i64 x.K, .int .i64 x.N, .slice lo x.av.length cap] 26)
 cases ok : tOk x with
 | false =>
  rw [ok] at CK
  have r1 : tTx x = [] := by unfold tTx; rw [ok]; rfl
  rw [r1]
  clear h ok r1
  generalize x.N = N at *
  generalize x.K = K at *
  generalize x.av.length = m at *
  go_enter Tryz.func25, Tryz.ntmps25
  go_wp2_with fail
  refine (CK.out _ bw).mono ?_
  rintro e w1 ⟨rfl, hb⟩
  replace bw := bw.trans (hb.mono bw.size)
  clear hb bx
  go_wp2
  go_ret
  exact ⟨none, 0, rfl, bd0 _ _, Nat.le_refl _, bw⟩
 | true =>
  have ht := tt_of x ok
  rw [ok] at CK
  have r1 : tTx x = txt x := by unfold tTx; rw [ok]; rfl
  obtain ⟨b, off, rfl, hbl, _⟩ := h.l (by rw [ht.e]; decide)
  have HTI := Hid.mkt h
  have HT := Hid.mkt ht
  obtain ⟨n, hn⟩ : ∃ n, Hid (n = (txt x).length) := ⟨_, rfl⟩
  have hn8 : n ≤ 8192 := by rw [hn.out]; exact ht.h
  obtain ⟨r, hr⟩ : ∃ r : Nat → Nat → Bool, r = fun l i => bitAt (kBX (lw x l)) i := ⟨_, rfl⟩
  have et : Hid (txt x = Tw.tx r n 8) := by
   have eN0 : x.N.toNat = n := by rw [hn.out]; have := ht.n; omega
   show txt x = _
   rw [hr]
   unfold txt
   rw [eN0]
  have CO : Hid (∀ q, q < 8 → ∃ (cs : List Value) (X : List Nat), w.rangeAt b (off + q * 22) cs ∧ (Tryz.prog.info? 45).map (·.size) = some cs.length ∧ (Fit X ∧ chk (n : Int) X = true ∧ ∀ i, bitAt X i = r q i) ∧ ∀ w0, Below w.heap.size w w0 → Calls Tryz.prog 49 #[.agg cs.toArray] w0 fun e w' => ∃ bo bc, e = .returned (.agg #[.int .i64 (n : Int), .slice bo X.length bc]) ∧ Wd w' bo X ∧ Below w0.heap.size w0 w') := fun q hq => by
   obtain ⟨cs, h1, h2, h3⟩ := row_at HTI.out HT.out q hq
   obtain ⟨_, r2, r3, _⟩ := HT.out.r q hq
   rw [← hn.out] at r3
   have e2 := kB_chk _ r2
   rw [r3] at e2
   refine ⟨cs, kBX (lw x q), h1, h3, ⟨h2.fit_t, e2, fun i => by rw [hr]⟩, fun w0 hb => ?_⟩
   have := V.bits cs (lw x q) w0 (h2.keep hb) (HPP.out q (by rw [HT.out.e]; exact hq))
   rw [r3] at this
   refine this.mono ?_
   rintro e w' ⟨bo, bc, rfl, g1, _, g2⟩
   exact ⟨bo, bc, rfl, g1, g2⟩
  have WG : Hid (∀ w0 (q : Nat), q < 8 → Calls Tryz.prog 33 #[.int .i64 q] w0 fun e w' => e = .returned (.int .u8 ((2 ^ (7 - q) : Nat) : Int)) ∧ w' = w0) := fun w0 q hq => wgt_c q hq w0
  have ORD : Hid (∀ q, q < 8 → ∀ g w0, Cel w0 g (bv8 (Tw.tx r n q)) 5 → Calls Tryz.prog 50 #[.slice (some ⟨g, 0, none⟩) n n, .int .i64 (q : Int)] w0 fun e w' => ∃ gp, e = .returned (.slice (some ⟨gp, 0, none⟩) n n) ∧ w0.heap.size ≤ gp ∧ Cel w' gp (iv (plI (Tw.tx r n q) q)) 3 ∧ Below w0.heap.size w0 w') := fun q hq g w0 hc => by
   have := order_c (some ⟨g, 0, none⟩) (Tw.tx r n q) n q w0 (bd_cel hc) (Tw.byt_tx r n q (by omega)) hq (by rw [Tw.length_tx]; exact hn8)
   rw [Tw.length_tx] at this
   exact this
  have eN : x.N = (n : Int) := by rw [hn.out]; exact ht.n
  rw [r1, et.out]
  rw [ht.e, eN] at bx bw CK ⊢
  have eL : Hid ((Tw.tx r n 8).length = n) := Tw.length_tx r n 8
  obtain ⟨n2, hn2⟩ : ∃ n2, Hid (n2 = (Tw.tx r n 8).length) := ⟨_, rfl⟩
  rw [← hn2.out]
  have en2 : n2 = n := by rw [hn2.out]; exact eL.out
  subst en2
  clear h ht r1 ok hr eN et eL hn2
  generalize x.K = K at *
  obtain ⟨i0, hi, hz0, hz1, hz2⟩ := info_parts Tryz.info5
  have nn0 : (0 : Int) ≤ (n2 : Int) := by omega
  go_enter Tryz.func25, Tryz.ntmps25
  go_wp2_with fail
  refine (CK.out _ bw).mono ?_
  rintro e w1 ⟨rfl, hb⟩
  replace bw := bw.trans (hb.mono bw.size)
  replace bx := bx.kept hb
  clear hb CK
  have x1 := bx.cell 1 rfl
  go_wp2_with (at_make; refine wpList_make_full _ rfl _ _ 22 rfl w1.heap.size 5 i0 (.int .u8 0) 1 Tryz.underlying22 hi hz0 hz1 .i64 .i64 _ _ n2 rfl rfl rfl rfl ?b2 ?b3 ?b4 ?_)
  case b2 => rw [hz2]; omega
  case b3 => unfold maxLen; omega
  case b4 => omega
  intro w2 hown hgr
  have c3 := made_one hown
  have b2 : Below w1.heap.size w1 w2 := (Below.refl _ _).grown hgr (Nat.le_refl _) (fun k h => by cases h)
  have l3 : w.heap.size < w1.heap.size := bx.lt
  replace bx := bx.kept b2
  replace bw := bw.trans (b2.mono bw.size)
  have e0 : List.replicate n2 (Value.int .u8 0) = bv8 (Tw.tx r n2 0) := by
   unfold bv8 Tw.tx
   rw [List.map_replicate]
   rfl
  rw [e0] at c3
  clear hown hgr b2 hi hz0 hz1 hz2 x1 e0
  generalize w1.heap.size = g3 at *
  go_wp2
  go_loopw [16] (fun s wr => ∃ q : Nat, q ≤ 8 ∧ s = .int .i64 q ∧ Cel wr w.heap.size [.int .i64 K, .int .i64 (n2 : Int), .slice (some ⟨b, off, none⟩) 8 cap] 26 ∧ Cel wr g3 (bv8 (Tw.tx r n2 q)) 5 ∧ Below w.heap.size w wr) (fun s _ => 8 - (intOf s).toNat)
  case atStart => exact ⟨0, Nat.zero_le _, rfl, bx, c3, bw⟩
  case round =>
   obtain ⟨q, hq, rfl, hx, h3, hw⟩ := hrel
   clear bx c3 bw
   by_cases hi : q < 8
   ·have hi2 : (q : Int) < 8 := by omega
    obtain ⟨cs, X, rg, HL0, hX, BI0⟩ := CO.out q hi
    have HL := Hid.mkt HL0
    have BI := Hid.mkt BI0
    have HX := Hid.mkt hX
    have WQ := Hid.mkt (fun w0 => WG.out w0 q hi)
    have OR := Hid.mkt (ORD.out q hi)
    have rg2 := range_keep rg hw hbl
    have x2 := hx.cell 2 rfl
    clear CO WG ORD HL0 hX BI0 rg
    go_wp2_with (refine load_part b (off + q * 22) cs (by rfl) rfl rg2 Tryz.underlying45 HL.out ?_)
    refine (BI.out _ hw).mono ?_
    rintro e w3 ⟨bo, bc, rfl, wd, hb3⟩
    have l3x := h3.lt
    replace hx := hx.kept hb3
    replace h3 := h3.kept hb3
    replace hw := hw.trans (hb3.mono hw.size)
    clear hb3 rg2 x2 BI
    have c5 := Cel.new w3 [.int .i64 (n2 : Int), .slice bo X.length bc] 33
    have b5 := below_alloc w3 (.cells [.int .i64 (n2 : Int), .slice bo X.length bc].toArray 33)
    have l35 : g3 < w3.heap.size := h3.lt
    replace hx := hx.kept b5
    replace h3 := h3.kept b5
    replace wd := wd.keep b5
    replace hw := hw.trans (b5.mono hw.size)
    clear b5 l3x
    go_wp2_with fail
    refine (OR.out g3 _ h3).mono ?_
    rintro e w4 ⟨gp, rfl, hgp, cp, hb4⟩
    replace hx := hx.kept hb4
    replace h3 := h3.kept hb4
    replace c5 := c5.kept hb4
    replace wd := wd.keep hb4
    replace hw := hw.trans (hb4.mono hw.size)
    have lgp : w3.heap.size < gp := by simp at hgp; omega
    have lg3p : g3 < gp := by omega
    clear hb4 hgp OR
    generalize w3.heap.size = g5 at *
    rw [← Tw.tm_zero] at h3
    go_wp2
    go_loopw [29] (fun s wr => ∃ i : Nat, i ≤ n2 ∧ s = .int .i64 i ∧ Cel wr w.heap.size [.int .i64 K, .int .i64 (n2 : Int), .slice (some ⟨b, off, none⟩) 8 cap] 26 ∧ Cel wr g3 (bv8 (Tw.tm r n2 q i)) 5 ∧ Cel wr g5 [.int .i64 (n2 : Int), .slice bo X.length bc] 33 ∧ Cel wr gp (iv (plI (Tw.tx r n2 q) q)) 3 ∧ Wd wr bo X ∧ Below w.heap.size w wr) (fun s _ => n2 - (intOf s).toNat)
    case atStart => exact ⟨0, Nat.zero_le _, rfl, hx, h3, c5, cp, wd, hw⟩
    case round =>
     rename_i wq
     obtain ⟨i, hin, rfl, jx, j3, j5, jp, jd, jw⟩ := hrel
     clear hx h3 c5 cp wd hw
     by_cases hlt : i < n2
     ·have hlt2 : (i : Int) < (n2 : Int) := by omega
      have hpl := Tw.length_plc (Tw.tx r n2 q) q (by omega) (Tw.byt_tx r n2 q (by omega))
      rw [Tw.length_tx] at hpl
      obtain ⟨y, hy0⟩ : ∃ y, (Tw.plc (Tw.tx r n2 q) q)[i]? = some y := ⟨_, List.getElem?_eq_getElem (by omega)⟩
      obtain ⟨hy, ey⟩ := Tw.tm_gt r n2 q i y hi hy0
      have e1 := cel_iv jp i (by rw [length_plI, hpl]; exact hlt)
      have e1' : gi (plI (Tw.tx r n2 q) q) i = (y : Int) := by
       unfold gi plI
       rw [List.getD_eq_getElem?_getD, List.getElem?_map, hy0]
       rfl
      rw [e1'] at e1
      have GE : Hid (∀ w0, Wd w0 bo X → Calls Tryz.prog 51 #[.agg #[.int .i64 (n2 : Int), .slice bo X.length bc], .int .i64 (i : Int)] w0 fun e w' => e = .returned (.tuple #[.bool (r q i), .int .i64 0]) ∧ Below w0.heap.size w0 w') := fun w0 h => by
       have := get_c (n2 : Int) bo X bc (i : Int) w0 h HX.out.1
       unfold getB getE at this
       rw [HX.out.2.1, Int.toNat_natCast, HX.out.2.2 i, if_neg (by decide), if_neg (by omega), decide_eq_true (by omega)] at this
       simpa using this
      have z0 := j5.cell 0 rfl
      have z1 := j5.cell 1 rfl
      have hyt : gt (Tw.tx r n2 q) y < 256 := Tw.byt_tx r n2 q (by omega) y
      have HS := Tw.tm_set r n2 q i y hi hy0
      have HK := Tw.tm_skip r n2 q i hi
      have H8 := or8 ⟨gt (Tw.tx r n2 q) y, hyt⟩ ⟨q, hi⟩
      dsimp only at H8
      rw [ey] at HS
      clear e1' hpl hy0
      generalize gt (Tw.tx r n2 q) y = C at *
      have hy2 : (y : Int) < (n2 : Int) := by omega
      go_wp2_with fail
      refine (GE.out _ jd).mono ?_
      rintro e w6 ⟨rfl, hb6⟩
      replace jx := jx.kept hb6
      replace j3 := j3.kept hb6
      replace j5 := j5.kept hb6
      replace jp := jp.kept hb6
      replace jd := jd.keep hb6
      replace jw := jw.trans (hb6.mono jw.size)
      clear hb6 z0 z1 e1 GE
      cases hri : r q i with
      | true =>
       have HS := HS hri
       generalize (2 : Nat) ^ (7 - q) = W at *
       have c3' : Cel (w6.drew.setCell ⟨g3, y, none⟩ (.int .u8 ((C ||| W : Nat) : Int))) g3 (bv8 (Tw.tm r n2 q (i + 1))) 5 := by
        have := j3.drew.set y (.int .u8 ((C ||| W : Nat) : Int))
        rw [bv8_set, HS] at this
        exact this
       have o3 : Only g3 w6.drew (w6.drew.setCell ⟨g3, y, none⟩ (.int .u8 ((C ||| W : Nat) : Int))) := (Only.refl _ _).set y _
       have HF := Hid.mkt (And.intro (o3.cel jx.drew (by omega)) (And.intro c3' (And.intro (o3.cel j5.drew (by omega)) (And.intro (o3.cel jp.drew (by omega)) (And.intro (o3.wd (jd.keep (Below.refl _ _).drew) ((jd.keep (Below.refl _ _).drew).apart j3.drew (nou_bv8 _))) (jw.drew.trans (o3.below (by omega))))))))
       have hS : Cel w6.drew g3 (bv8 (Tw.tm r n2 q i)) 5 := j3
       clear c3' o3 HS HK jx j3 j5 jp jd jw hri
       go_wp2
       refine region_g [8] (fun w' => Cel w' g3 (bv8 (Tw.tm r n2 q i)) 5) (by kernel_rfl) ?_
       generalize w6.drew = V at *
       refine AnyG.tk 0 hS ?_
       refine AnyG.tk 1 hS ?_
       refine AnyG.tk 2 hS ?_
       refine AnyG.tf 3 hS rfl (fun w0 h0 => by have c1 := h0.cell y (bv8_get _ y (by rw [Tw.length_tm]; exact hy)); rw [ey] at c1; go_simp; try with_reducible rfl) ?_
       refine AnyG.tk 4 hS ?_
       refine AnyG.o1 5 ?_
       intro K hK
       go_simp
       refine (WQ.out _).mono ?_
       rintro e w9 ⟨rfl, h9⟩
       rw [h9]
       clear h9 w9
       refine hK.out _ _ (fun _ => hS) ?_
       clear hK K
       try simp only [Act.put, yq0, yq1, yq2, yq3, yq4, yq5]
       refine AnyG.tk 6 hS ?_
       refine AnyG.tk 7 hS ?_
       refine AnyG.o1 8 ?_
       intro K hK
       have c1 := hS.cell y (bv8_get _ y (by rw [Tw.length_tm]; exact hy))
       have f1 := hS.frozen y
       go_simp
       refine hK.out _ _ (fun h => absurd (by decide) h) ?_
       clear hK K
       try simp only [Act.put, yq0, yq1, yq2, yq3, yq4, yq5]
       refine AnyG.done (by kernel_rfl) ?_ _
       clear hS c1 f1
       go_wp2
       exact ⟨⟨i + 1, by omega, by go_num, HF.out⟩, by simp only [intOf]; omega⟩
      | false =>
       have HK := HK hri
       rw [HK] at j3
       have HF := Hid.mkt (And.intro jx (And.intro j3 (And.intro j5 (And.intro jp (And.intro jd jw)))))
       clear jx j3 j5 jp jd jw HS H8 HK hri ey
       go_wp2
       exact ⟨⟨i + 1, by omega, by go_num, HF.out⟩, by simp only [intOf]; omega⟩
     ·obtain rfl : i = n2 := by omega
      rw [Tw.tm_all r _ q hi] at j3
      have HF := Hid.mkt (And.intro jx (And.intro j3 jw))
      clear jx j3 j5 jp jd jw
      go_wp2
      exact ⟨⟨q + 1, by omega, by go_num, HF.out⟩, by simp only [intOf]; omega⟩
   ·obtain rfl : q = 8 := by omega
    have HF := Hid.mkt (And.intro (bd_cel h3) hw)
    clear CO WG ORD hx h3 hw
    go_wp2
    go_ret
    exact ⟨_, _, rfl, HF.out.1, Nat.le_refl _, HF.out.2⟩
theorem parts {w : World} {b : Nat} {K : Value} {cp cr cf : List Value} {T : TypeId} (l4 : cp.length = 4) (l9 : 9 = cr.length) (h : Cel w b (K :: (cp ++ (cr ++ cf))) T) : w.cell? ⟨b, 0, none⟩ = some K ∧ w.rangeAt b 1 cp ∧ w.rangeAt b 5 cr ∧ w.rangeAt b 14 cf := by
 have a2 := Cel.part (K :: cp) cr cf h
 rw [List.length_cons, l4] at a2
 have h' : Cel w b ((K :: (cp ++ cr)) ++ (cf ++ [])) T := by simpa using h
 have a3 := Cel.part (K :: (cp ++ cr)) cf [] h'
 rw [List.length_cons, List.length_append, l4, ← l9] at a3
 exact ⟨h.cell 0 rfl, Cel.part [K] cp (cr ++ cf) h, a2, a3⟩
theorem only_c (cs : List Value) (a : RA) (w : World) (h : KArg w cs a) :
  Calls Tryz.prog 62 #[.agg cs.toArray] w fun e w' => e = .returned (.int .i64 (kOn a)) ∧ Below w.heap.size w w' := by
 obtain ⟨cp, cr, cf, rfl, hK, h1, h2, h3⟩ := h
 have l4 := Hid.mk8 h1.four
 have l9 := Hid.mk8 h2.nine
 have LP := Hid.mk8 h1.len
 have LR := Hid.mk8 h2.len
 have LF := Hid.mk8 h3.len
 obtain ⟨K, p, r, f⟩ := a
 dsimp only at *
 obtain ⟨W, hW⟩ : ∃ W, W = w.alloc (.cells (Value.int .i64 K :: (cp ++ (cr ++ cf))).toArray 45) := ⟨_, rfl⟩
 have bw : Below w.heap.size w W := by rw [hW]; exact below_alloc w _
 have B0 := yc1 hW
 obtain ⟨O, hO⟩ : ∃ O, Hid (O = kOn ⟨K, p, r, f⟩) := ⟨_, rfl⟩
 rw [← hO.out]
 have N7 : Hid (∀ w0, Below w.heap.size w w0 → Calls Tryz.prog 114 #[.agg cp.toArray] w0 fun e w' => e = .returned (.bool (z7 p)) ∧ Below w0.heap.size w0 w') := fun w0 g => noPlain_c cp p w0 (h1.keep g)
 have N8 : Hid (∀ w0, Below w.heap.size w w0 → Calls Tryz.prog 115 #[.agg cr.toArray] w0 fun e w' => e = .returned (.bool (z8 r)) ∧ Below w0.heap.size w0 w') := fun w0 g => noRrr_c cr r w0 (h2.keep g)
 have N9 : Hid (∀ w0, Below w.heap.size w w0 → Calls Tryz.prog 116 #[.agg cf.toArray] w0 fun e w' => e = .returned (.bool (z9 f)) ∧ Below w0.heap.size w0 w') := fun w0 g => noFano_c cf f w0 (h3.keep g)
 clear h1 h2 h3
 subst hW
 by_cases q1 : K = 1
 ·subst q1
  cases y8 : z8 r with
  | false =>
   have E : Hid (O = 0) := by
    show O = _
    rw [hO.out]
    unfold kOn kZs
    simp [y8]
   rw [y8] at N8
   clear hO
   go_enter Tryz.func62, Tryz.ntmps62
   obtain ⟨c0, p1, p2, p3⟩ := parts l4.out l9.out B0
   go_wp2_with (refine load_part w.heap.size 5 cr (by rfl) rfl p2 Tryz.underlying41 LR.out ?_)
   refine (N8.out _ bw).mono ?_
   rintro e w8 ⟨rfl, hb⟩
   replace B0 := B0.kept hb
   replace bw := bw.trans (hb.mono bw.size)
   clear hb c0 p1 p2 p3
   obtain ⟨c0, p1, p2, p3⟩ := parts l4.out l9.out B0
   go_wp2
   go_ret
   rw [E.out]
   exact ⟨rfl, bw⟩
  | true =>
   cases y9 : z9 f with
   | false =>
    have E : Hid (O = 0) := by
     show O = _
     rw [hO.out]
     unfold kOn kZs
     simp [y8, y9]
    rw [y8] at N8
    rw [y9] at N9
    clear hO
    go_enter Tryz.func62, Tryz.ntmps62
    obtain ⟨c0, p1, p2, p3⟩ := parts l4.out l9.out B0
    go_wp2_with (refine load_part w.heap.size 5 cr (by rfl) rfl p2 Tryz.underlying41 LR.out ?_)
    refine (N8.out _ bw).mono ?_
    rintro e w8 ⟨rfl, hb⟩
    replace B0 := B0.kept hb
    replace bw := bw.trans (hb.mono bw.size)
    clear hb c0 p1 p2 p3
    obtain ⟨c0, p1, p2, p3⟩ := parts l4.out l9.out B0
    go_wp2_with (refine load_part w.heap.size 14 cf (by rfl) rfl p3 Tryz.underlying43 LF.out ?_)
    refine (N9.out _ bw).mono ?_
    rintro e w9 ⟨rfl, hb⟩
    replace B0 := B0.kept hb
    replace bw := bw.trans (hb.mono bw.size)
    clear hb c0 p1 p2 p3
    obtain ⟨c0, p1, p2, p3⟩ := parts l4.out l9.out B0
    go_wp2
    go_ret
    rw [E.out]
    exact ⟨rfl, bw⟩
   | true =>
    have E : Hid (O = 1) := by
     show O = _
     rw [hO.out]
     unfold kOn kZs
     simp [y8, y9]
    rw [y8] at N8
    rw [y9] at N9
    clear hO
    go_enter Tryz.func62, Tryz.ntmps62
    obtain ⟨c0, p1, p2, p3⟩ := parts l4.out l9.out B0
    go_wp2_with (refine load_part w.heap.size 5 cr (by rfl) rfl p2 Tryz.underlying41 LR.out ?_)
    refine (N8.out _ bw).mono ?_
    rintro e w8 ⟨rfl, hb⟩
    replace B0 := B0.kept hb
    replace bw := bw.trans (hb.mono bw.size)
    clear hb c0 p1 p2 p3
    obtain ⟨c0, p1, p2, p3⟩ := parts l4.out l9.out B0
    go_wp2_with (refine load_part w.heap.size 14 cf (by rfl) rfl p3 Tryz.underlying43 LF.out ?_)
    refine (N9.out _ bw).mono ?_
    rintro e w9 ⟨rfl, hb⟩
    replace B0 := B0.kept hb
    replace bw := bw.trans (hb.mono bw.size)
    clear hb c0 p1 p2 p3
    obtain ⟨c0, p1, p2, p3⟩ := parts l4.out l9.out B0
    go_wp2
    go_ret
    rw [E.out]
    exact ⟨rfl, bw⟩
 have d1 : (K != 1) = true := by simp [q1]
 by_cases q2 : K = 2
 ·subst q2
  cases y7 : z7 p with
  | false =>
   have E : Hid (O = 0) := by
    show O = _
    rw [hO.out]
    unfold kOn kZs
    simp [y7]
   rw [y7] at N7
   clear hO
   go_enter Tryz.func62, Tryz.ntmps62
   obtain ⟨c0, p1, p2, p3⟩ := parts l4.out l9.out B0
   go_wp2_with (refine load_part w.heap.size 1 cp (by rfl) rfl p1 Tryz.underlying37 LP.out ?_)
   refine (N7.out _ bw).mono ?_
   rintro e w7 ⟨rfl, hb⟩
   replace B0 := B0.kept hb
   replace bw := bw.trans (hb.mono bw.size)
   clear hb c0 p1 p2 p3
   obtain ⟨c0, p1, p2, p3⟩ := parts l4.out l9.out B0
   go_wp2
   go_ret
   rw [E.out]
   exact ⟨rfl, bw⟩
  | true =>
   cases y9 : z9 f with
   | false =>
    have E : Hid (O = 0) := by
     show O = _
     rw [hO.out]
     unfold kOn kZs
     simp [y7, y9]
    rw [y7] at N7
    rw [y9] at N9
    clear hO
    go_enter Tryz.func62, Tryz.ntmps62
    obtain ⟨c0, p1, p2, p3⟩ := parts l4.out l9.out B0
    go_wp2_with (refine load_part w.heap.size 1 cp (by rfl) rfl p1 Tryz.underlying37 LP.out ?_)
    refine (N7.out _ bw).mono ?_
    rintro e w7 ⟨rfl, hb⟩
    replace B0 := B0.kept hb
    replace bw := bw.trans (hb.mono bw.size)
    clear hb c0 p1 p2 p3
    obtain ⟨c0, p1, p2, p3⟩ := parts l4.out l9.out B0
    go_wp2_with (refine load_part w.heap.size 14 cf (by rfl) rfl p3 Tryz.underlying43 LF.out ?_)
    refine (N9.out _ bw).mono ?_
    rintro e w9 ⟨rfl, hb⟩
    replace B0 := B0.kept hb
    replace bw := bw.trans (hb.mono bw.size)
    clear hb c0 p1 p2 p3
    obtain ⟨c0, p1, p2, p3⟩ := parts l4.out l9.out B0
    go_wp2
    go_ret
    rw [E.out]
    exact ⟨rfl, bw⟩
   | true =>
    have E : Hid (O = 2) := by
     show O = _
     rw [hO.out]
     unfold kOn kZs
     simp [y7, y9]
    rw [y7] at N7
    rw [y9] at N9
    clear hO
    go_enter Tryz.func62, Tryz.ntmps62
    obtain ⟨c0, p1, p2, p3⟩ := parts l4.out l9.out B0
    go_wp2_with (refine load_part w.heap.size 1 cp (by rfl) rfl p1 Tryz.underlying37 LP.out ?_)
    refine (N7.out _ bw).mono ?_
    rintro e w7 ⟨rfl, hb⟩
    replace B0 := B0.kept hb
    replace bw := bw.trans (hb.mono bw.size)
    clear hb c0 p1 p2 p3
    obtain ⟨c0, p1, p2, p3⟩ := parts l4.out l9.out B0
    go_wp2_with (refine load_part w.heap.size 14 cf (by rfl) rfl p3 Tryz.underlying43 LF.out ?_)
    refine (N9.out _ bw).mono ?_
    rintro e w9 ⟨rfl, hb⟩
    replace B0 := B0.kept hb
    replace bw := bw.trans (hb.mono bw.size)
    clear hb c0 p1 p2 p3
    obtain ⟨c0, p1, p2, p3⟩ := parts l4.out l9.out B0
    go_wp2
    go_ret
    rw [E.out]
    exact ⟨rfl, bw⟩
 have d2 : (K != 2) = true := by simp [q2]
 by_cases q3 : K = 3
 ·subst q3
  cases y7 : z7 p with
  | false =>
   have E : Hid (O = 0) := by
    show O = _
    rw [hO.out]
    unfold kOn kZs
    simp [y7]
   rw [y7] at N7
   clear hO
   go_enter Tryz.func62, Tryz.ntmps62
   obtain ⟨c0, p1, p2, p3⟩ := parts l4.out l9.out B0
   go_wp2_with (refine load_part w.heap.size 1 cp (by rfl) rfl p1 Tryz.underlying37 LP.out ?_)
   refine (N7.out _ bw).mono ?_
   rintro e w7 ⟨rfl, hb⟩
   replace B0 := B0.kept hb
   replace bw := bw.trans (hb.mono bw.size)
   clear hb c0 p1 p2 p3
   obtain ⟨c0, p1, p2, p3⟩ := parts l4.out l9.out B0
   go_wp2
   go_ret
   rw [E.out]
   exact ⟨rfl, bw⟩
  | true =>
   cases y8 : z8 r with
   | false =>
    have E : Hid (O = 0) := by
     show O = _
     rw [hO.out]
     unfold kOn kZs
     simp [y7, y8]
    rw [y7] at N7
    rw [y8] at N8
    clear hO
    go_enter Tryz.func62, Tryz.ntmps62
    obtain ⟨c0, p1, p2, p3⟩ := parts l4.out l9.out B0
    go_wp2_with (refine load_part w.heap.size 1 cp (by rfl) rfl p1 Tryz.underlying37 LP.out ?_)
    refine (N7.out _ bw).mono ?_
    rintro e w7 ⟨rfl, hb⟩
    replace B0 := B0.kept hb
    replace bw := bw.trans (hb.mono bw.size)
    clear hb c0 p1 p2 p3
    obtain ⟨c0, p1, p2, p3⟩ := parts l4.out l9.out B0
    go_wp2_with (refine load_part w.heap.size 5 cr (by rfl) rfl p2 Tryz.underlying41 LR.out ?_)
    refine (N8.out _ bw).mono ?_
    rintro e w8 ⟨rfl, hb⟩
    replace B0 := B0.kept hb
    replace bw := bw.trans (hb.mono bw.size)
    clear hb c0 p1 p2 p3
    obtain ⟨c0, p1, p2, p3⟩ := parts l4.out l9.out B0
    go_wp2
    go_ret
    rw [E.out]
    exact ⟨rfl, bw⟩
   | true =>
    have E : Hid (O = 3) := by
     show O = _
     rw [hO.out]
     unfold kOn kZs
     simp [y7, y8]
    rw [y7] at N7
    rw [y8] at N8
    clear hO
    go_enter Tryz.func62, Tryz.ntmps62
    obtain ⟨c0, p1, p2, p3⟩ := parts l4.out l9.out B0
    go_wp2_with (refine load_part w.heap.size 1 cp (by rfl) rfl p1 Tryz.underlying37 LP.out ?_)
    refine (N7.out _ bw).mono ?_
    rintro e w7 ⟨rfl, hb⟩
    replace B0 := B0.kept hb
    replace bw := bw.trans (hb.mono bw.size)
    clear hb c0 p1 p2 p3
    obtain ⟨c0, p1, p2, p3⟩ := parts l4.out l9.out B0
    go_wp2_with (refine load_part w.heap.size 5 cr (by rfl) rfl p2 Tryz.underlying41 LR.out ?_)
    refine (N8.out _ bw).mono ?_
    rintro e w8 ⟨rfl, hb⟩
    replace B0 := B0.kept hb
    replace bw := bw.trans (hb.mono bw.size)
    clear hb c0 p1 p2 p3
    obtain ⟨c0, p1, p2, p3⟩ := parts l4.out l9.out B0
    go_wp2
    go_ret
    rw [E.out]
    exact ⟨rfl, bw⟩
 have d3 : (K != 3) = true := by simp [q3]
 cases y7 : z7 p with
 | false =>
  have E : Hid (O = 0) := by
   show O = _
   rw [hO.out]
   unfold kOn kZs
   simp [q1, q2, q3, y7]
  rw [y7] at N7
  clear hO
  go_enter Tryz.func62, Tryz.ntmps62
  obtain ⟨c0, p1, p2, p3⟩ := parts l4.out l9.out B0
  go_wp2_with (refine load_part w.heap.size 1 cp (by rfl) rfl p1 Tryz.underlying37 LP.out ?_)
  refine (N7.out _ bw).mono ?_
  rintro e w7 ⟨rfl, hb⟩
  replace B0 := B0.kept hb
  replace bw := bw.trans (hb.mono bw.size)
  clear hb c0 p1 p2 p3
  obtain ⟨c0, p1, p2, p3⟩ := parts l4.out l9.out B0
  go_wp2
  go_ret
  rw [E.out]
  exact ⟨rfl, bw⟩
 | true =>
  cases y8 : z8 r with
  | false =>
   have E : Hid (O = 0) := by
    show O = _
    rw [hO.out]
    unfold kOn kZs
    simp [q1, q2, q3, y7, y8]
   rw [y7] at N7
   rw [y8] at N8
   clear hO
   go_enter Tryz.func62, Tryz.ntmps62
   obtain ⟨c0, p1, p2, p3⟩ := parts l4.out l9.out B0
   go_wp2_with (refine load_part w.heap.size 1 cp (by rfl) rfl p1 Tryz.underlying37 LP.out ?_)
   refine (N7.out _ bw).mono ?_
   rintro e w7 ⟨rfl, hb⟩
   replace B0 := B0.kept hb
   replace bw := bw.trans (hb.mono bw.size)
   clear hb c0 p1 p2 p3
   obtain ⟨c0, p1, p2, p3⟩ := parts l4.out l9.out B0
   go_wp2_with (refine load_part w.heap.size 5 cr (by rfl) rfl p2 Tryz.underlying41 LR.out ?_)
   refine (N8.out _ bw).mono ?_
   rintro e w8 ⟨rfl, hb⟩
   replace B0 := B0.kept hb
   replace bw := bw.trans (hb.mono bw.size)
   clear hb c0 p1 p2 p3
   obtain ⟨c0, p1, p2, p3⟩ := parts l4.out l9.out B0
   go_wp2
   go_ret
   rw [E.out]
   exact ⟨rfl, bw⟩
  | true =>
   cases y9 : z9 f with
   | false =>
    have E : Hid (O = 0) := by
     show O = _
     rw [hO.out]
     unfold kOn kZs
     simp [q1, q2, q3, y7, y8, y9]
    rw [y7] at N7
    rw [y8] at N8
    rw [y9] at N9
    clear hO
    go_enter Tryz.func62, Tryz.ntmps62
    obtain ⟨c0, p1, p2, p3⟩ := parts l4.out l9.out B0
    go_wp2_with (refine load_part w.heap.size 1 cp (by rfl) rfl p1 Tryz.underlying37 LP.out ?_)
    refine (N7.out _ bw).mono ?_
    rintro e w7 ⟨rfl, hb⟩
    replace B0 := B0.kept hb
    replace bw := bw.trans (hb.mono bw.size)
    clear hb c0 p1 p2 p3
    obtain ⟨c0, p1, p2, p3⟩ := parts l4.out l9.out B0
    go_wp2_with (refine load_part w.heap.size 5 cr (by rfl) rfl p2 Tryz.underlying41 LR.out ?_)
    refine (N8.out _ bw).mono ?_
    rintro e w8 ⟨rfl, hb⟩
    replace B0 := B0.kept hb
    replace bw := bw.trans (hb.mono bw.size)
    clear hb c0 p1 p2 p3
    obtain ⟨c0, p1, p2, p3⟩ := parts l4.out l9.out B0
    go_wp2_with (refine load_part w.heap.size 14 cf (by rfl) rfl p3 Tryz.underlying43 LF.out ?_)
    refine (N9.out _ bw).mono ?_
    rintro e w9 ⟨rfl, hb⟩
    replace B0 := B0.kept hb
    replace bw := bw.trans (hb.mono bw.size)
    clear hb c0 p1 p2 p3
    obtain ⟨c0, p1, p2, p3⟩ := parts l4.out l9.out B0
    go_wp2
    go_ret
    rw [E.out]
    exact ⟨rfl, bw⟩
   | true =>
    have E : Hid (O = K) := by
     show O = _
     rw [hO.out]
     unfold kOn kZs
     simp [q1, q2, q3, y7, y8, y9]
    rw [y7] at N7
    rw [y8] at N8
    rw [y9] at N9
    clear hO
    go_enter Tryz.func62, Tryz.ntmps62
    obtain ⟨c0, p1, p2, p3⟩ := parts l4.out l9.out B0
    go_wp2_with (refine load_part w.heap.size 1 cp (by rfl) rfl p1 Tryz.underlying37 LP.out ?_)
    refine (N7.out _ bw).mono ?_
    rintro e w7 ⟨rfl, hb⟩
    replace B0 := B0.kept hb
    replace bw := bw.trans (hb.mono bw.size)
    clear hb c0 p1 p2 p3
    obtain ⟨c0, p1, p2, p3⟩ := parts l4.out l9.out B0
    go_wp2_with (refine load_part w.heap.size 5 cr (by rfl) rfl p2 Tryz.underlying41 LR.out ?_)
    refine (N8.out _ bw).mono ?_
    rintro e w8 ⟨rfl, hb⟩
    replace B0 := B0.kept hb
    replace bw := bw.trans (hb.mono bw.size)
    clear hb c0 p1 p2 p3
    obtain ⟨c0, p1, p2, p3⟩ := parts l4.out l9.out B0
    go_wp2_with (refine load_part w.heap.size 14 cf (by rfl) rfl p3 Tryz.underlying43 LF.out ?_)
    refine (N9.out _ bw).mono ?_
    rintro e w9 ⟨rfl, hb⟩
    replace B0 := B0.kept hb
    replace bw := bw.trans (hb.mono bw.size)
    clear hb c0 p1 p2 p3
    obtain ⟨c0, p1, p2, p3⟩ := parts l4.out l9.out B0
    go_wp2
    go_ret
    rw [E.out]
    exact ⟨rfl, bw⟩
theorem info52 : (Tryz.prog.info? 110).map (fun i => (i.zero, i.size, i.bytes)) = some (some (.int .u64 0), 1, 8) := by kernel_rfl
def pwv (ys : List Nat) : List Value := ys.map fun y : Nat => Value.int .u64 (y : Int)
theorem length_pwv (ys : List Nat) : (pwv ys).length = ys.length := by simp [pwv]
theorem pwv_get (l : List Nat) (i : Nat) (h : i < l.length) : (pwv l)[i]? = some (.int .u64 (gt l i)) := by
 unfold pwv
 rw [List.getElem?_map, gt_get l i h]; rfl
theorem wd_own {w : World} {base n c : Nat} {ao : Option Addr} {l : List Nat} (h : w.ownsRow base 110 1 (.slice ao n c) n (pwv l)) : Wd w ao l := by
 intro h0
 have hlen : (pwv l).length = n * 1 := h.1
 rw [length_pwv] at hlen
 have hk := fun k hk => h.lt k hk
 have hc := fun g hg => h.cells (g := g) hg
 obtain ⟨_, ⟨e, e2⟩ | ⟨g, cap, cur, e, _⟩⟩ := h
 ·omega
 ·simp only [Value.slice.injEq] at e
  obtain ⟨rfl, _, rfl⟩ := e
  refine ⟨g, 0, rfl, (hk g rfl).2, fun i hi => ?_⟩
  rw [← hc g rfl i _ (pwv_get l i hi)]
  unfold Addr.add
  split
  ·subst_vars; rfl
  ·simp
theorem eq_nil (a : Option Addr) (l c : Nat) (w : World) : (binOp .eql 31 (.slice a l c) (.slice none 0 0)).run Tryz.prog w = .ok (.bool a.isNone) w := by
 simp only [binOp]
 simp [run_equal_slice_nil w 31 110 a l c Tryz.underlying31]
theorem clone_c (ao : Option Addr) (xs : List Nat) (cap : Nat) (w : World) (hx : Wd w ao xs) (hl : xs.length ≤ 1048576) :
  Calls Tryz.prog 152 #[.slice ao xs.length cap] w fun e w' => ∃ bo bc, e = .returned (.slice bo xs.length bc) ∧ Wd w' bo xs ∧ xs.length ≤ bc ∧ Below w.heap.size w w' := by
 cases ao with
 | none =>
  have h0 : xs = [] := by
   cases xs with
   | nil => rfl
   | cons a t =>
    obtain ⟨b, off, e, _⟩ := hx (by simp)
    cases e
  subst h0
  have hq := eq_nil none 0 cap
  have hq2 : (none : Option Addr).isNone = true := rfl
  go_enter Tryz.func152, Tryz.ntmps152
  go_wp2
  go_ret
  exact ⟨none, 0, rfl, wd0' _ _, Nat.le_refl _, Below.refl _ _⟩
 | some a =>
  obtain ⟨i0, hi, hz0, hz1, hz2⟩ := info_parts info52
  have hq := eq_nil (some a) xs.length cap
  have hq2 : (some a).isNone = false := rfl
  go_enter Tryz.func152, Tryz.ntmps152
  go_wp2_with (at_builtin; refine Ap.wpList_append_u (by rfl) _ _ _ (by rfl) w.heap.size 110 i0 (.int .u64 0) 8 Tryz.underlying31 hi hz0 hz1 hz2 rfl (.slice (some ⟨w.heap.size, 0, none⟩) 0 0) 0 [] (by rfl) ?c0 (some a) xs.length cap (pwv xs) (by rfl) (length_pwv xs) ?c1 ?c2 ?c3 ?c4 ?c5 ?_)
  case c0 =>
   exact ⟨rfl, .inr ⟨w.heap.size, 0, #[], rfl, Nat.le_refl _, Cel.new w [] 110, Nat.le_refl _, by simp⟩⟩
  case c1 =>
   intro h0
   refine ⟨a, rfl, fun j u hj => ?_⟩
   obtain ⟨b, off, e, hlt, hc⟩ := hx h0
   obtain rfl := Option.some.inj e
   have hjl : j < xs.length := by
    have := (List.getElem?_eq_some_iff.1 hj).1
    rw [length_pwv] at this
    exact this
   rw [pwv_get xs j hjl] at hj
   obtain rfl := Option.some.inj hj
   rw [show (Addr.add ⟨b, off, none⟩ j) = ⟨b, off + j, none⟩ by unfold Addr.add; split <;> (try subst_vars) <;> rfl]
   rw [(below_alloc w _).cell (p := ⟨b, off + j, none⟩) hlt]
   exact hc j hjl
  case c2 => intro u hu; obtain ⟨y, _, rfl⟩ := List.mem_map.1 hu; rfl
  case c3 => unfold maxLen; omega
  case c4 => omega
  case c5 => simp
  intro bo bc w1 hown hle hb
  have hB : Below w.heap.size w w1 := (below_alloc w _).trans hb
  have hW := wd_own hown
  have HF : Hid (Wd w1 bo xs ∧ xs.length ≤ bc ∧ Below w.heap.size w w1) := ⟨hW, hle, hB⟩
  clear hown hb hW hB hx hq hi hz0 hz1 hz2
  go_wp2
  go_ret
  exact ⟨bo, bc, rfl, HF.out⟩
theorem search_c (n : Nat) (hn : n ≤ 1048576) (c1 c2 c3 : Addr) (p : Nat → Bool) (w : World)
  (hf : Hid (∀ (i : Nat) w0, i < n → Below w.heap.size w w0 → Calls Tryz.prog 182 #[.int .i64 i, .pointer (some c1), .pointer (some c2), .pointer (some c3)] w0 fun e w' => e = .returned (.bool (p i)) ∧ Below w0.heap.size w0 w')) (hp : Hid (∀ i j, i ≤ j → p i = true → p j = true)) :
  Calls Tryz.prog 181 #[.int .i64 n, .func (.func 182) #[] #[.pointer (some c1), .pointer (some c2), .pointer (some c3)]] w fun e w' => ∃ j : Nat, e = .returned (.int .i64 j) ∧ j ≤ n ∧ (∀ i, i < j → p i = false) ∧ (∀ i, j ≤ i → i < n → p i = true) ∧ Below w.heap.size w w' := by
 go_enter Tryz.func181, Tryz.ntmps181
 go_wp2
 go_loopw [5, 6] (fun s t wr => ∃ i j : Nat, i ≤ j ∧ j ≤ n ∧ s = .int .i64 i ∧ t = .int .i64 j ∧ Hid (∀ q, q < i → p q = false) ∧ Hid (∀ q, j ≤ q → q < n → p q = true) ∧ Below w.heap.size w wr) (fun s t _ => (intOf t).toNat - (intOf s).toNat)
 case atStart => exact ⟨0, n, by omega, by omega, rfl, rfl, fun q hq => absurd hq (by omega), fun q h1 h2 => absurd h1 (by omega), Below.refl _ _⟩
 case round =>
  obtain ⟨i, j, hij, hj, rfl, rfl, H1, H2, hw⟩ := hrel
  by_cases hlt : i < j
  ·have hlt2 : (i : Int) < (j : Int) := by omega
   have hm : (((i + j) / 2 : Nat) : Int) = ((i : Int) + (j : Int)) / 2 := by omega
   have C : Hid (Calls Tryz.prog 182 #[.int .i64 (((i : Int) + (j : Int)) / 2), .pointer (some c1), .pointer (some c2), .pointer (some c3)] wr fun e w' => e = .returned (.bool (p ((i + j) / 2))) ∧ Below wr.heap.size wr w') := by
    have := hf.out ((i + j) / 2) wr (by omega) hw
    rw [hm] at this
    exact this
   have mu : IntKind.i64.wrap (((i : Int) + (j : Int)) / 2 + 1) = ((i : Int) + (j : Int)) / 2 + 1 := by rw [IntKind.wrap_i64]; omega
   clear hf
   go_wp2_with fail
   refine C.out.mono ?_
   rintro e w1 ⟨rfl, hb⟩
   have hw1 := hw.trans (hb.mono hw.size)
   clear hb C
   cases hq : p ((i + j) / 2) with
   | true =>
    go_wp2
    refine ⟨⟨i, (i + j) / 2, by omega, by omega, rfl, by rw [hm], H1, ?_, hw1⟩, by simp only [intOf]; omega⟩
    intro q h1 h2
    exact hp.out _ _ h1 hq
   | false =>
    go_wp2
    refine ⟨⟨(i + j) / 2 + 1, j, by omega, by omega, by rw [← hm]; rfl, rfl, ?_, H2, hw1⟩, by simp only [intOf]; omega⟩
    intro q h1
    cases hq2 : p q with
    | false => rfl
    | true =>
     have := hp.out q ((i + j) / 2) (by omega) hq2
     rw [hq] at this
     exact this.symm
  ·have hlt2 : ¬ (i : Int) < (j : Int) := by omega
   go_wp2
   go_ret
   exact ⟨i, rfl, by omega, H1.out, fun q h1 h2 => H2.out q (by omega) h2, hw⟩
def COut (N : Int) (xs : List Nat) (w : World) (e : Ending) (w' : World) : Prop := ∃ bo bc, e = .returned (.agg #[.int .i64 N, .slice bo xs.length bc]) ∧ Wd w' bo xs ∧ xs.length ≤ bc ∧ Below w.heap.size w w'
theorem pcopied_c (N : Int) (ao : Option Addr) (xs : List Nat) (cap : Nat) (w : World) (hx : Wd w ao xs) (hl : xs.length ≤ 1048576) :
  Calls Tryz.prog 93 #[.agg #[.int .i64 N, .slice ao xs.length cap]] w (COut N xs w) := by
 go_enter Tryz.func93, Tryz.ntmps93
 go_wp2
 obtain ⟨W, hW⟩ : ∃ W, W = (w.alloc (.cells #[.int .i64 N, .slice ao xs.length cap] 33)).alloc (.cells #[.int .i64 0, .slice none 0 0] 33) := ⟨_, rfl⟩
 have bW := yb2 hW
 have B1 := yc3 hW
 have B2 := yc2 hW
 rw [← hW]
 clear hW
 refine region_g [6] (fun w' => Cel w' w.heap.size [.int .i64 N, .slice ao xs.length cap] 33 ∧ Cel w' (w.heap.size + 1) [.int .i64 0, .slice none 0 0] 33) (by kernel_rfl) ?_
 have hS : Cel W.drew w.heap.size [.int .i64 N, .slice ao xs.length cap] 33 ∧ Cel W.drew (w.heap.size + 1) [.int .i64 0, .slice none 0 0] 33 := ⟨B1, B2⟩
 have bW2 : Below w.heap.size w W.drew := bW.drew
 generalize W.drew = V at *
 clear B1 B2 bW
 refine AnyG.tk 0 hS ?_
 refine AnyG.tf 1 hS rfl (fun w0 h0 => by have c0 := h0.1.cell 0 rfl; go_simp; try with_reducible rfl) ?_
 refine AnyG.tk 2 hS ?_
 refine AnyG.tf 3 hS rfl (fun w0 h0 => by have c1 := h0.1.cell 1 rfl; go_simp; try with_reducible rfl) ?_
 refine AnyG.o1 4 ?_
 intro K hK
 go_simp
 refine (clone_c _ _ _ _ (hx.keep bW2) hl).mono ?_
 rintro e w2 ⟨bo, bc, rfl, hO, hle, hb⟩
 have hS2 := And.intro (hS.1.kept hb) (hS.2.kept hb)
 have bw2 := bW2.trans (hb.mono bW2.size)
 refine hK.out _ _ (fun _ => hS2) ?_
 clear hK K
 try simp only [Act.put, yq3, yq4, yq5]
 refine AnyG.tk 5 hS2 ?_
 refine AnyG.o1 6 ?_
 intro K hK
 have x0 := hS2.2.cell 0 rfl
 have x1 := hS2.2.cell 1 rfl
 have f0 := hS2.2.frozen 0
 have f1 := hS2.2.frozen 1
 go_simp
 refine hK.out _ _ (fun h => absurd (by decide) h) ?_
 clear hK K
 try simp only [Act.put, yq3, yq4, yq5]
 refine AnyG.done (by kernel_rfl) ?_ _
 have hC := (hS2.2.set 0 (.int .i64 N)).set 1 (.slice bo xs.length bc)
 have oW : Only (w.heap.size + 1) w2 ((w2.setCell ⟨w.heap.size + 1, 0, none⟩ (.int .i64 N)).setCell ⟨w.heap.size + 1, 1, none⟩ (.slice bo xs.length bc)) := ((Only.refl _ _).set 0 _).set 1 _
 have hW2 := oW.wd hO (hO.apart hS2.2 (by intro v hv n; simp at hv; rcases hv with rfl | rfl <;> simp))
 have HF : Hid (Wd ((w2.setCell ⟨w.heap.size + 1, 0, none⟩ (.int .i64 N)).setCell ⟨w.heap.size + 1, 1, none⟩ (.slice bo xs.length bc)) bo xs ∧ xs.length ≤ bc ∧ Below w.heap.size w ((w2.setCell ⟨w.heap.size + 1, 0, none⟩ (.int .i64 N)).setCell ⟨w.heap.size + 1, 1, none⟩ (.slice bo xs.length bc))) := ⟨hW2, hle, bw2.trans (oW.below (Nat.le_succ _))⟩
 have k0 := hC.cell 0 rfl
 have k1 := hC.cell 1 rfl
 clear hW2 oW hC hO hle bw2 hS2 hS hb bW2 x0 x1 f0 f1
 go_wp2
 exact bodyPost_ret (v := .agg #[.int .i64 N, .slice bo xs.length bc]) (by simp [results, Tryz.results93, go_sem, k0, k1]) rfl ⟨bo, bc, rfl, HF.out⟩
end Go.Proofs.YtfnkklkdajlhlaaGreatDoor
