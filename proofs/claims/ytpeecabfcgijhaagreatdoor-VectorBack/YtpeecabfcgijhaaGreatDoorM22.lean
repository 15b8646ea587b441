/-
  The contract of the program's Check.
-/
import Derived.Test.YtpeecabfcgijhaaGreatDoorM21
namespace Go.Proofs.YtpeecabfcgijhaaGreatDoor
open Go.RowKit Num Bit Bn
set_option linter.unusedVariables false
set_option linter.unusedSimpArgs false
set_option maxRecDepth 100000

theorem ok_ck (a : RA8) (h : kOk8 a = true) : ∃ m, CK a m := by
 obtain ⟨m, h1, h2, h3, h4, e⟩ := ok_kb a h
 have := kb_ck m (kBX8 a) h2 h4
 rw [← e] at this
 exact ⟨m, this⟩
theorem bool_false {b : Bool} (h : b = true → False) : b = false := by
 cases b with
 | false => rfl
 | true => exact absurd rfl (fun e => h e)
theorem ck_fit (a : RA8) (m : Nat) (h : CK a m) : fitB a = true := by
 unfold fitB
 refine decide_eq_true ?_
 rw [h.nN, Int.toNat_natCast]
 exact ⟨⟨by omega, by have := h.le; omega⟩, h.ic, h.oc, h.nV, h.nk, h.sl, h.tl⟩
theorem fit_bad (a : RA8) (h : fitB a = false) : kOk8 a = false := bool_false fun hk => by
 obtain ⟨m, c⟩ := ok_ck a hk
 rw [ck_fit a m c] at h
 cases h
theorem fit_out (a : RA8) (h : fitB a = true) : ∃ m : Nat, a.N = m ∧ m ≤ 1048576 ∧ ichk a.k a.V a.M a.xs = true ∧ chk a.L a.ys = true ∧ a.V = 4 ∧ a.k = (nb m : Int) ∧ a.S.length = gN m ∧ a.T.length = gN m := by
 obtain ⟨h1, h2, h3, h4, h5, h6, h7⟩ := of_decide_eq_true h
 obtain ⟨m, e⟩ := Int.eq_ofNat_of_zero_le h1.1
 rw [e, Int.toNat_natCast] at h5 h6 h7
 exact ⟨m, e, by omega, h2, h3, h4, h5, h6, h7⟩
theorem ck_is (a : RA8) (m : Nat) (hN : a.N = m) (h : kOk8 a = true) : CK a m := by
 obtain ⟨m', c⟩ := ok_ck a h
 have := c.nN
 obtain rfl : m = m' := by omega
 exact c
theorem last_iff (c o r : Nat) (ho : o < ch 15 c) : (cnt (blk 15 c o % 2 ^ r) 15 = c ∧ off (blk 15 c o % 2 ^ r) 15 = o) ↔ blk 15 c o < 2 ^ r := by
 have hb := blk_lt 15 c o
 have hm := Nat.mod_le (blk 15 c o) (2 ^ r)
 have P := Nat.two_pow_pos r
 constructor
 ·rintro ⟨h1, h2⟩
  have := blk_off (blk 15 c o % 2 ^ r) 15
  rw [h1, h2, Nat.mod_eq_of_lt (show blk 15 c o % 2 ^ r < 2 ^ 15 by omega)] at this
  rw [this]
  exact Nat.mod_lt _ P
 ·intro h
  rw [Nat.mod_eq_of_lt h]
  exact blk_in 15 c o ho
def lstK (xs : List Nat) : Nat → Nat
 | 0 => 0
 | i + 1 => cls xs i
def lstO (L : Int) (ys xs : List Nat) : Nat → Nat
 | 0 => 0
 | i + 1 => cOff L ys xs i
structure CInv (cs : List Value) (a : RA8) (w0 : World) (gx gl i : Nat) (w : World) : Prop where
 below : Below w0.heap.size w0 w
 x : Cel w gx cs 33
 last : Cel w gl [.int .i64 (lstK a.xs i : Nat), .int .u64 (lstO a.L a.ys a.xs i : Nat)] 120
 right : ∀ j, j < i → cSE a.L a.ys a.xs j = 0 ∧ Rgt a j
theorem CInv.keep {cs : List Value} {a : RA8} {w0 : World} {gx gl i hi : Nat} {w w' : World} (h : CInv cs a w0 gx gl i w) (h0 : w0.heap.size ≤ hi) (h1 : gx < hi) (h3 : gl < hi) (hb : Below hi w w') : CInv cs a w0 gx gl i w' :=
 ⟨h.below.trans (hb.mono h0), h.x.keep hb h1, h.last.keep hb h3, h.right⟩
set_option maxHeartbeats 16000000 in
theorem qcheck_c (cs : List Value) (a : RA8) (w : World) (h : KI8 w cs a) :
  Calls Tryz.prog 59 #[.agg cs.toArray] w fun e w' => e = .returned (.bool (kOk8 a)) ∧ Below w.heap.size w w' := by
 obtain ⟨B, hB⟩ : ∃ B, Hid (B = kOk8 a) := ⟨_, rfl⟩
 rw [← hB.out]
 have HF : Hid (∀ w0, Below w.heap.size w w0 → Calls Tryz.prog 108 #[.agg cs.toArray] w0 fun e w' => e = .returned (.bool (fitB a)) ∧ Below w0.heap.size w0 w') := fun w0 hb => qfits_c cs a w0 (h.keep hb)
 have hmf : ∀ (fn : Fn) (first cap : Array Value) (w : World), (Instr.makeFunc fn first cap).run Tryz.prog w = .ok (.func fn first cap) w := fun _ _ _ _ => rfl
 cases hf : fitB a with
 | false =>
  obtain rfl : B = false := by rw [hB.out]; exact fit_bad a hf
  rw [hf] at HF
  obtain ⟨⟨ao, cap, qo, dap, so, sc, tO, tc, rfl, _⟩, _⟩ := h
  obtain ⟨N, k, V, M, xs, L, ys, S, T⟩ := a
  dsimp only at *
  obtain ⟨W, hW⟩ : ∃ W, W = w.alloc (.cells #[.int .i64 N, .int .i64 k, .int .i64 V, .int .i64 M, .slice ao xs.length cap, .int .i64 L, .slice qo ys.length dap, .slice so S.length sc, .slice tO T.length tc] 33) := ⟨_, rfl⟩
  have bW : Below w.heap.size w W := by rw [hW]; exact below_alloc w _
  clear hf hB
  go_enter Tryz.func59, Tryz.ntmps59
  go_wp2_with fail
  rw [← hW]
  refine (HF.out _ bW).mono ?_
  rintro e w1 ⟨rfl, hb⟩
  have bw1 := bW.trans (hb.mono bW.size)
  clear hW hb
  go_wp2
  go_ret
  exact ⟨rfl, bw1⟩
 | true =>
 rw [hf] at HF
 obtain ⟨m, e1, hm, ic, oc, e2, e3, sl, tl⟩ := fit_out a hf
 have hCK : Hid (B = true → CK a m) := fun hk => ck_is a m e1 (by rw [← hB.out]; exact hk)
 have hg : 0 < gN m := by unfold gN; omega
 have HM : Hid (∀ w0, Below w.heap.size w w0 → Calls Tryz.prog 109 #[.agg cs.toArray, .int .i64 0] w0 fun e w' => e = .returned (.agg #[.int .i64 (gi a.S 0), .int .i64 (gi a.T 0)]) ∧ Below w0.heap.size w0 w') := fun w0 hb => qmarkOf_c cs a 0 w0 (h.keep hb) (by omega) (by omega)
 have HB : Hid (∀ m', CK a m' → B = true) := fun m' c => by
  rw [hB.out]
  obtain ⟨⟨ao, cap, qo, dap, so, sc, tO, tc, _, _, _, f1, _, _, f2, _⟩, _⟩ := h
  exact ck_ok a m' f1 f2 c
 have nbl := nb_le m hm
 have HA : Hid (∀ (gx gl : Nat) w1, gi a.S 0 = 0 → gi a.T 0 = 0 → CInv cs a w gx gl 0 w1 → w.heap.size ≤ gl → gl ≠ gx → gx < w1.heap.size → gl < w1.heap.size →
   Calls Tryz.prog 110 #[.agg cs.toArray, .int .i64 0, .func (.func 111) #[] #[.pointer (some ⟨gl, 0, none⟩), .pointer (some ⟨gx, 0, none⟩)]] w1 fun e w' => ∃ (q : Nat) (b : Bool), e = .returned (.tuple #[.agg #[.int .i64 (cOn a.xs q : Nat), .int .i64 (cAt a.xs q : Nat)], .bool b]) ∧ q ≤ nb m ∧ (b = true → q = nb m ∧ CInv cs a w gx gl (nb m) w') ∧ (b = false → B = false) ∧ Fr8 w.heap.size w1.heap.size w1 w') := by
  intro gx gl w1 s0 t0 hI l1 l2 l4 l6
  refine (qalong_c cs a 0 (nb m) w.heap.size w1.heap.size 111 #[.pointer (some ⟨gl, 0, none⟩), .pointer (some ⟨gx, 0, none⟩)] (fun i w2 => CInv cs a w gx gl i w2) (fun i _ => ¬ Rgt a i) w1 e3 e2 ic (by omega) (by omega) (by omega) s0 t0 hI.below.size (Nat.le_refl _) hI (fun i w2 hi => h.keep hi.below) (fun i w2 w3 hi hb => hi.keep hI.below.size l4 l6 hb) (fun i _ _ hi _ => hi) ?cf ?st).mono ?_
  case cf =>
   intro args w2
   kernel_rfl
  case st =>
   intro i w2 _ hin hse hi2 hw2
   have i8 : i / 8 < gN m := by unfold gN; omega
   refine (qcheck1_c cs a i gl gx w.heap.size w1.heap.size _ w w2 h hi2.below rfl (by omega) (by omega) (by omega) hi2.last rfl hi2.x l2 l1 l6 hw2).mono ?_
   rintro e w3 ⟨rfl, c1, c2, c3, fr⟩
   refine ⟨_, rfl, fun hr => ?_, fun hr => by have h := of_decide_eq_false hr; exact h, fr⟩
   have hr := of_decide_eq_true hr
   refine ⟨hi2.below.trans fr.below, c3, c1, fun j hj => ?_⟩
   by_cases c : j = i
   ·subst c; exact ⟨hse, hr⟩
   ·exact hi2.right j (by omega)
  ·rintro e w2 ⟨q, b, rfl, _, hq, h1, h2, fr⟩
   refine ⟨q, b, rfl, hq, h1, fun hb => ?_, fr⟩
   obtain ⟨hlt, h3⟩ := h2 hb
   refine bool_false fun hk => ?_
   have ck := hCK.out hk
   have ea := ck.each q hlt
   rcases h3 with ⟨h3, _⟩ | ⟨_, h3⟩
   ·exact h3 ea.1
   ·exact h3 ea.2
 have HLa : Hid (∀ gx gl w', CInv cs a w gx gl (nb m) w' → lstO a.L a.ys a.xs (nb m) < ch 15 (lstK a.xs (nb m))) := by
  intro gx gl w' hI
  by_cases c : nb m = 0
  ·rw [c]; show 0 < ch 15 0; rw [ch_zero]; decide
  ·obtain ⟨j, hj⟩ : ∃ j, nb m = j + 1 := ⟨nb m - 1, by omega⟩
   rw [hj]
   exact (hI.right j (by omega)).2.1
 have HK1 : Hid (∀ gx gl w', CInv cs a w gx gl (nb m) w' → gi a.S 0 = 0 → gi a.T 0 = 0 → (cAt a.xs (nb m) : Int) = a.L → (B = true ↔ blk 15 (lstK a.xs (nb m)) (lstO a.L a.ys a.xs (nb m)) < 2 ^ (15 + m - 15 * nb m))) := by
  intro gx gl w' hI s0 t0 he
  by_cases c : nb m = 0
  ·rw [c]
   refine ⟨fun _ => ?_, fun _ => HB.out m ⟨e1, hm, e3, e2, ic, oc, sl, tl, s0, t0, fun i hi => by omega, he, fun h0 => by omega⟩⟩
   show blk 15 0 0 < _
   rw [blk_zero]
   exact Nat.two_pow_pos _
  ·obtain ⟨j, hj⟩ : ∃ j, nb m = j + 1 := ⟨nb m - 1, by omega⟩
   have ex : 15 + m - 15 * nb m = m - 15 * (nb m - 1) := by omega
   have el : blk 15 (lstK a.xs (nb m)) (lstO a.L a.ys a.xs (nb m)) = cWd a.L a.ys a.xs (nb m - 1) := by rw [hj]; rfl
   rw [ex, el]
   refine ⟨fun hk => (hCK.out hk).last (by omega), fun hl => HB.out m ⟨e1, hm, e3, e2, ic, oc, sl, tl, s0, t0, fun i hi => ?_, he, fun _ => hl⟩⟩
   obtain ⟨r1, r2, r3⟩ := hI.right i hi
   exact ⟨r1, r2, r3⟩
 have lkb : lstK a.xs (nb m) ≤ 15 := by
  cases nb m with
  | zero => exact Nat.zero_le _
  | succ j => exact cls_le _ _
 have rb : 15 + m - 15 * nb m ≤ 15 := by unfold nb; omega
 have rb2 : ((15 + m - 15 * nb m : Nat) : Int) = (m : Int) - 15 * ((nb m : Int) - 1) := by unfold nb; omega
 obtain ⟨⟨ao, cap, qo, dap, so, sc, tO, tc, rfl, ⟨_, _, _, _, hL64, _, _⟩, _⟩, _⟩ := h
 obtain ⟨N, k, V, M, xs, L, ys, S, T⟩ := a
 dsimp only at *
 subst e1 e2 e3
 obtain ⟨W, hW⟩ : ∃ W, W = w.alloc (.cells #[.int .i64 (m : Int), .int .i64 (nb m : Nat), .int .i64 4, .int .i64 M, .slice ao xs.length cap, .int .i64 L, .slice qo ys.length dap, .slice so S.length sc, .slice tO T.length tc] 33) := ⟨_, rfl⟩
 have bW : Below w.heap.size w W := by rw [hW]; exact below_alloc w _
 have B1 : Cel W w.heap.size [.int .i64 (m : Int), .int .i64 (nb m : Nat), .int .i64 4, .int .i64 M, .slice ao xs.length cap, .int .i64 L, .slice qo ys.length dap, .slice so S.length sc, .slice tO T.length tc] 33 := by rw [hW]; exact Cel.new w _ _
 clear hf hB HB sl tl
 have HC0 : Hid (gi S 0 ≠ 0 ∨ gi T 0 ≠ 0 → B = false) := fun hn => bool_false fun hk => by
  have ck := hCK.out hk
  have := ck.s0
  have := ck.t0
  dsimp only at *
  omega
 have HC1 : Hid ((cAt xs (nb m) : Int) ≠ L → B = false) := fun hn => bool_false fun hk => hn (hCK.out hk).done
 clear hCK
 generalize gi S 0 = s0 at *
 generalize gi T 0 = t0 at *
 go_enter Tryz.func59, Tryz.ntmps59
 go_wp2_with fail
 rw [← hW]
 refine (HF.out _ bW).mono ?_
 rintro e w1 ⟨rfl, hb⟩
 have bw1 := bW.trans (hb.mono bW.size)
 replace B1 := B1.kept hb
 clear hW hb HF bW
 have q0 := B1.cell 0 rfl
 have q1 := B1.cell 1 rfl
 have q2 := B1.cell 2 rfl
 have q3 := B1.cell 3 rfl
 have q4 := B1.cell 4 rfl
 have q5 := B1.cell 5 rfl
 have q6 := B1.cell 6 rfl
 have q7 := B1.cell 7 rfl
 have q8 := B1.cell 8 rfl
 go_wp2_with fail
 refine (HM.out _ bw1).mono ?_
 rintro e w2 ⟨rfl, hb⟩
 have bw2 := bw1.trans (hb.mono bw1.size)
 replace B1 := B1.kept hb
 clear hb HM bw1 q0 q1 q2 q3 q4 q5 q6 q7 q8
 by_cases z1 : s0 = 0
 ·by_cases z2 : t0 = 0
  ·subst z1 z2
   have lt1 := B1.lt
   have z3 := bw2.size
   have q0 := B1.cell 0 rfl
   have q1 := B1.cell 1 rfl
   have q2 := B1.cell 2 rfl
   have q3 := B1.cell 3 rfl
   have q4 := B1.cell 4 rfl
   have q5 := B1.cell 5 rfl
   have q6 := B1.cell 6 rfl
   have q7 := B1.cell 7 rfl
   have q8 := B1.cell 8 rfl
   have l0 := B1.lt
   obtain ⟨W6, hW6⟩ : ∃ W6, W6 = w2.alloc (.cells #[.int .i64 0, .int .u64 0] 120) := ⟨_, rfl⟩
   have hb6 : Below w2.heap.size w2 W6 := by rw [hW6]; exact below_alloc w2 _
   have bw6 := bw2.trans (hb6.mono bw2.size)
   have z6 : W6.heap.size = w2.heap.size + 1 := by rw [hW6]; simp
   have B5 : Cel W6 w2.heap.size [.int .i64 0, .int .u64 0] 120 := by rw [hW6]; exact Cel.new w2 _ _
   replace B1 := B1.kept hb6
   have CI : Hid (CInv [.int .i64 (m : Int), .int .i64 (nb m : Nat), .int .i64 4, .int .i64 M, .slice ao xs.length cap, .int .i64 L, .slice qo ys.length dap, .slice so S.length sc, .slice tO T.length tc] ⟨m, nb m, 4, M, xs, L, ys, S, T⟩ w w.heap.size w2.heap.size 0 W6) := ⟨bw6, B1, B5, fun j hj => absurd hj (Nat.not_lt_zero j)⟩
   have CIb : Hid (Below w.heap.size w W6) := bw6
   clear hb6 bw6 B5 B1
   go_wp2_with fail
   rw [← hW6]
   refine (HA.out w.heap.size w2.heap.size W6 (by simp) (by simp) CI.out (by omega) (by omega) (by omega) (by omega)).mono ?_
   clear q0 q1 q2 q3 q4 q5 q6 q7 q8 hW6 HA CI HC0 bw2
   rintro e w7 ⟨q, b, rfl, hq, h1, h2, fr⟩
   cases b with
   | false =>
    obtain rfl : B = false := h2 rfl
    have bw7 := fr.below
    have HBW : Hid (Below w.heap.size w w7) := CIb.out.trans bw7
    clear HC1 HK1 HLa h1 h2 fr bw7
    go_wp2
    refine region_g [] (fun w' => True) (by kernel_rfl) ?_
    have hS : True := trivial
    have bV : Below w.heap.size w (w7.alloc (.cells #[.int .i64 (cOn xs q : Nat), .int .i64 (cAt xs q : Nat)] 109)).drew := (HBW.out.alloc HBW.out.size _).drew
    generalize (w7.alloc (.cells #[.int .i64 (cOn xs q : Nat), .int .i64 (cAt xs q : Nat)] 109)).drew = Y at *
    refine AnyG.take 0 (v := ?vv1) rfl (by kernel_rfl) (by kernel_rfl) (by kernel_rfl) (by kernel_rfl) (fun _ _ _ h => h) hS ?hy1 (by rfl) ?rest1
    case hy1 =>
     intro w0 h0
     go_simp
     try with_reducible rfl
    simp only [Act.put, yq0, yq1, yq2, yq3, yq4, yq5]
    refine AnyG.take 1 (v := ?vv2) rfl (by kernel_rfl) (by kernel_rfl) (by kernel_rfl) (by kernel_rfl) (fun _ _ _ h => h) hS ?hy2 (by rfl) ?rest2
    case hy2 =>
     intro w0 h0
     go_simp
     try with_reducible rfl
    simp only [Act.put, yq0, yq1, yq2, yq3, yq4, yq5]
    refine AnyG.skip 2 rfl (by kernel_rfl) (by kernel_rfl) (by kernel_rfl) (by kernel_rfl) (fun _ _ _ h => h) hS (by rfl) ?_
    simp only [Act.put, yq0, yq1, yq2, yq3, yq4, yq5]
    refine AnyG.skip 3 rfl (by kernel_rfl) (by kernel_rfl) (by kernel_rfl) (by kernel_rfl) (fun _ _ _ h => h) hS (by rfl) ?_
    simp only [Act.put, yq0, yq1, yq2, yq3, yq4, yq5]
    refine AnyG.skip 4 rfl (by kernel_rfl) (by kernel_rfl) (by kernel_rfl) (by kernel_rfl) (fun _ _ _ h => h) hS (by rfl) ?_
    simp only [Act.put, yq0, yq1, yq2, yq3, yq4, yq5]
    refine AnyG.skip 5 rfl (by kernel_rfl) (by kernel_rfl) (by kernel_rfl) (by kernel_rfl) (fun _ _ _ h => h) hS (by rfl) ?_
    simp only [Act.put, yq0, yq1, yq2, yq3, yq4, yq5]
    refine AnyG.skip 6 rfl (by kernel_rfl) (by kernel_rfl) (by kernel_rfl) (by kernel_rfl) (fun _ _ _ h => h) hS (by rfl) ?_
    simp only [Act.put, yq0, yq1, yq2, yq3, yq4, yq5]
    refine AnyG.skip 7 rfl (by kernel_rfl) (by kernel_rfl) (by kernel_rfl) (by kernel_rfl) (fun _ _ _ h => h) hS (by rfl) ?_
    simp only [Act.put, yq0, yq1, yq2, yq3, yq4, yq5]
    refine AnyG.take 8 (v := ?vv3) rfl (by kernel_rfl) (by kernel_rfl) (by kernel_rfl) (by kernel_rfl) (fun _ _ _ h => h) hS ?hy3 (by rfl) ?rest3
    case hy3 =>
     intro w0 h0
     go_simp
     try with_reducible rfl
    simp only [Act.put, yq0, yq1, yq2, yq3, yq4, yq5]
    refine AnyG.take 9 (v := ?vv4) rfl (by kernel_rfl) (by kernel_rfl) (by kernel_rfl) (by kernel_rfl) (fun _ _ _ h => h) hS ?hy4 (by rfl) ?rest4
    case hy4 =>
     intro w0 h0
     go_simp
     try with_reducible rfl
    simp only [Act.put, yq0, yq1, yq2, yq3, yq4, yq5]
    refine AnyG.skip 10 rfl (by kernel_rfl) (by kernel_rfl) (by kernel_rfl) (by kernel_rfl) (fun _ _ _ h => h) hS (by rfl) ?_
    simp only [Act.put, yq0, yq1, yq2, yq3, yq4, yq5]
    refine AnyG.skip 11 rfl (by kernel_rfl) (by kernel_rfl) (by kernel_rfl) (by kernel_rfl) (fun _ _ _ h => h) hS (by rfl) ?_
    simp only [Act.put, yq0, yq1, yq2, yq3, yq4, yq5]
    refine AnyG.skip 12 rfl (by kernel_rfl) (by kernel_rfl) (by kernel_rfl) (by kernel_rfl) (fun _ _ _ h => h) hS (by rfl) ?_
    simp only [Act.put, yq0, yq1, yq2, yq3, yq4, yq5]
    refine AnyG.skip 13 rfl (by kernel_rfl) (by kernel_rfl) (by kernel_rfl) (by kernel_rfl) (fun _ _ _ h => h) hS (by rfl) ?_
    simp only [Act.put, yq0, yq1, yq2, yq3, yq4, yq5]
    refine AnyG.skip 14 rfl (by kernel_rfl) (by kernel_rfl) (by kernel_rfl) (by kernel_rfl) (fun _ _ _ h => h) hS (by rfl) ?_
    simp only [Act.put, yq0, yq1, yq2, yq3, yq4, yq5]
    refine AnyG.skip 15 rfl (by kernel_rfl) (by kernel_rfl) (by kernel_rfl) (by kernel_rfl) (fun _ _ _ h => h) hS (by rfl) ?_
    simp only [Act.put, yq0, yq1, yq2, yq3, yq4, yq5]
    refine AnyG.skip 16 rfl (by kernel_rfl) (by kernel_rfl) (by kernel_rfl) (by kernel_rfl) (fun _ _ _ h => h) hS (by rfl) ?_
    simp only [Act.put, yq0, yq1, yq2, yq3, yq4, yq5]
    refine AnyG.skip 17 rfl (by kernel_rfl) (by kernel_rfl) (by kernel_rfl) (by kernel_rfl) (fun _ _ _ h => h) hS (by rfl) ?_
    simp only [Act.put, yq0, yq1, yq2, yq3, yq4, yq5]
    refine AnyG.skip 18 rfl (by kernel_rfl) (by kernel_rfl) (by kernel_rfl) (by kernel_rfl) (fun _ _ _ h => h) hS (by rfl) ?_
    simp only [Act.put, yq0, yq1, yq2, yq3, yq4, yq5]
    refine AnyG.skip 19 rfl (by kernel_rfl) (by kernel_rfl) (by kernel_rfl) (by kernel_rfl) (fun _ _ _ h => h) hS (by rfl) ?_
    simp only [Act.put, yq0, yq1, yq2, yq3, yq4, yq5]
    refine AnyG.skip 20 rfl (by kernel_rfl) (by kernel_rfl) (by kernel_rfl) (by kernel_rfl) (fun _ _ _ h => h) hS (by rfl) ?_
    simp only [Act.put, yq0, yq1, yq2, yq3, yq4, yq5]
    refine AnyG.skip 21 rfl (by kernel_rfl) (by kernel_rfl) (by kernel_rfl) (by kernel_rfl) (fun _ _ _ h => h) hS (by rfl) ?_
    simp only [Act.put, yq0, yq1, yq2, yq3, yq4, yq5]
    refine AnyG.take 22 (v := ?vv5) rfl (by kernel_rfl) (by kernel_rfl) (by kernel_rfl) (by kernel_rfl) (fun _ _ _ h => h) hS ?hy5 (by rfl) ?rest5
    case hy5 =>
     intro w0 h0
     go_simp
     try with_reducible rfl
    simp only [Act.put, yq0, yq1, yq2, yq3, yq4, yq5]
    refine AnyG.take 23 (v := ?vv6) rfl (by kernel_rfl) (by kernel_rfl) (by kernel_rfl) (by kernel_rfl) (fun _ _ _ h => h) hS ?hy6 (by rfl) ?rest6
    case hy6 =>
     intro w0 h0
     go_simp
     try with_reducible rfl
    simp only [Act.put, yq0, yq1, yq2, yq3, yq4, yq5]
    refine AnyG.done (by kernel_rfl) ?_ _
    go_wp2
    go_ret
    exact ⟨rfl, bV⟩
   | true =>
    obtain ⟨rfl, ci⟩ := h1 rfl
    have bw7 := fr.below
    have HBW : Hid (Below w.heap.size w w7) := CIb.out.trans bw7
    have HO := HLa.out _ _ _ ci
    have HKK : Hid ((cAt xs (nb m) : Int) = L → (B = true ↔ blk 15 (lstK xs (nb m)) (lstO L ys xs (nb m)) < 2 ^ (15 + m - 15 * nb m))) := fun e => HK1.out _ _ _ ci (by simp) (by simp) e
    have u1 : IntKind.i64.wrap ((nb m : Int) - 1) = (nb m : Int) - 1 := by rw [IntKind.wrap_i64]; omega
    have u2 : IntKind.i64.wrap (15 * ((nb m : Int) - 1)) = 15 * ((nb m : Int) - 1) := by rw [IntKind.wrap_i64]; omega
    have u3 : IntKind.i64.wrap ((m : Int) - 15 * ((nb m : Int) - 1)) = ((15 + m - 15 * nb m : Nat) : Int) := by rw [IntKind.wrap_i64, rb2]; omega
    have HWn : Hid (∀ w0, Calls Tryz.prog 112 #[.agg #[.int .i64 (lstK xs (nb m) : Nat), .int .u64 (lstO L ys xs (nb m) : Nat)], .int .i64 ((15 + m - 15 * nb m : Nat) : Int)] w0 fun e w' => e = .returned (.agg #[.int .i64 (cnt (blk 15 (lstK xs (nb m)) (lstO L ys xs (nb m)) % 2 ^ (15 + m - 15 * nb m)) 15 : Nat), .int .u64 (off (blk 15 (lstK xs (nb m)) (lstO L ys xs (nb m)) % 2 ^ (15 + m - 15 * nb m)) 15 : Nat)]) ∧ Below w0.heap.size w0 w') := fun w0 => qwithin_c _ _ _ lkb HO (by omega) w0
    have HLI : Hid ((cnt (blk 15 (lstK xs (nb m)) (lstO L ys xs (nb m)) % 2 ^ (15 + m - 15 * nb m)) 15 = lstK xs (nb m) ∧ off (blk 15 (lstK xs (nb m)) (lstO L ys xs (nb m)) % 2 ^ (15 + m - 15 * nb m)) 15 = lstO L ys xs (nb m)) ↔ blk 15 (lstK xs (nb m)) (lstO L ys xs (nb m)) < 2 ^ (15 + m - 15 * nb m)) := last_iff _ _ _ HO
    have B1 := ci.x
    have B5 := ci.last
    dsimp only at B5
    clear HLa HK1 h1 h2 fr bw7 ci HO rb rb2 ic
    generalize cnt (blk 15 (lstK xs (nb m)) (lstO L ys xs (nb m)) % 2 ^ (15 + m - 15 * nb m)) 15 = K at *
    generalize off (blk 15 (lstK xs (nb m)) (lstO L ys xs (nb m)) % 2 ^ (15 + m - 15 * nb m)) 15 = O at *
    generalize (blk 15 (lstK xs (nb m)) (lstO L ys xs (nb m)) < 2 ^ (15 + m - 15 * nb m)) = Pr at *
    generalize 15 + m - 15 * nb m = r at *
    generalize lstK xs (nb m) = lk at *
    generalize lstO L ys xs (nb m) = lo at *
    generalize cAt xs (nb m) = pe at *
    generalize cOn xs (nb m) = po at *
    generalize nb m = n at *
    go_wp2
    have hb8 := below_alloc w7 (.cells #[.int .i64 (po : Nat), .int .i64 (pe : Nat)] 109)
    have B6 := Cel.new w7 [.int .i64 (po : Nat), .int .i64 (pe : Nat)] 109
    replace B1 := B1.kept hb8
    replace B5 := B5.kept hb8
    have bV : Below w.heap.size w (w7.alloc (.cells #[.int .i64 (po : Nat), .int .i64 (pe : Nat)] 109)).drew := (HBW.out.alloc HBW.out.size _).drew
    refine region_g [] (fun w' => Cel w' w.heap.size [.int .i64 (m : Int), .int .i64 (n : Nat), .int .i64 4, .int .i64 M, .slice ao xs.length cap, .int .i64 L, .slice qo ys.length dap, .slice so S.length sc, .slice tO T.length tc] 33 ∧ Cel w' w7.heap.size [.int .i64 (po : Nat), .int .i64 (pe : Nat)] 109 ∧ Cel w' w2.heap.size [.int .i64 (lk : Nat), .int .u64 (lo : Nat)] 120) (by kernel_rfl) ?_
    have hS : Cel (w7.alloc (.cells #[.int .i64 (po : Nat), .int .i64 (pe : Nat)] 109)).drew w.heap.size [.int .i64 (m : Int), .int .i64 (n : Nat), .int .i64 4, .int .i64 M, .slice ao xs.length cap, .int .i64 L, .slice qo ys.length dap, .slice so S.length sc, .slice tO T.length tc] 33 ∧ Cel (w7.alloc (.cells #[.int .i64 (po : Nat), .int .i64 (pe : Nat)] 109)).drew w7.heap.size [.int .i64 (po : Nat), .int .i64 (pe : Nat)] 109 ∧ Cel (w7.alloc (.cells #[.int .i64 (po : Nat), .int .i64 (pe : Nat)] 109)).drew w2.heap.size [.int .i64 (lk : Nat), .int .u64 (lo : Nat)] 120 := ⟨B1, B6, B5⟩
    clear B1 B5 B6 hb8
    generalize (w7.alloc (.cells #[.int .i64 (po : Nat), .int .i64 (pe : Nat)] 109)).drew = Y at *
    by_cases pl : (pe : Int) = L
    ·have pl2 : ((pe : Int) == L) = true := by simpa using pl
     have HP := HKK.out pl
     by_cases pr : Pr
     ·obtain rfl : B = true := HP.2 pr
      obtain ⟨k1, k2⟩ := HLI.out.2 pr
      have k3 : (lk : Int) = (K : Int) := by omega
      have k4 : (lo : Int) = (O : Int) := by omega
      subst k1 k2
      clear k3 k4 HP HKK HLI
      refine AnyG.take 0 (v := ?vv41) rfl (by kernel_rfl) (by kernel_rfl) (by kernel_rfl) (by kernel_rfl) (fun _ _ _ h => h) hS ?hy41 (by rfl) ?rest41
      case hy41 =>
       intro w0 h0
       go_simp
       try with_reducible rfl
      simp only [Act.put, yq0, yq1, yq2, yq3, yq4, yq5]
      refine AnyG.take 1 (v := ?vv42) rfl (by kernel_rfl) (by kernel_rfl) (by kernel_rfl) (by kernel_rfl) (fun _ _ _ h => h) hS ?hy42 (by rfl) ?rest42
      case hy42 =>
       intro w0 h0
       go_simp
       try with_reducible rfl
      simp only [Act.put, yq0, yq1, yq2, yq3, yq4, yq5]
      refine AnyG.take 2 (v := ?vv43) rfl (by kernel_rfl) (by kernel_rfl) (by kernel_rfl) (by kernel_rfl) (fun _ _ _ h => h) hS ?hy43 (by rfl) ?rest43
      case hy43 =>
       intro w0 h0
       go_simp
       try with_reducible rfl
      simp only [Act.put, yq0, yq1, yq2, yq3, yq4, yq5]
      refine AnyG.take 3 (v := ?vv44) rfl (by kernel_rfl) (by kernel_rfl) (by kernel_rfl) (by kernel_rfl) (fun _ _ _ h => h) hS ?hy44 (by rfl) ?rest44
      case hy44 =>
       intro w0 h0
       have c0 := h0.2.1.cell 1 rfl
       go_simp
       try with_reducible rfl
      simp only [Act.put, yq0, yq1, yq2, yq3, yq4, yq5]
      refine AnyG.take 4 (v := ?vv45) rfl (by kernel_rfl) (by kernel_rfl) (by kernel_rfl) (by kernel_rfl) (fun _ _ _ h => h) hS ?hy45 (by rfl) ?rest45
      case hy45 =>
       intro w0 h0
       go_simp
       try with_reducible rfl
      simp only [Act.put, yq0, yq1, yq2, yq3, yq4, yq5]
      refine AnyG.take 5 (v := ?vv46) rfl (by kernel_rfl) (by kernel_rfl) (by kernel_rfl) (by kernel_rfl) (fun _ _ _ h => h) hS ?hy46 (by rfl) ?rest46
      case hy46 =>
       intro w0 h0
       go_simp
       try with_reducible rfl
      simp only [Act.put, yq0, yq1, yq2, yq3, yq4, yq5]
      refine AnyG.take 6 (v := ?vv47) rfl (by kernel_rfl) (by kernel_rfl) (by kernel_rfl) (by kernel_rfl) (fun _ _ _ h => h) hS ?hy47 (by rfl) ?rest47
      case hy47 =>
       intro w0 h0
       have c0 := h0.1.cell 5 rfl
       go_simp
       try with_reducible rfl
      simp only [Act.put, yq0, yq1, yq2, yq3, yq4, yq5]
      refine AnyG.take 7 (v := ?vv48) rfl (by kernel_rfl) (by kernel_rfl) (by kernel_rfl) (by kernel_rfl) (fun _ _ _ h => h) hS ?hy48 (by rfl) ?rest48
      case hy48 =>
       intro w0 h0
       go_simp
       try with_reducible rfl
      simp only [Act.put, yq0, yq1, yq2, yq3, yq4, yq5]
      refine AnyG.take 8 (v := ?vv49) rfl (by kernel_rfl) (by kernel_rfl) (by kernel_rfl) (by kernel_rfl) (fun _ _ _ h => h) hS ?hy49 (by rfl) ?rest49
      case hy49 =>
       intro w0 h0
       go_simp
       try with_reducible rfl
      simp only [Act.put, yq0, yq1, yq2, yq3, yq4, yq5]
      refine AnyG.take 9 (v := ?vv50) rfl (by kernel_rfl) (by kernel_rfl) (by kernel_rfl) (by kernel_rfl) (fun _ _ _ h => h) hS ?hy50 (by rfl) ?rest50
      case hy50 =>
       intro w0 h0
       go_simp
       try with_reducible rfl
      simp only [Act.put, yq0, yq1, yq2, yq3, yq4, yq5]
      refine AnyG.take 10 (v := ?vv51) rfl (by kernel_rfl) (by kernel_rfl) (by kernel_rfl) (by kernel_rfl) (fun _ _ _ h => h) hS ?hy51 (by rfl) ?rest51
      case hy51 =>
       intro w0 h0
       have c0 := h0.2.2.cell 0 rfl
       have c1 := h0.2.2.cell 1 rfl
       go_simp
       try with_reducible rfl
      simp only [Act.put, yq0, yq1, yq2, yq3, yq4, yq5]
      refine AnyG.take 11 (v := ?vv52) rfl (by kernel_rfl) (by kernel_rfl) (by kernel_rfl) (by kernel_rfl) (fun _ _ _ h => h) hS ?hy52 (by rfl) ?rest52
      case hy52 =>
       intro w0 h0
       have c0 := h0.2.2.cell 0 rfl
       have c1 := h0.2.2.cell 1 rfl
       go_simp
       try with_reducible rfl
      simp only [Act.put, yq0, yq1, yq2, yq3, yq4, yq5]
      refine AnyG.take 12 (v := ?vv53) rfl (by kernel_rfl) (by kernel_rfl) (by kernel_rfl) (by kernel_rfl) (fun _ _ _ h => h) hS ?hy53 (by rfl) ?rest53
      case hy53 =>
       intro w0 h0
       go_simp
       try with_reducible rfl
      simp only [Act.put, yq0, yq1, yq2, yq3, yq4, yq5]
      refine AnyG.take 13 (v := ?vv54) rfl (by kernel_rfl) (by kernel_rfl) (by kernel_rfl) (by kernel_rfl) (fun _ _ _ h => h) hS ?hy54 (by rfl) ?rest54
      case hy54 =>
       intro w0 h0
       have c0 := h0.1.cell 0 rfl
       go_simp
       try with_reducible rfl
      simp only [Act.put, yq0, yq1, yq2, yq3, yq4, yq5]
      refine AnyG.take 14 (v := ?vv55) rfl (by kernel_rfl) (by kernel_rfl) (by kernel_rfl) (by kernel_rfl) (fun _ _ _ h => h) hS ?hy55 (by rfl) ?rest55
      case hy55 =>
       intro w0 h0
       go_simp
       try with_reducible rfl
      simp only [Act.put, yq0, yq1, yq2, yq3, yq4, yq5]
      refine AnyG.take 15 (v := ?vv56) rfl (by kernel_rfl) (by kernel_rfl) (by kernel_rfl) (by kernel_rfl) (fun _ _ _ h => h) hS ?hy56 (by rfl) ?rest56
      case hy56 =>
       intro w0 h0
       go_simp
       try with_reducible rfl
      simp only [Act.put, yq0, yq1, yq2, yq3, yq4, yq5]
      refine AnyG.take 16 (v := ?vv57) rfl (by kernel_rfl) (by kernel_rfl) (by kernel_rfl) (by kernel_rfl) (fun _ _ _ h => h) hS ?hy57 (by rfl) ?rest57
      case hy57 =>
       intro w0 h0
       have c0 := h0.1.cell 1 rfl
       go_simp
       try with_reducible rfl
      simp only [Act.put, yq0, yq1, yq2, yq3, yq4, yq5]
      refine AnyG.take 17 (v := ?vv58) rfl (by kernel_rfl) (by kernel_rfl) (by kernel_rfl) (by kernel_rfl) (fun _ _ _ h => h) hS ?hy58 (by rfl) ?rest58
      case hy58 =>
       intro w0 h0
       go_simp
       try with_reducible rfl
      simp only [Act.put, yq0, yq1, yq2, yq3, yq4, yq5]
      refine AnyG.take 18 (v := ?vv59) rfl (by kernel_rfl) (by kernel_rfl) (by kernel_rfl) (by kernel_rfl) (fun _ _ _ h => h) hS ?hy59 (by rfl) ?rest59
      case hy59 =>
       intro w0 h0
       go_simp
       try with_reducible rfl
      simp only [Act.put, yq0, yq1, yq2, yq3, yq4, yq5]
      refine AnyG.take 19 (v := ?vv60) rfl (by kernel_rfl) (by kernel_rfl) (by kernel_rfl) (by kernel_rfl) (fun _ _ _ h => h) hS ?hy60 (by rfl) ?rest60
      case hy60 =>
       intro w0 h0
       go_simp
       try with_reducible rfl
      simp only [Act.put, yq0, yq1, yq2, yq3, yq4, yq5]
      refine AnyG.one 20 (by kernel_rfl) rfl ?_
      intro K hK
      go_simp
      refine (HWn.out _).mono ?_
      rintro e w9 ⟨rfl, hb⟩
      have hS9 := And.intro (hS.1.kept hb) (And.intro (hS.2.1.kept hb) (hS.2.2.kept hb))
      have bw9 := bV.trans (hb.mono bV.size)
      clear hb hS bV HWn
      refine hK.out _ _ (fun _ => hS9) ?_
      clear hK K
      try simp only [Act.put, yq0, yq1, yq2, yq3, yq4, yq5]
      refine AnyG.take 21 (v := ?vv61) rfl (by kernel_rfl) (by kernel_rfl) (by kernel_rfl) (by kernel_rfl) (fun _ _ _ h => h) hS9 ?hy61 (by rfl) ?rest61
      case hy61 =>
       intro w0 h0
       go_simp
       try with_reducible rfl
      simp only [Act.put, yq0, yq1, yq2, yq3, yq4, yq5]
      refine AnyG.take 22 (v := ?vv62) rfl (by kernel_rfl) (by kernel_rfl) (by kernel_rfl) (by kernel_rfl) (fun _ _ _ h => h) hS9 ?hy62 (by rfl) ?rest62
      case hy62 =>
       intro w0 h0
       go_simp
       try with_reducible rfl
      simp only [Act.put, yq0, yq1, yq2, yq3, yq4, yq5]
      refine AnyG.take 23 (v := ?vv63) rfl (by kernel_rfl) (by kernel_rfl) (by kernel_rfl) (by kernel_rfl) (fun _ _ _ h => h) hS9 ?hy63 (by rfl) ?rest63
      case hy63 =>
       intro w0 h0
       go_simp
       try with_reducible rfl
      simp only [Act.put, yq0, yq1, yq2, yq3, yq4, yq5]
      refine AnyG.done (by kernel_rfl) ?_ _
      go_wp2
      go_ret
      exact ⟨rfl, bw9⟩
     ·obtain rfl : B = false := bool_false fun hk => pr (HP.1 hk)
      have kn : ¬ (K = lk ∧ O = lo) := fun hk => pr (HLI.out.1 hk)
      by_cases k1 : lk = K
      ·have k2 : ¬ (lo : Int) = (O : Int) := by omega
       have k3 : ¬ lo = O := by omega
       subst k1
       clear HP HKK HLI kn
       refine AnyG.take 0 (v := ?vv81) rfl (by kernel_rfl) (by kernel_rfl) (by kernel_rfl) (by kernel_rfl) (fun _ _ _ h => h) hS ?hy81 (by rfl) ?rest81
       case hy81 =>
        intro w0 h0
        go_simp
        try with_reducible rfl
       simp only [Act.put, yq0, yq1, yq2, yq3, yq4, yq5]
       refine AnyG.take 1 (v := ?vv82) rfl (by kernel_rfl) (by kernel_rfl) (by kernel_rfl) (by kernel_rfl) (fun _ _ _ h => h) hS ?hy82 (by rfl) ?rest82
       case hy82 =>
        intro w0 h0
        go_simp
        try with_reducible rfl
       simp only [Act.put, yq0, yq1, yq2, yq3, yq4, yq5]
       refine AnyG.take 2 (v := ?vv83) rfl (by kernel_rfl) (by kernel_rfl) (by kernel_rfl) (by kernel_rfl) (fun _ _ _ h => h) hS ?hy83 (by rfl) ?rest83
       case hy83 =>
        intro w0 h0
        go_simp
        try with_reducible rfl
       simp only [Act.put, yq0, yq1, yq2, yq3, yq4, yq5]
       refine AnyG.take 3 (v := ?vv84) rfl (by kernel_rfl) (by kernel_rfl) (by kernel_rfl) (by kernel_rfl) (fun _ _ _ h => h) hS ?hy84 (by rfl) ?rest84
       case hy84 =>
        intro w0 h0
        have c0 := h0.2.1.cell 1 rfl
        go_simp
        try with_reducible rfl
       simp only [Act.put, yq0, yq1, yq2, yq3, yq4, yq5]
       refine AnyG.take 4 (v := ?vv85) rfl (by kernel_rfl) (by kernel_rfl) (by kernel_rfl) (by kernel_rfl) (fun _ _ _ h => h) hS ?hy85 (by rfl) ?rest85
       case hy85 =>
        intro w0 h0
        go_simp
        try with_reducible rfl
       simp only [Act.put, yq0, yq1, yq2, yq3, yq4, yq5]
       refine AnyG.take 5 (v := ?vv86) rfl (by kernel_rfl) (by kernel_rfl) (by kernel_rfl) (by kernel_rfl) (fun _ _ _ h => h) hS ?hy86 (by rfl) ?rest86
       case hy86 =>
        intro w0 h0
        go_simp
        try with_reducible rfl
       simp only [Act.put, yq0, yq1, yq2, yq3, yq4, yq5]
       refine AnyG.take 6 (v := ?vv87) rfl (by kernel_rfl) (by kernel_rfl) (by kernel_rfl) (by kernel_rfl) (fun _ _ _ h => h) hS ?hy87 (by rfl) ?rest87
       case hy87 =>
        intro w0 h0
        have c0 := h0.1.cell 5 rfl
        go_simp
        try with_reducible rfl
       simp only [Act.put, yq0, yq1, yq2, yq3, yq4, yq5]
       refine AnyG.take 7 (v := ?vv88) rfl (by kernel_rfl) (by kernel_rfl) (by kernel_rfl) (by kernel_rfl) (fun _ _ _ h => h) hS ?hy88 (by rfl) ?rest88
       case hy88 =>
        intro w0 h0
        go_simp
        try with_reducible rfl
       simp only [Act.put, yq0, yq1, yq2, yq3, yq4, yq5]
       refine AnyG.take 8 (v := ?vv89) rfl (by kernel_rfl) (by kernel_rfl) (by kernel_rfl) (by kernel_rfl) (fun _ _ _ h => h) hS ?hy89 (by rfl) ?rest89
       case hy89 =>
        intro w0 h0
        go_simp
        try with_reducible rfl
       simp only [Act.put, yq0, yq1, yq2, yq3, yq4, yq5]
       refine AnyG.take 9 (v := ?vv90) rfl (by kernel_rfl) (by kernel_rfl) (by kernel_rfl) (by kernel_rfl) (fun _ _ _ h => h) hS ?hy90 (by rfl) ?rest90
       case hy90 =>
        intro w0 h0
        go_simp
        try with_reducible rfl
       simp only [Act.put, yq0, yq1, yq2, yq3, yq4, yq5]
       refine AnyG.take 10 (v := ?vv91) rfl (by kernel_rfl) (by kernel_rfl) (by kernel_rfl) (by kernel_rfl) (fun _ _ _ h => h) hS ?hy91 (by rfl) ?rest91
       case hy91 =>
        intro w0 h0
        have c0 := h0.2.2.cell 0 rfl
        have c1 := h0.2.2.cell 1 rfl
        go_simp
        try with_reducible rfl
       simp only [Act.put, yq0, yq1, yq2, yq3, yq4, yq5]
       refine AnyG.take 11 (v := ?vv92) rfl (by kernel_rfl) (by kernel_rfl) (by kernel_rfl) (by kernel_rfl) (fun _ _ _ h => h) hS ?hy92 (by rfl) ?rest92
       case hy92 =>
        intro w0 h0
        have c0 := h0.2.2.cell 0 rfl
        have c1 := h0.2.2.cell 1 rfl
        go_simp
        try with_reducible rfl
       simp only [Act.put, yq0, yq1, yq2, yq3, yq4, yq5]
       refine AnyG.take 12 (v := ?vv93) rfl (by kernel_rfl) (by kernel_rfl) (by kernel_rfl) (by kernel_rfl) (fun _ _ _ h => h) hS ?hy93 (by rfl) ?rest93
       case hy93 =>
        intro w0 h0
        go_simp
        try with_reducible rfl
       simp only [Act.put, yq0, yq1, yq2, yq3, yq4, yq5]
       refine AnyG.take 13 (v := ?vv94) rfl (by kernel_rfl) (by kernel_rfl) (by kernel_rfl) (by kernel_rfl) (fun _ _ _ h => h) hS ?hy94 (by rfl) ?rest94
       case hy94 =>
        intro w0 h0
        have c0 := h0.1.cell 0 rfl
        go_simp
        try with_reducible rfl
       simp only [Act.put, yq0, yq1, yq2, yq3, yq4, yq5]
       refine AnyG.take 14 (v := ?vv95) rfl (by kernel_rfl) (by kernel_rfl) (by kernel_rfl) (by kernel_rfl) (fun _ _ _ h => h) hS ?hy95 (by rfl) ?rest95
       case hy95 =>
        intro w0 h0
        go_simp
        try with_reducible rfl
       simp only [Act.put, yq0, yq1, yq2, yq3, yq4, yq5]
       refine AnyG.take 15 (v := ?vv96) rfl (by kernel_rfl) (by kernel_rfl) (by kernel_rfl) (by kernel_rfl) (fun _ _ _ h => h) hS ?hy96 (by rfl) ?rest96
       case hy96 =>
        intro w0 h0
        go_simp
        try with_reducible rfl
       simp only [Act.put, yq0, yq1, yq2, yq3, yq4, yq5]
       refine AnyG.take 16 (v := ?vv97) rfl (by kernel_rfl) (by kernel_rfl) (by kernel_rfl) (by kernel_rfl) (fun _ _ _ h => h) hS ?hy97 (by rfl) ?rest97
       case hy97 =>
        intro w0 h0
        have c0 := h0.1.cell 1 rfl
        go_simp
        try with_reducible rfl
       simp only [Act.put, yq0, yq1, yq2, yq3, yq4, yq5]
       refine AnyG.take 17 (v := ?vv98) rfl (by kernel_rfl) (by kernel_rfl) (by kernel_rfl) (by kernel_rfl) (fun _ _ _ h => h) hS ?hy98 (by rfl) ?rest98
       case hy98 =>
        intro w0 h0
        go_simp
        try with_reducible rfl
       simp only [Act.put, yq0, yq1, yq2, yq3, yq4, yq5]
       refine AnyG.take 18 (v := ?vv99) rfl (by kernel_rfl) (by kernel_rfl) (by kernel_rfl) (by kernel_rfl) (fun _ _ _ h => h) hS ?hy99 (by rfl) ?rest99
       case hy99 =>
        intro w0 h0
        go_simp
        try with_reducible rfl
       simp only [Act.put, yq0, yq1, yq2, yq3, yq4, yq5]
       refine AnyG.take 19 (v := ?vv100) rfl (by kernel_rfl) (by kernel_rfl) (by kernel_rfl) (by kernel_rfl) (fun _ _ _ h => h) hS ?hy100 (by rfl) ?rest100
       case hy100 =>
        intro w0 h0
        go_simp
        try with_reducible rfl
       simp only [Act.put, yq0, yq1, yq2, yq3, yq4, yq5]
       refine AnyG.one 20 (by kernel_rfl) rfl ?_
       intro K hK
       go_simp
       refine (HWn.out _).mono ?_
       rintro e w9 ⟨rfl, hb⟩
       have hS9 := And.intro (hS.1.kept hb) (And.intro (hS.2.1.kept hb) (hS.2.2.kept hb))
       have bw9 := bV.trans (hb.mono bV.size)
       clear hb hS bV HWn
       refine hK.out _ _ (fun _ => hS9) ?_
       clear hK K
       try simp only [Act.put, yq0, yq1, yq2, yq3, yq4, yq5]
       refine AnyG.take 21 (v := ?vv101) rfl (by kernel_rfl) (by kernel_rfl) (by kernel_rfl) (by kernel_rfl) (fun _ _ _ h => h) hS9 ?hy101 (by rfl) ?rest101
       case hy101 =>
        intro w0 h0
        go_simp
        try with_reducible rfl
       simp only [Act.put, yq0, yq1, yq2, yq3, yq4, yq5]
       refine AnyG.take 22 (v := ?vv102) rfl (by kernel_rfl) (by kernel_rfl) (by kernel_rfl) (by kernel_rfl) (fun _ _ _ h => h) hS9 ?hy102 (by rfl) ?rest102
       case hy102 =>
        intro w0 h0
        go_simp
        try with_reducible rfl
       simp only [Act.put, yq0, yq1, yq2, yq3, yq4, yq5]
       refine AnyG.take 23 (v := ?vv103) rfl (by kernel_rfl) (by kernel_rfl) (by kernel_rfl) (by kernel_rfl) (fun _ _ _ h => h) hS9 ?hy103 (by rfl) ?rest103
       case hy103 =>
        intro w0 h0
        go_simp
        try with_reducible rfl
       simp only [Act.put, yq0, yq1, yq2, yq3, yq4, yq5]
       refine AnyG.done (by kernel_rfl) ?_ _
       go_wp2
       go_ret
       exact ⟨rfl, bw9⟩
      ·have k2 : ¬ (lk : Int) = (K : Int) := by omega
       clear HP HKK HLI kn
       refine AnyG.take 0 (v := ?vv121) rfl (by kernel_rfl) (by kernel_rfl) (by kernel_rfl) (by kernel_rfl) (fun _ _ _ h => h) hS ?hy121 (by rfl) ?rest121
       case hy121 =>
        intro w0 h0
        go_simp
        try with_reducible rfl
       simp only [Act.put, yq0, yq1, yq2, yq3, yq4, yq5]
       refine AnyG.take 1 (v := ?vv122) rfl (by kernel_rfl) (by kernel_rfl) (by kernel_rfl) (by kernel_rfl) (fun _ _ _ h => h) hS ?hy122 (by rfl) ?rest122
       case hy122 =>
        intro w0 h0
        go_simp
        try with_reducible rfl
       simp only [Act.put, yq0, yq1, yq2, yq3, yq4, yq5]
       refine AnyG.take 2 (v := ?vv123) rfl (by kernel_rfl) (by kernel_rfl) (by kernel_rfl) (by kernel_rfl) (fun _ _ _ h => h) hS ?hy123 (by rfl) ?rest123
       case hy123 =>
        intro w0 h0
        go_simp
        try with_reducible rfl
       simp only [Act.put, yq0, yq1, yq2, yq3, yq4, yq5]
       refine AnyG.take 3 (v := ?vv124) rfl (by kernel_rfl) (by kernel_rfl) (by kernel_rfl) (by kernel_rfl) (fun _ _ _ h => h) hS ?hy124 (by rfl) ?rest124
       case hy124 =>
        intro w0 h0
        have c0 := h0.2.1.cell 1 rfl
        go_simp
        try with_reducible rfl
       simp only [Act.put, yq0, yq1, yq2, yq3, yq4, yq5]
       refine AnyG.take 4 (v := ?vv125) rfl (by kernel_rfl) (by kernel_rfl) (by kernel_rfl) (by kernel_rfl) (fun _ _ _ h => h) hS ?hy125 (by rfl) ?rest125
       case hy125 =>
        intro w0 h0
        go_simp
        try with_reducible rfl
       simp only [Act.put, yq0, yq1, yq2, yq3, yq4, yq5]
       refine AnyG.take 5 (v := ?vv126) rfl (by kernel_rfl) (by kernel_rfl) (by kernel_rfl) (by kernel_rfl) (fun _ _ _ h => h) hS ?hy126 (by rfl) ?rest126
       case hy126 =>
        intro w0 h0
        go_simp
        try with_reducible rfl
       simp only [Act.put, yq0, yq1, yq2, yq3, yq4, yq5]
       refine AnyG.take 6 (v := ?vv127) rfl (by kernel_rfl) (by kernel_rfl) (by kernel_rfl) (by kernel_rfl) (fun _ _ _ h => h) hS ?hy127 (by rfl) ?rest127
       case hy127 =>
        intro w0 h0
        have c0 := h0.1.cell 5 rfl
        go_simp
        try with_reducible rfl
       simp only [Act.put, yq0, yq1, yq2, yq3, yq4, yq5]
       refine AnyG.take 7 (v := ?vv128) rfl (by kernel_rfl) (by kernel_rfl) (by kernel_rfl) (by kernel_rfl) (fun _ _ _ h => h) hS ?hy128 (by rfl) ?rest128
       case hy128 =>
        intro w0 h0
        go_simp
        try with_reducible rfl
       simp only [Act.put, yq0, yq1, yq2, yq3, yq4, yq5]
       refine AnyG.take 8 (v := ?vv129) rfl (by kernel_rfl) (by kernel_rfl) (by kernel_rfl) (by kernel_rfl) (fun _ _ _ h => h) hS ?hy129 (by rfl) ?rest129
       case hy129 =>
        intro w0 h0
        go_simp
        try with_reducible rfl
       simp only [Act.put, yq0, yq1, yq2, yq3, yq4, yq5]
       refine AnyG.take 9 (v := ?vv130) rfl (by kernel_rfl) (by kernel_rfl) (by kernel_rfl) (by kernel_rfl) (fun _ _ _ h => h) hS ?hy130 (by rfl) ?rest130
       case hy130 =>
        intro w0 h0
        go_simp
        try with_reducible rfl
       simp only [Act.put, yq0, yq1, yq2, yq3, yq4, yq5]
       refine AnyG.take 10 (v := ?vv131) rfl (by kernel_rfl) (by kernel_rfl) (by kernel_rfl) (by kernel_rfl) (fun _ _ _ h => h) hS ?hy131 (by rfl) ?rest131
       case hy131 =>
        intro w0 h0
        have c0 := h0.2.2.cell 0 rfl
        have c1 := h0.2.2.cell 1 rfl
        go_simp
        try with_reducible rfl
       simp only [Act.put, yq0, yq1, yq2, yq3, yq4, yq5]
       refine AnyG.take 11 (v := ?vv132) rfl (by kernel_rfl) (by kernel_rfl) (by kernel_rfl) (by kernel_rfl) (fun _ _ _ h => h) hS ?hy132 (by rfl) ?rest132
       case hy132 =>
        intro w0 h0
        have c0 := h0.2.2.cell 0 rfl
        have c1 := h0.2.2.cell 1 rfl
        go_simp
        try with_reducible rfl
       simp only [Act.put, yq0, yq1, yq2, yq3, yq4, yq5]
       refine AnyG.take 12 (v := ?vv133) rfl (by kernel_rfl) (by kernel_rfl) (by kernel_rfl) (by kernel_rfl) (fun _ _ _ h => h) hS ?hy133 (by rfl) ?rest133
       case hy133 =>
        intro w0 h0
        go_simp
        try with_reducible rfl
       simp only [Act.put, yq0, yq1, yq2, yq3, yq4, yq5]
       refine AnyG.take 13 (v := ?vv134) rfl (by kernel_rfl) (by kernel_rfl) (by kernel_rfl) (by kernel_rfl) (fun _ _ _ h => h) hS ?hy134 (by rfl) ?rest134
       case hy134 =>
        intro w0 h0
        have c0 := h0.1.cell 0 rfl
        go_simp
        try with_reducible rfl
       simp only [Act.put, yq0, yq1, yq2, yq3, yq4, yq5]
       refine AnyG.take 14 (v := ?vv135) rfl (by kernel_rfl) (by kernel_rfl) (by kernel_rfl) (by kernel_rfl) (fun _ _ _ h => h) hS ?hy135 (by rfl) ?rest135
       case hy135 =>
        intro w0 h0
        go_simp
        try with_reducible rfl
       simp only [Act.put, yq0, yq1, yq2, yq3, yq4, yq5]
       refine AnyG.take 15 (v := ?vv136) rfl (by kernel_rfl) (by kernel_rfl) (by kernel_rfl) (by kernel_rfl) (fun _ _ _ h => h) hS ?hy136 (by rfl) ?rest136
       case hy136 =>
        intro w0 h0
        go_simp
        try with_reducible rfl
       simp only [Act.put, yq0, yq1, yq2, yq3, yq4, yq5]
       refine AnyG.take 16 (v := ?vv137) rfl (by kernel_rfl) (by kernel_rfl) (by kernel_rfl) (by kernel_rfl) (fun _ _ _ h => h) hS ?hy137 (by rfl) ?rest137
       case hy137 =>
        intro w0 h0
        have c0 := h0.1.cell 1 rfl
        go_simp
        try with_reducible rfl
       simp only [Act.put, yq0, yq1, yq2, yq3, yq4, yq5]
       refine AnyG.take 17 (v := ?vv138) rfl (by kernel_rfl) (by kernel_rfl) (by kernel_rfl) (by kernel_rfl) (fun _ _ _ h => h) hS ?hy138 (by rfl) ?rest138
       case hy138 =>
        intro w0 h0
        go_simp
        try with_reducible rfl
       simp only [Act.put, yq0, yq1, yq2, yq3, yq4, yq5]
       refine AnyG.take 18 (v := ?vv139) rfl (by kernel_rfl) (by kernel_rfl) (by kernel_rfl) (by kernel_rfl) (fun _ _ _ h => h) hS ?hy139 (by rfl) ?rest139
       case hy139 =>
        intro w0 h0
        go_simp
        try with_reducible rfl
       simp only [Act.put, yq0, yq1, yq2, yq3, yq4, yq5]
       refine AnyG.take 19 (v := ?vv140) rfl (by kernel_rfl) (by kernel_rfl) (by kernel_rfl) (by kernel_rfl) (fun _ _ _ h => h) hS ?hy140 (by rfl) ?rest140
       case hy140 =>
        intro w0 h0
        go_simp
        try with_reducible rfl
       simp only [Act.put, yq0, yq1, yq2, yq3, yq4, yq5]
       refine AnyG.one 20 (by kernel_rfl) rfl ?_
       intro K hK
       go_simp
       refine (HWn.out _).mono ?_
       rintro e w9 ⟨rfl, hb⟩
       have hS9 := And.intro (hS.1.kept hb) (And.intro (hS.2.1.kept hb) (hS.2.2.kept hb))
       have bw9 := bV.trans (hb.mono bV.size)
       clear hb hS bV HWn
       refine hK.out _ _ (fun _ => hS9) ?_
       clear hK K
       try simp only [Act.put, yq0, yq1, yq2, yq3, yq4, yq5]
       refine AnyG.take 21 (v := ?vv141) rfl (by kernel_rfl) (by kernel_rfl) (by kernel_rfl) (by kernel_rfl) (fun _ _ _ h => h) hS9 ?hy141 (by rfl) ?rest141
       case hy141 =>
        intro w0 h0
        go_simp
        try with_reducible rfl
       simp only [Act.put, yq0, yq1, yq2, yq3, yq4, yq5]
       refine AnyG.take 22 (v := ?vv142) rfl (by kernel_rfl) (by kernel_rfl) (by kernel_rfl) (by kernel_rfl) (fun _ _ _ h => h) hS9 ?hy142 (by rfl) ?rest142
       case hy142 =>
        intro w0 h0
        go_simp
        try with_reducible rfl
       simp only [Act.put, yq0, yq1, yq2, yq3, yq4, yq5]
       refine AnyG.take 23 (v := ?vv143) rfl (by kernel_rfl) (by kernel_rfl) (by kernel_rfl) (by kernel_rfl) (fun _ _ _ h => h) hS9 ?hy143 (by rfl) ?rest143
       case hy143 =>
        intro w0 h0
        go_simp
        try with_reducible rfl
       simp only [Act.put, yq0, yq1, yq2, yq3, yq4, yq5]
       refine AnyG.done (by kernel_rfl) ?_ _
       go_wp2
       go_ret
       exact ⟨rfl, bw9⟩
    ·have pl2 : ((pe : Int) == L) = false := by simpa using pl
     obtain rfl : B = false := HC1.out pl
     clear HKK HLI
     refine AnyG.take 0 (v := ?vv161) rfl (by kernel_rfl) (by kernel_rfl) (by kernel_rfl) (by kernel_rfl) (fun _ _ _ h => h) hS ?hy161 (by rfl) ?rest161
     case hy161 =>
      intro w0 h0
      go_simp
      try with_reducible rfl
     simp only [Act.put, yq0, yq1, yq2, yq3, yq4, yq5]
     refine AnyG.take 1 (v := ?vv162) rfl (by kernel_rfl) (by kernel_rfl) (by kernel_rfl) (by kernel_rfl) (fun _ _ _ h => h) hS ?hy162 (by rfl) ?rest162
     case hy162 =>
      intro w0 h0
      go_simp
      try with_reducible rfl
     simp only [Act.put, yq0, yq1, yq2, yq3, yq4, yq5]
     refine AnyG.take 2 (v := ?vv163) rfl (by kernel_rfl) (by kernel_rfl) (by kernel_rfl) (by kernel_rfl) (fun _ _ _ h => h) hS ?hy163 (by rfl) ?rest163
     case hy163 =>
      intro w0 h0
      go_simp
      try with_reducible rfl
     simp only [Act.put, yq0, yq1, yq2, yq3, yq4, yq5]
     refine AnyG.take 3 (v := ?vv164) rfl (by kernel_rfl) (by kernel_rfl) (by kernel_rfl) (by kernel_rfl) (fun _ _ _ h => h) hS ?hy164 (by rfl) ?rest164
     case hy164 =>
      intro w0 h0
      have c0 := h0.2.1.cell 1 rfl
      go_simp
      try with_reducible rfl
     simp only [Act.put, yq0, yq1, yq2, yq3, yq4, yq5]
     refine AnyG.take 4 (v := ?vv165) rfl (by kernel_rfl) (by kernel_rfl) (by kernel_rfl) (by kernel_rfl) (fun _ _ _ h => h) hS ?hy165 (by rfl) ?rest165
     case hy165 =>
      intro w0 h0
      go_simp
      try with_reducible rfl
     simp only [Act.put, yq0, yq1, yq2, yq3, yq4, yq5]
     refine AnyG.take 5 (v := ?vv166) rfl (by kernel_rfl) (by kernel_rfl) (by kernel_rfl) (by kernel_rfl) (fun _ _ _ h => h) hS ?hy166 (by rfl) ?rest166
     case hy166 =>
      intro w0 h0
      go_simp
      try with_reducible rfl
     simp only [Act.put, yq0, yq1, yq2, yq3, yq4, yq5]
     refine AnyG.take 6 (v := ?vv167) rfl (by kernel_rfl) (by kernel_rfl) (by kernel_rfl) (by kernel_rfl) (fun _ _ _ h => h) hS ?hy167 (by rfl) ?rest167
     case hy167 =>
      intro w0 h0
      have c0 := h0.1.cell 5 rfl
      go_simp
      try with_reducible rfl
     simp only [Act.put, yq0, yq1, yq2, yq3, yq4, yq5]
     refine AnyG.take 7 (v := ?vv168) rfl (by kernel_rfl) (by kernel_rfl) (by kernel_rfl) (by kernel_rfl) (fun _ _ _ h => h) hS ?hy168 (by rfl) ?rest168
     case hy168 =>
      intro w0 h0
      go_simp
      try with_reducible rfl
     simp only [Act.put, yq0, yq1, yq2, yq3, yq4, yq5]
     refine AnyG.take 8 (v := ?vv169) rfl (by kernel_rfl) (by kernel_rfl) (by kernel_rfl) (by kernel_rfl) (fun _ _ _ h => h) hS ?hy169 (by rfl) ?rest169
     case hy169 =>
      intro w0 h0
      go_simp
      try with_reducible rfl
     simp only [Act.put, yq0, yq1, yq2, yq3, yq4, yq5]
     refine AnyG.take 9 (v := ?vv170) rfl (by kernel_rfl) (by kernel_rfl) (by kernel_rfl) (by kernel_rfl) (fun _ _ _ h => h) hS ?hy170 (by rfl) ?rest170
     case hy170 =>
      intro w0 h0
      go_simp
      try with_reducible rfl
     simp only [Act.put, yq0, yq1, yq2, yq3, yq4, yq5]
     refine AnyG.skip 10 rfl (by kernel_rfl) (by kernel_rfl) (by kernel_rfl) (by kernel_rfl) (fun _ _ _ h => h) hS (by rfl) ?_
     simp only [Act.put, yq0, yq1, yq2, yq3, yq4, yq5]
     refine AnyG.skip 11 rfl (by kernel_rfl) (by kernel_rfl) (by kernel_rfl) (by kernel_rfl) (fun _ _ _ h => h) hS (by rfl) ?_
     simp only [Act.put, yq0, yq1, yq2, yq3, yq4, yq5]
     refine AnyG.skip 12 rfl (by kernel_rfl) (by kernel_rfl) (by kernel_rfl) (by kernel_rfl) (fun _ _ _ h => h) hS (by rfl) ?_
     simp only [Act.put, yq0, yq1, yq2, yq3, yq4, yq5]
     refine AnyG.skip 13 rfl (by kernel_rfl) (by kernel_rfl) (by kernel_rfl) (by kernel_rfl) (fun _ _ _ h => h) hS (by rfl) ?_
     simp only [Act.put, yq0, yq1, yq2, yq3, yq4, yq5]
     refine AnyG.skip 14 rfl (by kernel_rfl) (by kernel_rfl) (by kernel_rfl) (by kernel_rfl) (fun _ _ _ h => h) hS (by rfl) ?_
     simp only [Act.put, yq0, yq1, yq2, yq3, yq4, yq5]
     refine AnyG.skip 15 rfl (by kernel_rfl) (by kernel_rfl) (by kernel_rfl) (by kernel_rfl) (fun _ _ _ h => h) hS (by rfl) ?_
     simp only [Act.put, yq0, yq1, yq2, yq3, yq4, yq5]
     refine AnyG.skip 16 rfl (by kernel_rfl) (by kernel_rfl) (by kernel_rfl) (by kernel_rfl) (fun _ _ _ h => h) hS (by rfl) ?_
     simp only [Act.put, yq0, yq1, yq2, yq3, yq4, yq5]
     refine AnyG.skip 17 rfl (by kernel_rfl) (by kernel_rfl) (by kernel_rfl) (by kernel_rfl) (fun _ _ _ h => h) hS (by rfl) ?_
     simp only [Act.put, yq0, yq1, yq2, yq3, yq4, yq5]
     refine AnyG.skip 18 rfl (by kernel_rfl) (by kernel_rfl) (by kernel_rfl) (by kernel_rfl) (fun _ _ _ h => h) hS (by rfl) ?_
     simp only [Act.put, yq0, yq1, yq2, yq3, yq4, yq5]
     refine AnyG.skip 19 rfl (by kernel_rfl) (by kernel_rfl) (by kernel_rfl) (by kernel_rfl) (fun _ _ _ h => h) hS (by rfl) ?_
     simp only [Act.put, yq0, yq1, yq2, yq3, yq4, yq5]
     refine AnyG.skip 20 rfl (by kernel_rfl) (by kernel_rfl) (by kernel_rfl) (by kernel_rfl) (fun _ _ _ h => h) hS (by rfl) ?_
     simp only [Act.put, yq0, yq1, yq2, yq3, yq4, yq5]
     refine AnyG.skip 21 rfl (by kernel_rfl) (by kernel_rfl) (by kernel_rfl) (by kernel_rfl) (fun _ _ _ h => h) hS (by rfl) ?_
     simp only [Act.put, yq0, yq1, yq2, yq3, yq4, yq5]
     refine AnyG.take 22 (v := ?vv171) rfl (by kernel_rfl) (by kernel_rfl) (by kernel_rfl) (by kernel_rfl) (fun _ _ _ h => h) hS ?hy171 (by rfl) ?rest171
     case hy171 =>
      intro w0 h0
      go_simp
      try with_reducible rfl
     simp only [Act.put, yq0, yq1, yq2, yq3, yq4, yq5]
     refine AnyG.take 23 (v := ?vv172) rfl (by kernel_rfl) (by kernel_rfl) (by kernel_rfl) (by kernel_rfl) (fun _ _ _ h => h) hS ?hy172 (by rfl) ?rest172
     case hy172 =>
      intro w0 h0
      go_simp
      try with_reducible rfl
     simp only [Act.put, yq0, yq1, yq2, yq3, yq4, yq5]
     refine AnyG.done (by kernel_rfl) ?_ _
     go_wp2
     go_ret
     exact ⟨rfl, bV⟩
  ·obtain rfl : B = false := HC0.out (.inr z2)
   clear HC0 HC1 HK1 HLa HA
   go_wp2
   go_ret
   exact ⟨rfl, bw2⟩
 ·obtain rfl : B = false := HC0.out (.inl z1)
  clear HC0 HC1 HK1 HLa HA
  go_wp2
  go_ret
  exact ⟨rfl, bw2⟩
end Go.Proofs.YtpeecabfcgijhaaGreatDoor
