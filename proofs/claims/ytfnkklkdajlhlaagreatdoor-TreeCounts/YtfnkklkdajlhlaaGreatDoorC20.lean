/-
  The contract of the program's Check. The contracts of the program's blockAt and of the function that it hands to along.
-/
import Derived.Test.YtfnkklkdajlhlaaGreatDoorC19
set_option linter.unusedVariables false
set_option linter.unusedSimpArgs false
set_option maxRecDepth 100000
set_option maxHeartbeats 16000000
namespace Go.Proofs.YtfnkklkdajlhlaaGreatDoor
open Go.RowKit Num Bit Bn
theorem ok_ck (a : RA8) (h : kOk8 a = true) : ∃ m, CK a m := by
 obtain ⟨m, h1, h2, h3, h4, e⟩ := ok_kb a h
 have := kb_ck m (kBX8 a) h2 h4
 rw [← e] at this
 exact ⟨m, this⟩
theorem bool_false {b : Bool} (h : b = true → False) : b = false := by
 cases b with
 | false => rfl
 | true => exact absurd rfl (fun e => h e)
theorem ck_fit (a : RA8) (m : Nat) (h : CK a m) : fitB a = true := by
 unfold fitB
 refine decide_eq_true ?_
 rw [h.nN, Int.toNat_natCast]
 exact ⟨⟨by omega, by have := h.le; omega⟩, h.ic, h.oc, h.nV, h.nk, h.sl, h.tl⟩
theorem fit_bad (a : RA8) (h : fitB a = false) : kOk8 a = false := bool_false fun hk => by
 obtain ⟨m, c⟩ := ok_ck a hk
 rw [ck_fit a m c] at h
 cases h
theorem fit_out (a : RA8) (h : fitB a = true) : ∃ m : Nat, a.N = m ∧ m ≤ 1048576 ∧ ichk a.k a.V a.M a.xs = true ∧ chk a.L a.ys = true ∧ a.V = 4 ∧ a.k = (nb m : Int) ∧ a.S.length = gN m ∧ a.T.length = gN m := by
 obtain ⟨h1, h2, h3, h4, h5, h6, h7⟩ := of_decide_eq_true h
 obtain ⟨m, e⟩ := Int.eq_ofNat_of_zero_le h1.1
 rw [e, Int.toNat_natCast] at h5 h6 h7
 exact ⟨m, e, by omega, h2, h3, h4, h5, h6, h7⟩
theorem ck_is (a : RA8) (m : Nat) (hN : a.N = m) (h : kOk8 a = true) : CK a m := by
 obtain ⟨m', c⟩ := ok_ck a h
 have := c.nN
 obtain rfl : m = m' := by omega
 exact c
theorem last_iff (c o r : Nat) (ho : o < ch 15 c) : (cnt (blk 15 c o % 2 ^ r) 15 = c ∧ off (blk 15 c o % 2 ^ r) 15 = o) ↔ blk 15 c o < 2 ^ r := by
 have hb := blk_lt 15 c o
 have hm := Nat.mod_le (blk 15 c o) (2 ^ r)
 have P := Nat.two_pow_pos r
 constructor
 ·rintro ⟨h1, h2⟩
  have := blk_off (blk 15 c o % 2 ^ r) 15
  rw [h1, h2, Nat.mod_eq_of_lt (show blk 15 c o % 2 ^ r < 2 ^ 15 by omega)] at this
  rw [this]
  exact Nat.mod_lt _ P
 ·intro h
  rw [Nat.mod_eq_of_lt h]
  exact blk_in 15 c o ho
def lstK (xs : List Nat) : Nat → Nat
 | 0 => 0
 | i + 1 => cls xs i
def lstO (L : Int) (ys xs : List Nat) : Nat → Nat
 | 0 => 0
 | i + 1 => cOff L ys xs i
structure CInv (cs : List Value) (a : RA8) (w0 : World) (gx gl i : Nat) (w : World) : Prop where
 below : Below w0.heap.size w0 w
 x : Cel w gx cs 41
 last : Cel w gl [.int .i64 (lstK a.xs i : Nat), .int .u64 (lstO a.L a.ys a.xs i : Nat)] 165
 right : ∀ j, j < i → cSE a.L a.ys a.xs j = 0 ∧ Rgt a j
theorem CInv.keep {cs : List Value} {a : RA8} {w0 : World} {gx gl i hi : Nat} {w w' : World} (h : CInv cs a w0 gx gl i w) (h0 : w0.heap.size ≤ hi) (h1 : gx < hi) (h3 : gl < hi) (hb : Below hi w w') : CInv cs a w0 gx gl i w' :=
 ⟨h.below.trans (hb.mono h0), h.x.keep hb h1, h.last.keep hb h3, h.right⟩
theorem qcheck_c (cs : List Value) (a : RA8) (w : World) (h : KI8 w cs a) :
  Calls Tryz.prog 85 #[.agg cs.toArray] w fun e w' => e = .returned (.bool (kOk8 a)) ∧ Below w.heap.size w w' := by
 obtain ⟨B, hB⟩ : ∃ B, Hid (B = kOk8 a) := ⟨_, rfl⟩
 rw [← hB.out]
 have HF : Hid (∀ w0, Below w.heap.size w w0 → Calls Tryz.prog 140 #[.agg cs.toArray] w0 fun e w' => e = .returned (.bool (fitB a)) ∧ Below w0.heap.size w0 w') := fun w0 hb => qfits_c cs a w0 (h.keep hb)
 have hmf : ∀ (fn : Fn) (first cap : Array Value) (w : World), (Instr.makeFunc fn first cap).run Tryz.prog w = .ok (.func fn first cap) w := fun _ _ _ _ => rfl
 cases hf : fitB a with
 | false =>
  obtain rfl : B = false := by rw [hB.out]; exact fit_bad a hf
  rw [hf] at HF
  obtain ⟨⟨ao, cap, qo, dap, so, sc, tO, tc, rfl, _⟩, _⟩ := h
  obtain ⟨N, k, V, M, xs, L, ys, S, T⟩ := a
  dsimp only at *
  obtain ⟨W, hW⟩ : ∃ W, W = w.alloc (.cells #[.int .i64 N, .int .i64 k, .int .i64 V, .int .i64 M, .slice ao xs.length cap, .int .i64 L, .slice qo ys.length dap, .slice so S.length sc, .slice tO T.length tc] 41) := ⟨_, rfl⟩
  have bW := yb1 hW
  clear hf hB
  go_enter Tryz.func85, Tryz.ntmps85
  go_wp2_with fail
  rw [← hW]
  refine (HF.out _ bW).mono ?_
  rintro e w1 ⟨rfl, hb⟩
  have bw1 := bW.trans (hb.mono bW.size)
  clear hW hb
  go_wp2
  go_ret
  exact ⟨rfl, bw1⟩
 | true =>
 rw [hf] at HF
 obtain ⟨m, e1, hm, ic, oc, e2, e3, sl, tl⟩ := fit_out a hf
 have hCK : Hid (B = true → CK a m) := fun hk => ck_is a m e1 (by rw [← hB.out]; exact hk)
 have hg : 0 < gN m := by unfold gN; omega
 have HM : Hid (∀ w0, Below w.heap.size w w0 → Calls Tryz.prog 141 #[.agg cs.toArray, .int .i64 0] w0 fun e w' => e = .returned (.agg #[.int .i64 (gi a.S 0), .int .i64 (gi a.T 0)]) ∧ Below w0.heap.size w0 w') := fun w0 hb => qmarkOf_c cs a 0 w0 (h.keep hb) (by omega) (by omega)
 have HB : Hid (∀ m', CK a m' → B = true) := fun m' c => by
  rw [hB.out]
  obtain ⟨⟨ao, cap, qo, dap, so, sc, tO, tc, _, _, _, f1, _, _, f2, _⟩, _⟩ := h
  exact ck_ok a m' f1 f2 c
 have nbl := nb_le m hm
 have HA : Hid (∀ (gx gl : Nat) w1, gi a.S 0 = 0 → gi a.T 0 = 0 → CInv cs a w gx gl 0 w1 → w.heap.size ≤ gl → gl ≠ gx → gx < w1.heap.size → gl < w1.heap.size →
   Calls Tryz.prog 142 #[.agg cs.toArray, .int .i64 0, .func (.func 143) #[] #[.pointer (some ⟨gl, 0, none⟩), .pointer (some ⟨gx, 0, none⟩)]] w1 fun e w' => ∃ (q : Nat) (b : Bool), e = .returned (.tuple #[.agg #[.int .i64 (cOn a.xs q : Nat), .int .i64 (cAt a.xs q : Nat)], .bool b]) ∧ q ≤ nb m ∧ (b = true → q = nb m ∧ CInv cs a w gx gl (nb m) w') ∧ (b = false → B = false) ∧ Fr8 w.heap.size w1.heap.size w1 w') := by
  intro gx gl w1 s0 t0 hI l1 l2 l4 l6
  refine (qalong_c cs a 0 (nb m) w.heap.size w1.heap.size 143 #[.pointer (some ⟨gl, 0, none⟩), .pointer (some ⟨gx, 0, none⟩)] (fun i w2 => CInv cs a w gx gl i w2) (fun i _ => ¬ Rgt a i) w1 e3 e2 ic (by omega) (by omega) (by omega) s0 t0 hI.below.size (Nat.le_refl _) hI (fun i w2 hi => h.keep hi.below) (fun i w2 w3 hi hb => hi.keep hI.below.size l4 l6 hb) (fun i _ _ hi _ => hi) ?cf ?st).mono ?_
  case cf =>
   intro args w2
   kernel_rfl
  case st =>
   intro i w2 _ hin hse hi2 hw2
   have i8 : i / 8 < gN m := by unfold gN; omega
   refine (qcheck1_c cs a i gl gx w.heap.size w1.heap.size _ w w2 h hi2.below rfl (by omega) (by omega) (by omega) hi2.last rfl hi2.x l2 l1 l6 hw2).mono ?_
   rintro e w3 ⟨rfl, c1, c2, c3, fr⟩
   refine ⟨_, rfl, fun hr => ?_, fun hr => by have h := of_decide_eq_false hr; exact h, fr⟩
   have hr := of_decide_eq_true hr
   refine ⟨hi2.below.trans fr.below, c3, c1, fun j hj => ?_⟩
   by_cases c : j = i
   ·subst c; exact ⟨hse, hr⟩
   ·exact hi2.right j (by omega)
  ·rintro e w2 ⟨q, b, rfl, _, hq, h1, h2, fr⟩
   refine ⟨q, b, rfl, hq, h1, fun hb => ?_, fr⟩
   obtain ⟨hlt, h3⟩ := h2 hb
   refine bool_false fun hk => ?_
   have ck := hCK.out hk
   have ea := ck.each q hlt
   rcases h3 with ⟨h3, _⟩ | ⟨_, h3⟩
   ·exact h3 ea.1
   ·exact h3 ea.2
 have HLa : Hid (∀ gx gl w', CInv cs a w gx gl (nb m) w' → lstO a.L a.ys a.xs (nb m) < ch 15 (lstK a.xs (nb m))) := by
  intro gx gl w' hI
  by_cases c : nb m = 0
  ·rw [c]; show 0 < ch 15 0; rw [ch_zero]; decide
  ·obtain ⟨j, hj⟩ : ∃ j, nb m = j + 1 := ⟨nb m - 1, by omega⟩
   rw [hj]
   exact (hI.right j (by omega)).2.1
 have HK1 : Hid (∀ gx gl w', CInv cs a w gx gl (nb m) w' → gi a.S 0 = 0 → gi a.T 0 = 0 → (cAt a.xs (nb m) : Int) = a.L → (B = true ↔ blk 15 (lstK a.xs (nb m)) (lstO a.L a.ys a.xs (nb m)) < 2 ^ (15 + m - 15 * nb m))) := by
  intro gx gl w' hI s0 t0 he
  by_cases c : nb m = 0
  ·rw [c]
   refine ⟨fun _ => ?_, fun _ => HB.out m ⟨e1, hm, e3, e2, ic, oc, sl, tl, s0, t0, fun i hi => by omega, he, fun h0 => by omega⟩⟩
   show blk 15 0 0 < _
   rw [blk_zero]
   exact Nat.two_pow_pos _
  ·obtain ⟨j, hj⟩ : ∃ j, nb m = j + 1 := ⟨nb m - 1, by omega⟩
   have ex : 15 + m - 15 * nb m = m - 15 * (nb m - 1) := by omega
   have el : blk 15 (lstK a.xs (nb m)) (lstO a.L a.ys a.xs (nb m)) = cWd a.L a.ys a.xs (nb m - 1) := by rw [hj]; rfl
   rw [ex, el]
   refine ⟨fun hk => (hCK.out hk).last (by omega), fun hl => HB.out m ⟨e1, hm, e3, e2, ic, oc, sl, tl, s0, t0, fun i hi => ?_, he, fun _ => hl⟩⟩
   obtain ⟨r1, r2, r3⟩ := hI.right i hi
   exact ⟨r1, r2, r3⟩
 have lkb : lstK a.xs (nb m) ≤ 15 := by
  cases nb m with
  | zero => exact Nat.zero_le _
  | succ j => exact cls_le _ _
 have rb : 15 + m - 15 * nb m ≤ 15 := by unfold nb; omega
 have rb2 : ((15 + m - 15 * nb m : Nat) : Int) = (m : Int) - 15 * ((nb m : Int) - 1) := by unfold nb; omega
 obtain ⟨⟨ao, cap, qo, dap, so, sc, tO, tc, rfl, ⟨_, _, _, _, hL64, _, _⟩, _⟩, _⟩ := h
 obtain ⟨N, k, V, M, xs, L, ys, S, T⟩ := a
 dsimp only at *
 subst e1 e2 e3
 obtain ⟨W, hW⟩ : ∃ W, W = w.alloc (.cells #[.int .i64 (m : Int), .int .i64 (nb m : Nat), .int .i64 4, .int .i64 M, .slice ao xs.length cap, .int .i64 L, .slice qo ys.length dap, .slice so S.length sc, .slice tO T.length tc] 41) := ⟨_, rfl⟩
 have bW := yb1 hW
 have B1 := yc1 hW
 clear hf hB HB sl tl
 have HC0 : Hid (gi S 0 ≠ 0 ∨ gi T 0 ≠ 0 → B = false) := fun hn => bool_false fun hk => by
  have ck := hCK.out hk
  have := ck.s0
  have := ck.t0
  dsimp only at *
  omega
 have HC1 : Hid ((cAt xs (nb m) : Int) ≠ L → B = false) := fun hn => bool_false fun hk => hn (hCK.out hk).done
 clear hCK
 generalize gi S 0 = s0 at *
 generalize gi T 0 = t0 at *
 go_enter Tryz.func85, Tryz.ntmps85
 go_wp2_with fail
 rw [← hW]
 refine (HF.out _ bW).mono ?_
 rintro e w1 ⟨rfl, hb⟩
 have bw1 := bW.trans (hb.mono bW.size)
 replace B1 := B1.kept hb
 clear hW hb HF bW
 have q0 := B1.cell 0 rfl
 have q1 := B1.cell 1 rfl
 have q2 := B1.cell 2 rfl
 have q3 := B1.cell 3 rfl
 have q4 := B1.cell 4 rfl
 have q5 := B1.cell 5 rfl
 have q6 := B1.cell 6 rfl
 have q7 := B1.cell 7 rfl
 have q8 := B1.cell 8 rfl
 go_wp2_with fail
 refine (HM.out _ bw1).mono ?_
 rintro e w2 ⟨rfl, hb⟩
 have bw2 := bw1.trans (hb.mono bw1.size)
 replace B1 := B1.kept hb
 clear hb HM bw1 q0 q1 q2 q3 q4 q5 q6 q7 q8
 by_cases z1 : s0 = 0
 ·by_cases z2 : t0 = 0
  ·subst z1 z2
   have lt1 := B1.lt
   have z3 := bw2.size
   have q0 := B1.cell 0 rfl
   have q1 := B1.cell 1 rfl
   have q2 := B1.cell 2 rfl
   have q3 := B1.cell 3 rfl
   have q4 := B1.cell 4 rfl
   have q5 := B1.cell 5 rfl
   have q6 := B1.cell 6 rfl
   have q7 := B1.cell 7 rfl
   have q8 := B1.cell 8 rfl
   have l0 := B1.lt
   obtain ⟨W6, hW6⟩ : ∃ W6, W6 = w2.alloc (.cells #[.int .i64 0, .int .u64 0] 165) := ⟨_, rfl⟩
   have hb6 : Below w2.heap.size w2 W6 := by rw [hW6]; exact below_alloc w2 _
   have bw6 := bw2.trans (hb6.mono bw2.size)
   have z6 : W6.heap.size = w2.heap.size + 1 := by rw [hW6]; simp
   have B5 : Cel W6 w2.heap.size [.int .i64 0, .int .u64 0] 165 := by rw [hW6]; exact Cel.new w2 _ _
   replace B1 := B1.kept hb6
   have CI : Hid (CInv [.int .i64 (m : Int), .int .i64 (nb m : Nat), .int .i64 4, .int .i64 M, .slice ao xs.length cap, .int .i64 L, .slice qo ys.length dap, .slice so S.length sc, .slice tO T.length tc] ⟨m, nb m, 4, M, xs, L, ys, S, T⟩ w w.heap.size w2.heap.size 0 W6) := ⟨bw6, B1, B5, fun j hj => absurd hj (Nat.not_lt_zero j)⟩
   have CIb : Hid (Below w.heap.size w W6) := bw6
   clear hb6 bw6 B5 B1
   go_wp2_with fail
   rw [← hW6]
   refine (HA.out w.heap.size w2.heap.size W6 (by simp) (by simp) CI.out (by omega) (by omega) (by omega) (by omega)).mono ?_
   clear q0 q1 q2 q3 q4 q5 q6 q7 q8 hW6 HA CI HC0 bw2
   rintro e w7 ⟨q, b, rfl, hq, h1, h2, fr⟩
   cases b with
   | false =>
    obtain rfl : B = false := h2 rfl
    have bw7 := fr.below
    have HBW : Hid (Below w.heap.size w w7) := CIb.out.trans bw7
    clear HC1 HK1 HLa h1 h2 fr bw7
    go_wp2
    refine region_g [] (fun w' => True) (by kernel_rfl) ?_
    have hS : True := trivial
    have bV : Below w.heap.size w (w7.alloc (.cells #[.int .i64 (cOn xs q : Nat), .int .i64 (cAt xs q : Nat)] 149)).drew := (HBW.out.alloc HBW.out.size _).drew
    generalize (w7.alloc (.cells #[.int .i64 (cOn xs q : Nat), .int .i64 (cAt xs q : Nat)] 149)).drew = Y at *
    refine AnyG.tk 0 hS ?_
    refine AnyG.tk 1 hS ?_
    refine AnyG.sk 2 hS ?_
    refine AnyG.sk 3 hS ?_
    refine AnyG.sk 4 hS ?_
    refine AnyG.sk 5 hS ?_
    refine AnyG.sk 6 hS ?_
    refine AnyG.sk 7 hS ?_
    refine AnyG.tk 8 hS ?_
    refine AnyG.tk 9 hS ?_
    refine AnyG.sk 10 hS ?_
    refine AnyG.sk 11 hS ?_
    refine AnyG.sk 12 hS ?_
    refine AnyG.sk 13 hS ?_
    refine AnyG.sk 14 hS ?_
    refine AnyG.sk 15 hS ?_
    refine AnyG.sk 16 hS ?_
    refine AnyG.sk 17 hS ?_
    refine AnyG.sk 18 hS ?_
    refine AnyG.sk 19 hS ?_
    refine AnyG.sk 20 hS ?_
    refine AnyG.sk 21 hS ?_
    refine AnyG.tk 22 hS ?_
    refine AnyG.tk 23 hS ?_
    refine AnyG.done (by kernel_rfl) ?_ _
    go_wp2
    go_ret
    exact ⟨rfl, bV⟩
   | true =>
    obtain ⟨rfl, ci⟩ := h1 rfl
    have bw7 := fr.below
    have HBW : Hid (Below w.heap.size w w7) := CIb.out.trans bw7
    have HO := HLa.out _ _ _ ci
    have HKK : Hid ((cAt xs (nb m) : Int) = L → (B = true ↔ blk 15 (lstK xs (nb m)) (lstO L ys xs (nb m)) < 2 ^ (15 + m - 15 * nb m))) := fun e => HK1.out _ _ _ ci (by simp) (by simp) e
    have u1 : IntKind.i64.wrap ((nb m : Int) - 1) = (nb m : Int) - 1 := by rw [IntKind.wrap_i64]; omega
    have u2 : IntKind.i64.wrap (15 * ((nb m : Int) - 1)) = 15 * ((nb m : Int) - 1) := by rw [IntKind.wrap_i64]; omega
    have u3 : IntKind.i64.wrap ((m : Int) - 15 * ((nb m : Int) - 1)) = ((15 + m - 15 * nb m : Nat) : Int) := by rw [IntKind.wrap_i64, rb2]; omega
    have HWn : Hid (∀ w0, Calls Tryz.prog 144 #[.agg #[.int .i64 (lstK xs (nb m) : Nat), .int .u64 (lstO L ys xs (nb m) : Nat)], .int .i64 ((15 + m - 15 * nb m : Nat) : Int)] w0 fun e w' => e = .returned (.agg #[.int .i64 (cnt (blk 15 (lstK xs (nb m)) (lstO L ys xs (nb m)) % 2 ^ (15 + m - 15 * nb m)) 15 : Nat), .int .u64 (off (blk 15 (lstK xs (nb m)) (lstO L ys xs (nb m)) % 2 ^ (15 + m - 15 * nb m)) 15 : Nat)]) ∧ Below w0.heap.size w0 w') := fun w0 => qwithin_c _ _ _ lkb HO (by omega) w0
    have HLI : Hid ((cnt (blk 15 (lstK xs (nb m)) (lstO L ys xs (nb m)) % 2 ^ (15 + m - 15 * nb m)) 15 = lstK xs (nb m) ∧ off (blk 15 (lstK xs (nb m)) (lstO L ys xs (nb m)) % 2 ^ (15 + m - 15 * nb m)) 15 = lstO L ys xs (nb m)) ↔ blk 15 (lstK xs (nb m)) (lstO L ys xs (nb m)) < 2 ^ (15 + m - 15 * nb m)) := last_iff _ _ _ HO
    have B1 := ci.x
    have B5 := ci.last
    dsimp only at B5
    clear HLa HK1 h1 h2 fr bw7 ci HO rb rb2 ic
    generalize cnt (blk 15 (lstK xs (nb m)) (lstO L ys xs (nb m)) % 2 ^ (15 + m - 15 * nb m)) 15 = K at *
    generalize off (blk 15 (lstK xs (nb m)) (lstO L ys xs (nb m)) % 2 ^ (15 + m - 15 * nb m)) 15 = O at *
    generalize (blk 15 (lstK xs (nb m)) (lstO L ys xs (nb m)) < 2 ^ (15 + m - 15 * nb m)) = Pr at *
    generalize 15 + m - 15 * nb m = r at *
    generalize lstK xs (nb m) = lk at *
    generalize lstO L ys xs (nb m) = lo at *
    generalize cAt xs (nb m) = pe at *
    generalize cOn xs (nb m) = po at *
    generalize nb m = n at *
    go_wp2
    have hb8 := below_alloc w7 (.cells #[.int .i64 (po : Nat), .int .i64 (pe : Nat)] 149)
    have B6 := Cel.new w7 [.int .i64 (po : Nat), .int .i64 (pe : Nat)] 149
    replace B1 := B1.kept hb8
    replace B5 := B5.kept hb8
    have bV : Below w.heap.size w (w7.alloc (.cells #[.int .i64 (po : Nat), .int .i64 (pe : Nat)] 149)).drew := (HBW.out.alloc HBW.out.size _).drew
    refine region_g [] (fun w' => Cel w' w.heap.size [.int .i64 (m : Int), .int .i64 (n : Nat), .int .i64 4, .int .i64 M, .slice ao xs.length cap, .int .i64 L, .slice qo ys.length dap, .slice so S.length sc, .slice tO T.length tc] 41 ∧ Cel w' w7.heap.size [.int .i64 (po : Nat), .int .i64 (pe : Nat)] 149 ∧ Cel w' w2.heap.size [.int .i64 (lk : Nat), .int .u64 (lo : Nat)] 165) (by kernel_rfl) ?_
    have hS : Cel (w7.alloc (.cells #[.int .i64 (po : Nat), .int .i64 (pe : Nat)] 149)).drew w.heap.size [.int .i64 (m : Int), .int .i64 (n : Nat), .int .i64 4, .int .i64 M, .slice ao xs.length cap, .int .i64 L, .slice qo ys.length dap, .slice so S.length sc, .slice tO T.length tc] 41 ∧ Cel (w7.alloc (.cells #[.int .i64 (po : Nat), .int .i64 (pe : Nat)] 149)).drew w7.heap.size [.int .i64 (po : Nat), .int .i64 (pe : Nat)] 149 ∧ Cel (w7.alloc (.cells #[.int .i64 (po : Nat), .int .i64 (pe : Nat)] 149)).drew w2.heap.size [.int .i64 (lk : Nat), .int .u64 (lo : Nat)] 165 := ⟨B1, B6, B5⟩
    clear B1 B5 B6 hb8
    generalize (w7.alloc (.cells #[.int .i64 (po : Nat), .int .i64 (pe : Nat)] 149)).drew = Y at *
    by_cases pl : (pe : Int) = L
    ·have pl2 : ((pe : Int) == L) = true := by simpa using pl
     have HP := HKK.out pl
     by_cases pr : Pr
     ·obtain rfl : B = true := HP.2 pr
      obtain ⟨k1, k2⟩ := HLI.out.2 pr
      have k3 : (lk : Int) = (K : Int) := by omega
      have k4 : (lo : Int) = (O : Int) := by omega
      subst k1 k2
      clear k3 k4 HP HKK HLI
      refine AnyG.tk 0 hS ?_
      refine AnyG.tk 1 hS ?_
      refine AnyG.tk 2 hS ?_
      refine AnyG.tf 3 hS rfl (fun w0 h0 => by have c0 := h0.2.1.cell 1 rfl; go_simp; try with_reducible rfl) ?_
      refine AnyG.tk 4 hS ?_
      refine AnyG.tk 5 hS ?_
      refine AnyG.tf 6 hS rfl (fun w0 h0 => by have c0 := h0.1.cell 5 rfl; go_simp; try with_reducible rfl) ?_
      refine AnyG.tk 7 hS ?_
      refine AnyG.tk 8 hS ?_
      refine AnyG.tk 9 hS ?_
      refine AnyG.tf 10 hS rfl (fun w0 h0 => by have c0 := h0.2.2.cell 0 rfl; have c1 := h0.2.2.cell 1 rfl; go_simp; try with_reducible rfl) ?_
      refine AnyG.tf 11 hS rfl (fun w0 h0 => by have c0 := h0.2.2.cell 0 rfl; have c1 := h0.2.2.cell 1 rfl; go_simp; try with_reducible rfl) ?_
      refine AnyG.tk 12 hS ?_
      refine AnyG.tf 13 hS rfl (fun w0 h0 => by have c0 := h0.1.cell 0 rfl; go_simp; try with_reducible rfl) ?_
      refine AnyG.tk 14 hS ?_
      refine AnyG.tk 15 hS ?_
      refine AnyG.tf 16 hS rfl (fun w0 h0 => by have c0 := h0.1.cell 1 rfl; go_simp; try with_reducible rfl) ?_
      refine AnyG.tk 17 hS ?_
      refine AnyG.tk 18 hS ?_
      refine AnyG.tk 19 hS ?_
      refine AnyG.o1 20 ?_
      intro K hK
      go_simp
      refine (HWn.out _).mono ?_
      rintro e w9 ⟨rfl, hb⟩
      have hS9 := And.intro (hS.1.kept hb) (And.intro (hS.2.1.kept hb) (hS.2.2.kept hb))
      have bw9 := bV.trans (hb.mono bV.size)
      clear hb hS bV HWn
      refine hK.out _ _ (fun _ => hS9) ?_
      clear hK K
      try simp only [Act.put, yq0, yq1, yq2, yq3, yq4, yq5]
      refine AnyG.tk 21 hS9 ?_
      refine AnyG.tk 22 hS9 ?_
      refine AnyG.tk 23 hS9 ?_
      refine AnyG.done (by kernel_rfl) ?_ _
      go_wp2
      go_ret
      exact ⟨rfl, bw9⟩
     ·obtain rfl : B = false := bool_false fun hk => pr (HP.1 hk)
      have kn : ¬ (K = lk ∧ O = lo) := fun hk => pr (HLI.out.1 hk)
      by_cases k1 : lk = K
      ·have k2 : ¬ (lo : Int) = (O : Int) := by omega
       have k3 : ¬ lo = O := by omega
       subst k1
       clear HP HKK HLI kn
       refine AnyG.tk 0 hS ?_
       refine AnyG.tk 1 hS ?_
       refine AnyG.tk 2 hS ?_
       refine AnyG.tf 3 hS rfl (fun w0 h0 => by have c0 := h0.2.1.cell 1 rfl; go_simp; try with_reducible rfl) ?_
       refine AnyG.tk 4 hS ?_
       refine AnyG.tk 5 hS ?_
       refine AnyG.tf 6 hS rfl (fun w0 h0 => by have c0 := h0.1.cell 5 rfl; go_simp; try with_reducible rfl) ?_
       refine AnyG.tk 7 hS ?_
       refine AnyG.tk 8 hS ?_
       refine AnyG.tk 9 hS ?_
       refine AnyG.tf 10 hS rfl (fun w0 h0 => by have c0 := h0.2.2.cell 0 rfl; have c1 := h0.2.2.cell 1 rfl; go_simp; try with_reducible rfl) ?_
       refine AnyG.tf 11 hS rfl (fun w0 h0 => by have c0 := h0.2.2.cell 0 rfl; have c1 := h0.2.2.cell 1 rfl; go_simp; try with_reducible rfl) ?_
       refine AnyG.tk 12 hS ?_
       refine AnyG.tf 13 hS rfl (fun w0 h0 => by have c0 := h0.1.cell 0 rfl; go_simp; try with_reducible rfl) ?_
       refine AnyG.tk 14 hS ?_
       refine AnyG.tk 15 hS ?_
       refine AnyG.tf 16 hS rfl (fun w0 h0 => by have c0 := h0.1.cell 1 rfl; go_simp; try with_reducible rfl) ?_
       refine AnyG.tk 17 hS ?_
       refine AnyG.tk 18 hS ?_
       refine AnyG.tk 19 hS ?_
       refine AnyG.o1 20 ?_
       intro K hK
       go_simp
       refine (HWn.out _).mono ?_
       rintro e w9 ⟨rfl, hb⟩
       have hS9 := And.intro (hS.1.kept hb) (And.intro (hS.2.1.kept hb) (hS.2.2.kept hb))
       have bw9 := bV.trans (hb.mono bV.size)
       clear hb hS bV HWn
       refine hK.out _ _ (fun _ => hS9) ?_
       clear hK K
       try simp only [Act.put, yq0, yq1, yq2, yq3, yq4, yq5]
       refine AnyG.tk 21 hS9 ?_
       refine AnyG.tk 22 hS9 ?_
       refine AnyG.tk 23 hS9 ?_
       refine AnyG.done (by kernel_rfl) ?_ _
       go_wp2
       go_ret
       exact ⟨rfl, bw9⟩
      ·have k2 : ¬ (lk : Int) = (K : Int) := by omega
       clear HP HKK HLI kn
       refine AnyG.tk 0 hS ?_
       refine AnyG.tk 1 hS ?_
       refine AnyG.tk 2 hS ?_
       refine AnyG.tf 3 hS rfl (fun w0 h0 => by have c0 := h0.2.1.cell 1 rfl; go_simp; try with_reducible rfl) ?_
       refine AnyG.tk 4 hS ?_
       refine AnyG.tk 5 hS ?_
       refine AnyG.tf 6 hS rfl (fun w0 h0 => by have c0 := h0.1.cell 5 rfl; go_simp; try with_reducible rfl) ?_
       refine AnyG.tk 7 hS ?_
       refine AnyG.tk 8 hS ?_
       refine AnyG.tk 9 hS ?_
       refine AnyG.tf 10 hS rfl (fun w0 h0 => by have c0 := h0.2.2.cell 0 rfl; have c1 := h0.2.2.cell 1 rfl; go_simp; try with_reducible rfl) ?_
       refine AnyG.tf 11 hS rfl (fun w0 h0 => by have c0 := h0.2.2.cell 0 rfl; have c1 := h0.2.2.cell 1 rfl; go_simp; try with_reducible rfl) ?_
       refine AnyG.tk 12 hS ?_
       refine AnyG.tf 13 hS rfl (fun w0 h0 => by have c0 := h0.1.cell 0 rfl; go_simp; try with_reducible rfl) ?_
       refine AnyG.tk 14 hS ?_
       refine AnyG.tk 15 hS ?_
       refine AnyG.tf 16 hS rfl (fun w0 h0 => by have c0 := h0.1.cell 1 rfl; go_simp; try with_reducible rfl) ?_
       refine AnyG.tk 17 hS ?_
       refine AnyG.tk 18 hS ?_
       refine AnyG.tk 19 hS ?_
       refine AnyG.o1 20 ?_
       intro K hK
       go_simp
       refine (HWn.out _).mono ?_
       rintro e w9 ⟨rfl, hb⟩
       have hS9 := And.intro (hS.1.kept hb) (And.intro (hS.2.1.kept hb) (hS.2.2.kept hb))
       have bw9 := bV.trans (hb.mono bV.size)
       clear hb hS bV HWn
       refine hK.out _ _ (fun _ => hS9) ?_
       clear hK K
       try simp only [Act.put, yq0, yq1, yq2, yq3, yq4, yq5]
       refine AnyG.tk 21 hS9 ?_
       refine AnyG.tk 22 hS9 ?_
       refine AnyG.tk 23 hS9 ?_
       refine AnyG.done (by kernel_rfl) ?_ _
       go_wp2
       go_ret
       exact ⟨rfl, bw9⟩
    ·have pl2 : ((pe : Int) == L) = false := by simpa using pl
     obtain rfl : B = false := HC1.out pl
     clear HKK HLI
     refine AnyG.tk 0 hS ?_
     refine AnyG.tk 1 hS ?_
     refine AnyG.tk 2 hS ?_
     refine AnyG.tf 3 hS rfl (fun w0 h0 => by have c0 := h0.2.1.cell 1 rfl; go_simp; try with_reducible rfl) ?_
     refine AnyG.tk 4 hS ?_
     refine AnyG.tk 5 hS ?_
     refine AnyG.tf 6 hS rfl (fun w0 h0 => by have c0 := h0.1.cell 5 rfl; go_simp; try with_reducible rfl) ?_
     refine AnyG.tk 7 hS ?_
     refine AnyG.tk 8 hS ?_
     refine AnyG.tk 9 hS ?_
     refine AnyG.sk 10 hS ?_
     refine AnyG.sk 11 hS ?_
     refine AnyG.sk 12 hS ?_
     refine AnyG.sk 13 hS ?_
     refine AnyG.sk 14 hS ?_
     refine AnyG.sk 15 hS ?_
     refine AnyG.sk 16 hS ?_
     refine AnyG.sk 17 hS ?_
     refine AnyG.sk 18 hS ?_
     refine AnyG.sk 19 hS ?_
     refine AnyG.sk 20 hS ?_
     refine AnyG.sk 21 hS ?_
     refine AnyG.tk 22 hS ?_
     refine AnyG.tk 23 hS ?_
     refine AnyG.done (by kernel_rfl) ?_ _
     go_wp2
     go_ret
     exact ⟨rfl, bV⟩
  ·obtain rfl : B = false := HC0.out (.inr z2)
   clear HC0 HC1 HK1 HLa HA
   go_wp2
   go_ret
   exact ⟨rfl, bw2⟩
 ·obtain rfl : B = false := HC0.out (.inl z1)
  clear HC0 HC1 HK1 HLa HA
  go_wp2
  go_ret
  exact ⟨rfl, bw2⟩
structure KV (a : RA8) (m : Nat) (X : List Nat) : Prop where
 nN : a.N = m
 nk : a.k = nb m
 nV : a.V = 4
 le : m ≤ 1048576
 ic : ichk a.k a.V a.M a.xs = true
 sl : a.S.length = gN m
 tl : a.T.length = gN m
 fit : Fit X
 ck : chk (m : Int) X = true
 cl : ∀ i, i < nb m → cls a.xs i = bcl m (bitAt X) i
 on : ∀ i, i ≤ nb m → cOn a.xs i = bon m (bitAt X) i
 se : ∀ i, i < nb m → cSE a.L a.ys a.xs i = 0
 off : ∀ i, i < nb m → cOff a.L a.ys a.xs i < ch 15 (cls a.xs i)
 wd : ∀ i, i < nb m → blk 15 (cls a.xs i) (cOff a.L a.ys a.xs i) = blv m (bitAt X) i
 gs : ∀ g, g < gN m → gi a.S g = cOn a.xs (8 * g)
 gt : ∀ g, g < gN m → gi a.T g = cAt a.xs (8 * g)
theorem ok_kv (a : RA8) (h : kOk8 a = true) : ∃ m : Nat, kBN8 a = (m : Int) ∧ KV a m (kBX8 a) := by
 obtain ⟨m, h1, h2, h3, h4, e⟩ := ok_kb a h
 have c := kb_ck m (kBX8 a) h2 h4
 obtain ⟨r1, r2, r3⟩ := kb_read m (kBX8 a) h2 h4
 have k := kb_is m (kBX8 a) h4
 rw [← e] at c
 rw [← e] at k
 have exs : a.xs = rC m (bitAt (kBX8 a)) := congrArg RA8.xs k
 have eys : a.ys = rO m (bitAt (kBX8 a)) := congrArg RA8.ys k
 have eL : a.L = (bat m (bitAt (kBX8 a)) (nb m) : Int) := congrArg RA8.L k
 refine ⟨m, h1, c.nN, c.nk, c.nV, h2, c.ic, c.sl, c.tl, h3, h4, ?_, ?_, ?_, ?_, ?_, ?_, ?_⟩
 ·intro i hi; rw [exs]; exact r1 i hi
 ·intro i hi; rw [exs]; exact (r2 i hi).2
 ·intro i hi; exact (c.each i hi).1
 ·intro i hi; exact (c.each i hi).2.1
 ·intro i hi; rw [exs, eys, eL]; exact (r3 i hi).2.2
 ·intro g hg
  by_cases z : g = 0
  ·subst z; exact c.s0
  ·have h8 := gN_in m g hg z
   have := ((c.each (8 * g) h8).2.2 (by omega)).1
   rw [show 8 * g / 8 = g by omega] at this
   exact this
 ·intro g hg
  by_cases z : g = 0
  ·subst z; exact c.t0
  ·have h8 := gN_in m g hg z
   have := ((c.each (8 * g) h8).2.2 (by omega)).2
   rw [show 8 * g / 8 = g by omega] at this
   exact this
theorem result_cel2 {fn : Func} {p u : Tmp} {T U : TypeId} {w : World} {tmps : Array Value} (h : fn.results = #[.cell p T, .cell u U]) (g k : Nat) (cs ds : List Value) {fs gs : Array Field} (hp : tmps.getD p undef = .pointer (some ⟨g, 0, none⟩)) (hu : tmps.getD u undef = .pointer (some ⟨k, 0, none⟩)) (hc : Cel w g cs T) (hd : Cel w k ds U) (h1 : Tryz.prog.underlying T = some (.struct fs)) (h2 : Tryz.prog.underlying U = some (.struct gs)) (i1 : (Tryz.prog.info? T).map (·.size) = some cs.length) (i2 : (Tryz.prog.info? U).map (·.size) = some ds.length) :
  (results fn tmps).run Tryz.prog w = .ok (.tuple #[.agg cs.toArray, .agg ds.toArray]) w := by
 have hp' : tmps[p]?.getD undef = .pointer (some ⟨g, 0, none⟩) := by simpa using hp
 have hu' : tmps[u]?.getD undef = .pointer (some ⟨k, 0, none⟩) := by simpa using hu
 have hl := run_loadVar_row (P := Tryz.prog) w g T T cs.toArray (0, 0) _ hc h1 rfl (by simpa using i1)
 have hm := run_loadVar_row (P := Tryz.prog) w k U U ds.toArray (0, 0) _ hd h2 rfl (by simpa using i2)
 simp [results, h, hp', hu', asAddr, hl, hm]
theorem two_of {l : List Value} (h : l.length = 2) : ∃ v0 v1, l = [v0, v1] := by
 match l, h with
 | [v0, v1], _ => exact ⟨v0, v1, rfl⟩
theorem qblockAt1_c (j c o s p i gf gb gi lo hi : Nat) (of ob : List Value) (w : World) (hof : of.length = 2) (hob : ob.length = 2)
  (hcf : Cel w gf of 165) (hcb : Cel w gb ob 149) (hci : Cel w gi [.int .i64 (i : Nat)] 3) (h1 : gf ≠ gb) (h2 : gf ≠ gi) (h3 : gb ≠ gi) (l1 : lo ≤ gf) (l2 : lo ≤ gb) (l3 : gf < hi) (l4 : gb < hi) (l5 : hi ≤ w.heap.size) (l6 : lo ≤ w.heap.size) :
  Calls Tryz.prog 174 #[.int .i64 j, .agg #[.int .i64 (c : Nat), .int .u64 (o : Nat)], .agg #[.int .i64 (s : Nat), .int .i64 (p : Nat)], .pointer (some ⟨gf, 0, none⟩), .pointer (some ⟨gb, 0, none⟩), .pointer (some ⟨gi, 0, none⟩)] w
   fun e w' => e = .returned (.bool (decide (j < i))) ∧ Cel w' gf [.int .i64 (c : Nat), .int .u64 (o : Nat)] 165 ∧ Cel w' gb [.int .i64 (s : Nat), .int .i64 (p : Nat)] 149 ∧ Cel w' gi [.int .i64 (i : Nat)] 3 ∧ Fr8 lo hi w w' ∧ (∀ b, b ≠ gf → b ≠ gb → b < w.heap.size → w'.heap[b]? = w.heap[b]?) := by
 obtain ⟨v0, v1, rfl⟩ := two_of hof
 obtain ⟨u0, u1, rfl⟩ := two_of hob
 obtain ⟨W, hW⟩ : ∃ W, W = (w.alloc (.cells #[.int .i64 (c : Nat), .int .u64 (o : Nat)] 165)).alloc (.cells #[.int .i64 (s : Nat), .int .i64 (p : Nat)] 149) := ⟨_, rfl⟩
 have bW := yb2 hW
 have B1 := yc3 hW
 have B2 := yc2 hW
 have F1 : Fr8 lo hi w W := Fr8.of bW l6
 replace hcf := hcf.kept bW
 replace hcb := hcb.kept bW
 replace hci := hci.kept bW
 go_enter Tryz.func174, Tryz.ntmps174
 go_wp2
 rw [← hW]
 refine region_g [3] (fun w' => Cel w' w.heap.size [.int .i64 (c : Nat), .int .u64 (o : Nat)] 165 ∧ Cel w' (w.heap.size + 1) [.int .i64 (s : Nat), .int .i64 (p : Nat)] 149) (by kernel_rfl) ?_
 have hS : Cel W.drew w.heap.size [.int .i64 (c : Nat), .int .u64 (o : Nat)] 165 ∧ Cel W.drew (w.heap.size + 1) [.int .i64 (s : Nat), .int .i64 (p : Nat)] 149 := ⟨B1, B2⟩
 replace hcf : Cel W.drew gf [v0, v1] 165 := hcf
 replace hcb : Cel W.drew gb [u0, u1] 149 := hcb
 replace hci : Cel W.drew gi [.int .i64 (i : Nat)] 3 := hci
 replace F1 : Fr8 lo hi w W.drew := F1.trans (Fr8.of (Below.refl _ _).drew (by have := bW.size; omega))
 have G1 : ∀ b, b < w.heap.size → W.drew.heap[b]? = w.heap[b]? := fun b hb => bW.block b hb
 generalize W.drew = Y at *
 clear B1 B2 hW bW
 refine AnyG.tf 0 hS rfl (fun w0 h0 => by have c0 := h0.1.cell 0 rfl; have c1 := h0.1.cell 1 rfl; go_simp; try with_reducible rfl) ?_
 refine AnyG.tf 1 hS rfl (fun w0 h0 => by have c0 := h0.2.cell 0 rfl; have c1 := h0.2.cell 1 rfl; go_simp; try with_reducible rfl) ?_
 refine AnyG.o1 2 ?_
 intro K hK
 have f0 := hcf.frozen 0
 have f1 := hcf.frozen 1
 have n0 := hcf.cell 0 rfl
 have n1 := hcf.cell 1 rfl
 go_simp
 refine hK.out _ _ (fun _ => ⟨(hS.1.other (by show w.heap.size ≠ gf; omega) _).other (by show w.heap.size ≠ gf; omega) _, (hS.2.other (by show w.heap.size + 1 ≠ gf; omega) _).other (by show w.heap.size + 1 ≠ gf; omega) _⟩) ?_
 clear hK K f0 f1 n0 n1
 have F2 : Fr8 lo hi w ((Y.setCell ⟨gf, 0, none⟩ (.int .i64 (c : Nat))).setCell ⟨gf, 1, none⟩ (.int .u64 (o : Nat))) := F1.trans ((((Only.refl gf Y).set 0 _).set 1 _).fr l1 l3)
 replace hcf : Cel ((Y.setCell ⟨gf, 0, none⟩ (.int .i64 (c : Nat))).setCell ⟨gf, 1, none⟩ (.int .u64 (o : Nat))) gf [.int .i64 (c : Nat), .int .u64 (o : Nat)] 165 := (hcf.set 0 _).set 1 _
 replace hcb := (hcb.other (a := ⟨gf, 0, none⟩) (Ne.symm h1) (.int .i64 (c : Nat))).other (a := ⟨gf, 1, none⟩) (Ne.symm h1) (.int .u64 (o : Nat))
 replace hci := (hci.other (a := ⟨gf, 0, none⟩) (Ne.symm h2) (.int .i64 (c : Nat))).other (a := ⟨gf, 1, none⟩) (Ne.symm h2) (.int .u64 (o : Nat))
 replace G1 : ∀ b, b ≠ gf → b < w.heap.size → ((Y.setCell ⟨gf, 0, none⟩ (.int .i64 (c : Nat))).setCell ⟨gf, 1, none⟩ (.int .u64 (o : Nat))).heap[b]? = w.heap[b]? := fun b hb hl => ((((Only.refl gf Y).set 0 _).set 1 _).block b hb).trans (G1 b hl)
 generalize (Y.setCell ⟨gf, 0, none⟩ (.int .i64 (c : Nat))).setCell ⟨gf, 1, none⟩ (.int .u64 (o : Nat)) = Z at *
 try simp only [Act.put, yq0, yq1, yq2, yq3, yq4, yq5]
 refine AnyG.o1 3 ?_
 intro K hK
 have f0 := hcb.frozen 0
 have f1 := hcb.frozen 1
 have n0 := hcb.cell 0 rfl
 have n1 := hcb.cell 1 rfl
 go_simp
 refine hK.out _ _ (fun h => absurd (by decide) h) ?_
 clear hK K
 try simp only [Act.put, yq0, yq1, yq2, yq3, yq4, yq5]
 refine AnyG.done (by kernel_rfl) ?_ _
 clear f0 f1 n0 n1
 have F3 : Fr8 lo hi w ((Z.setCell ⟨gb, 0, none⟩ (.int .i64 (s : Nat))).setCell ⟨gb, 1, none⟩ (.int .i64 (p : Nat))) := F2.trans ((((Only.refl gb Z).set 0 _).set 1 _).fr l2 l4)
 replace hcb : Cel ((Z.setCell ⟨gb, 0, none⟩ (.int .i64 (s : Nat))).setCell ⟨gb, 1, none⟩ (.int .i64 (p : Nat))) gb [.int .i64 (s : Nat), .int .i64 (p : Nat)] 149 := (hcb.set 0 _).set 1 _
 replace hcf := (hcf.other (a := ⟨gb, 0, none⟩) h1 (.int .i64 (s : Nat))).other (a := ⟨gb, 1, none⟩) h1 (.int .i64 (p : Nat))
 replace hci := (hci.other (a := ⟨gb, 0, none⟩) (Ne.symm h3) (.int .i64 (s : Nat))).other (a := ⟨gb, 1, none⟩) (Ne.symm h3) (.int .i64 (p : Nat))
 replace G1 : ∀ b, b ≠ gf → b ≠ gb → b < w.heap.size → ((Z.setCell ⟨gb, 0, none⟩ (.int .i64 (s : Nat))).setCell ⟨gb, 1, none⟩ (.int .i64 (p : Nat))).heap[b]? = w.heap[b]? := fun b hb hb2 hl => ((((Only.refl gb Z).set 0 _).set 1 _).block b hb2).trans (G1 b hb hl)
 generalize (Z.setCell ⟨gb, 0, none⟩ (.int .i64 (s : Nat))).setCell ⟨gb, 1, none⟩ (.int .i64 (p : Nat)) = Z2 at *
 have m0 := hci.cell 0 rfl
 have HH : Hid (Cel Z2 gf [.int .i64 (c : Nat), .int .u64 (o : Nat)] 165 ∧ Cel Z2 gb [.int .i64 (s : Nat), .int .i64 (p : Nat)] 149 ∧ Cel Z2 gi [.int .i64 (i : Nat)] 3 ∧ Fr8 lo hi w Z2 ∧ (∀ b, b ≠ gf → b ≠ gb → b < w.heap.size → Z2.heap[b]? = w.heap[b]?)) := ⟨hcf, hcb, hci, F3, G1⟩
 clear G1 hcf hcb hci F3 F2 F1 hS
 go_wp2
 go_ret
 exact ⟨ret_bool (by simp), HH.out⟩
structure BInv (w0 : World) (i gf gb gi gr j : Nat) (w : World) : Prop where
 below : Below w0.heap.size w0 w
 le : j ≤ i
 f : ∃ l, Cel w gf l 165 ∧ l.length = 2
 b : ∃ l, Cel w gb l 149 ∧ l.length = 2
 i : Cel w gi [.int .i64 (i : Nat)] 3
 r1 : Cel w gr [.int .i64 0, .int .u64 0] 165
 r2 : Cel w (gr + 1) [.int .i64 0, .int .i64 0] 149
theorem BInv.keep {w0 : World} {i gf gb gi gr j hi : Nat} {w w' : World} (h : BInv w0 i gf gb gi gr j w) (h0 : w0.heap.size ≤ hi) (h1 : gf < hi) (h2 : gb < hi) (h3 : gi < hi) (h4 : gr + 1 < hi) (hb : Below hi w w') : BInv w0 i gf gb gi gr j w' := by
 obtain ⟨l, c, e⟩ := h.f
 obtain ⟨k, d, e2⟩ := h.b
 exact ⟨h.below.trans (hb.mono h0), h.le, ⟨l, c.keep hb h1, e⟩, ⟨k, d.keep hb h2, e2⟩, h.i.keep hb h3, h.r1.keep hb (by omega), h.r2.keep hb h4⟩
theorem qblockAt_c (cs : List Value) (a : RA8) (m i : Nat) (Y : List Nat) (w : World) (h : KI8 w cs a) (v : KV a m Y) (hi : i < nb m) :
  Calls Tryz.prog 117 #[.agg cs.toArray, .int .i64 i] w fun e w' => e = .returned (.tuple #[.agg #[.int .i64 (cls a.xs i : Nat), .int .u64 (cOff a.L a.ys a.xs i : Nat)], .agg #[.int .i64 (cOn a.xs i : Nat), .int .i64 (cAt a.xs i : Nat)]]) ∧ Below w.heap.size w w' := by
 have nbl := nb_le m v.le
 have ig : i / 8 < gN m := by unfold gN; omega
 have HA : Hid (∀ (gf gb gi gr : Nat) w1, BInv w i gf gb gi gr (8 * (i / 8)) w1 → gr ≠ gf → gr ≠ gb → gr + 1 ≠ gf → gr + 1 ≠ gb → gr + 1 < w1.heap.size → w.heap.size ≤ gf → w.heap.size ≤ gb → gf ≠ gb → gf ≠ gi → gb ≠ gi → gf < w1.heap.size → gb < w1.heap.size → gi < w1.heap.size →
   Calls Tryz.prog 142 #[.agg cs.toArray, .int .i64 ((i : Int) / 8), .func (.func 174) #[] #[.pointer (some ⟨gf, 0, none⟩), .pointer (some ⟨gb, 0, none⟩), .pointer (some ⟨gi, 0, none⟩)]] w1 fun e w' => ∃ r, e = .returned r ∧ Cel w' gf [.int .i64 (cls a.xs i : Nat), .int .u64 (cOff a.L a.ys a.xs i : Nat)] 165 ∧ Cel w' gb [.int .i64 (cOn a.xs i : Nat), .int .i64 (cAt a.xs i : Nat)] 149 ∧ Cel w' gr [.int .i64 0, .int .u64 0] 165 ∧ Cel w' (gr + 1) [.int .i64 0, .int .i64 0] 149 ∧ Fr8 w.heap.size w1.heap.size w1 w') := by
  intro gf gb gi gr w1 hI n1 n2 n3 n4 n5 l1 l2 l3 l4 l5 l6 l7 l8
  have e8 : ((i : Int) / 8) = ((i / 8 : Nat) : Int) := by omega
  rw [e8]
  refine (qalong_c cs a (i / 8) (nb m) w.heap.size w1.heap.size 174 #[.pointer (some ⟨gf, 0, none⟩), .pointer (some ⟨gb, 0, none⟩), .pointer (some ⟨gi, 0, none⟩)] (fun j w2 => BInv w i gf gb gi gr j w2) (fun j w2 => j = i ∧ (Cel w2 gr [.int .i64 0, .int .u64 0] 165 ∧ Cel w2 (gr + 1) [.int .i64 0, .int .i64 0] 149) ∧ Cel w2 gf [.int .i64 (cls a.xs j : Nat), .int .u64 (cOff a.L a.ys a.xs j : Nat)] 165 ∧ Cel w2 gb [.int .i64 (cOn a.xs j : Nat), .int .i64 (cAt a.xs j : Nat)] 149) w1 v.nk v.nV v.ic (by omega) (by rw [v.sl]; exact ig) (by rw [v.tl]; exact ig) (v.gs _ ig) (v.gt _ ig) hI.below.size (Nat.le_refl _) hI (fun j w2 hj => h.keep hj.below) (fun j w2 w3 hj hb => hj.keep hI.below.size l6 l7 l8 n5 hb) (fun j w2 w3 hj hb => ⟨hj.1, ⟨hj.2.1.1.keep hb (by omega), hj.2.1.2.keep hb n5⟩, hj.2.2.1.keep hb l6, hj.2.2.2.keep hb l7⟩) ?cf ?st).mono ?_
  case cf =>
   intro args w2
   kernel_rfl
  case st =>
   intro j w2 _ hjn hse hj hw2
   obtain ⟨lf, c1, e1⟩ := hj.f
   obtain ⟨lb, c2, e2⟩ := hj.b
   refine (qblockAt1_c j _ _ _ _ i gf gb gi w.heap.size w1.heap.size lf lb w2 e1 e2 c1 c2 hj.i l3 l4 l5 l1 l2 l6 l7 hw2 hj.below.size).mono ?_
   rintro e w3 ⟨rfl, d1, d2, d3, fr, gg⟩
   have r1 : Cel w3 gr [.int .i64 0, .int .u64 0] 165 := (gg gr n1 n2 hj.r1.lt).trans hj.r1
   have r2 : Cel w3 (gr + 1) [.int .i64 0, .int .i64 0] 149 := (gg (gr + 1) n3 n4 hj.r2.lt).trans hj.r2
   refine ⟨_, rfl, fun hr => ?_, fun hr => ?_, fr⟩
   ·have hr := of_decide_eq_true hr
    exact ⟨hj.below.trans fr.below, by omega, ⟨_, d1, rfl⟩, ⟨_, d2, rfl⟩, d3, r1, r2⟩
   ·have hr := of_decide_eq_false hr
    have := hj.le
    exact ⟨by omega, ⟨r1, r2⟩, d1, d2⟩
  ·rintro e w2 ⟨q, b, rfl, _, hq, h1, h2, fr⟩
   cases b with
   | true =>
    obtain ⟨rfl, hI2⟩ := h1 rfl
    have := hI2.le
    omega
   | false =>
    obtain ⟨hlt, h3⟩ := h2 rfl
    rcases h3 with ⟨h3, _⟩ | ⟨_, rfl, ⟨r1, r2⟩, h4, h5⟩
    ·exact absurd (v.se q hlt) h3
    ·exact ⟨_, rfl, h4, h5, r1, r2, fr⟩
 have hmf : ∀ (fn : Fn) (first cap : Array Value) (w : World), (Instr.makeFunc fn first cap).run Tryz.prog w = .ok (.func fn first cap) w := fun _ _ _ _ => rfl
 have hib : i ≤ 69906 := by omega
 clear v
 obtain ⟨⟨ao, cap, qo, dap, so, sc, tO, tc, rfl, _⟩, _⟩ := h
 obtain ⟨N, k, V, M, xs, L, ys, S, T⟩ := a
 dsimp only at *
 generalize cls xs i = c at *
 generalize cOff L ys xs i = o at *
 generalize cOn xs i = s at *
 generalize cAt xs i = p at *
 obtain ⟨W, hW⟩ : ∃ W, W = (((((w.alloc (.cells #[.int .i64 N, .int .i64 k, .int .i64 V, .int .i64 M, .slice ao xs.length cap, .int .i64 L, .slice qo ys.length dap, .slice so S.length sc, .slice tO T.length tc] 41)).alloc (.cells #[.int .i64 (i : Nat)] 3)).alloc (.cells #[.int .i64 0, .int .u64 0] 165)).alloc (.cells #[.int .i64 0, .int .i64 0] 149)).alloc (.cells #[.int .i64 0, .int .u64 0] 165)).alloc (.cells #[.int .i64 0, .int .i64 0] 149) := ⟨_, rfl⟩
 obtain ⟨⟨bW, zW⟩, C1, C2, C3, C4, C5⟩ : (Below w.heap.size w W ∧ W.heap.size = w.heap.size + 6) ∧ Cel W (w.heap.size + 1) [.int .i64 (i : Nat)] 3 ∧ Cel W (w.heap.size + 2) [.int .i64 0, .int .u64 0] 165 ∧ Cel W (w.heap.size + 3) [.int .i64 0, .int .i64 0] 149 ∧ Cel W (w.heap.size + 4) [.int .i64 0, .int .u64 0] 165 ∧ Cel W (w.heap.size + 5) [.int .i64 0, .int .i64 0] 149 := by
  rw [hW]
  have e1 := Cel.new (w.alloc (.cells #[.int .i64 N, .int .i64 k, .int .i64 V, .int .i64 M, .slice ao xs.length cap, .int .i64 L, .slice qo ys.length dap, .slice so S.length sc, .slice tO T.length tc] 41)) [.int .i64 (i : Nat)] 3
  have e2 := Cel.new ((w.alloc (.cells #[.int .i64 N, .int .i64 k, .int .i64 V, .int .i64 M, .slice ao xs.length cap, .int .i64 L, .slice qo ys.length dap, .slice so S.length sc, .slice tO T.length tc] 41)).alloc (.cells #[.int .i64 (i : Nat)] 3)) [.int .i64 0, .int .u64 0] 165
  have e3 := Cel.new (((w.alloc (.cells #[.int .i64 N, .int .i64 k, .int .i64 V, .int .i64 M, .slice ao xs.length cap, .int .i64 L, .slice qo ys.length dap, .slice so S.length sc, .slice tO T.length tc] 41)).alloc (.cells #[.int .i64 (i : Nat)] 3)).alloc (.cells #[.int .i64 0, .int .u64 0] 165)) [.int .i64 0, .int .i64 0] 149
  have e4 := Cel.new ((((w.alloc (.cells #[.int .i64 N, .int .i64 k, .int .i64 V, .int .i64 M, .slice ao xs.length cap, .int .i64 L, .slice qo ys.length dap, .slice so S.length sc, .slice tO T.length tc] 41)).alloc (.cells #[.int .i64 (i : Nat)] 3)).alloc (.cells #[.int .i64 0, .int .u64 0] 165)).alloc (.cells #[.int .i64 0, .int .i64 0] 149)) [.int .i64 0, .int .u64 0] 165
  have e5 := Cel.new (((((w.alloc (.cells #[.int .i64 N, .int .i64 k, .int .i64 V, .int .i64 M, .slice ao xs.length cap, .int .i64 L, .slice qo ys.length dap, .slice so S.length sc, .slice tO T.length tc] 41)).alloc (.cells #[.int .i64 (i : Nat)] 3)).alloc (.cells #[.int .i64 0, .int .u64 0] 165)).alloc (.cells #[.int .i64 0, .int .i64 0] 149)).alloc (.cells #[.int .i64 0, .int .u64 0] 165)) [.int .i64 0, .int .i64 0] 149
  simp only [World.size_alloc] at e1 e2 e3 e4 e5
  refine ⟨⟨(((((below_alloc w _).alloc (by simp) _).alloc (by simp; omega) _).alloc (by simp; omega) _).alloc (by simp; omega) _).alloc (by simp; omega) _, by simp⟩, (((e1.alloc _).alloc _).alloc _).alloc _, ((e2.alloc _).alloc _).alloc _, (e3.alloc _).alloc _, e4.alloc _, e5⟩
 have HI : Hid (BInv w i (w.heap.size + 4) (w.heap.size + 5) (w.heap.size + 1) (w.heap.size + 2) (8 * (i / 8)) W) := ⟨bW, by omega, ⟨_, C4, rfl⟩, ⟨_, C5, rfl⟩, C1, C2, C3⟩
 go_enter Tryz.func117, Tryz.ntmps117
 go_wp2_with fail
 rw [← hW]
 refine (HA.out (w.heap.size + 4) (w.heap.size + 5) (w.heap.size + 1) (w.heap.size + 2) W HI.out (by omega) (by omega) (by omega) (by omega) (by omega) (by omega) (by omega) (by omega) (by omega) (by omega) (by omega) (by omega) (by omega)).mono ?_
 rintro e w2 ⟨r, rfl, d1, d2, r1, r2, fr⟩
 have bw2 := bW.trans fr.below
 clear HA HI fr hW bW C1 C2 C3 C4 C5
 go_wp2
 refine region_g [3] (fun w' => Cel w' (w.heap.size + 4) [.int .i64 (c : Nat), .int .u64 (o : Nat)] 165 ∧ Cel w' (w.heap.size + 5) [.int .i64 (s : Nat), .int .i64 (p : Nat)] 149) (by kernel_rfl) ?_
 have hS : Cel w2.drew (w.heap.size + 4) [.int .i64 (c : Nat), .int .u64 (o : Nat)] 165 ∧ Cel w2.drew (w.heap.size + 5) [.int .i64 (s : Nat), .int .i64 (p : Nat)] 149 := ⟨d1, d2⟩
 replace r1 : Cel w2.drew (w.heap.size + 2) [.int .i64 0, .int .u64 0] 165 := r1
 replace r2 : Cel w2.drew (w.heap.size + 3) [.int .i64 0, .int .i64 0] 149 := r2
 replace bw2 : Below w.heap.size w w2.drew := bw2.drew
 generalize w2.drew = U at *
 clear d1 d2
 refine AnyG.tf 0 hS rfl (fun w0 h0 => by have c0 := h0.1.cell 0 rfl; have c1 := h0.1.cell 1 rfl; go_simp; try with_reducible rfl) ?_
 refine AnyG.tf 1 hS rfl (fun w0 h0 => by have c0 := h0.2.cell 0 rfl; have c1 := h0.2.cell 1 rfl; go_simp; try with_reducible rfl) ?_
 refine AnyG.o1 2 ?_
 intro K hK
 have f0 := r1.frozen 0
 have f1 := r1.frozen 1
 have n0 := r1.cell 0 rfl
 have n1 := r1.cell 1 rfl
 go_simp
 refine hK.out _ _ (fun _ => ⟨(hS.1.other (by show w.heap.size + 4 ≠ w.heap.size + 2; omega) _).other (by show w.heap.size + 4 ≠ w.heap.size + 2; omega) _, (hS.2.other (by show w.heap.size + 5 ≠ w.heap.size + 2; omega) _).other (by show w.heap.size + 5 ≠ w.heap.size + 2; omega) _⟩) ?_
 clear hK K f0 f1 n0 n1
 replace r2 := (r2.other (a := ⟨w.heap.size + 2, 0, none⟩) (by show w.heap.size + 3 ≠ w.heap.size + 2; omega) (.int .i64 (c : Nat))).other (a := ⟨w.heap.size + 2, 1, none⟩) (by show w.heap.size + 3 ≠ w.heap.size + 2; omega) (.int .u64 (o : Nat))
 replace r1 := (r1.set 0 (.int .i64 (c : Nat))).set 1 (.int .u64 (o : Nat))
 replace bw2 : Below w.heap.size w ((U.setCell ⟨w.heap.size + 2, 0, none⟩ (.int .i64 (c : Nat))).setCell ⟨w.heap.size + 2, 1, none⟩ (.int .u64 (o : Nat))) := (bw2.setCell (by show w.heap.size ≤ w.heap.size + 2; omega) _).setCell (by show w.heap.size ≤ w.heap.size + 2; omega) _
 generalize (U.setCell ⟨w.heap.size + 2, 0, none⟩ (.int .i64 (c : Nat))).setCell ⟨w.heap.size + 2, 1, none⟩ (.int .u64 (o : Nat)) = Z at *
 try simp only [Act.put, yq0, yq1, yq2, yq3, yq4, yq5]
 refine AnyG.o1 3 ?_
 intro K hK
 have f0 := r2.frozen 0
 have f1 := r2.frozen 1
 have n0 := r2.cell 0 rfl
 have n1 := r2.cell 1 rfl
 go_simp
 refine hK.out _ _ (fun h => absurd (by decide) h) ?_
 clear hK K
 try simp only [Act.put, yq0, yq1, yq2, yq3, yq4, yq5]
 refine AnyG.done (by kernel_rfl) ?_ _
 clear f0 f1 n0 n1
 replace r1 := (r1.other (a := ⟨w.heap.size + 3, 0, none⟩) (by show w.heap.size + 2 ≠ w.heap.size + 3; omega) (.int .i64 (s : Nat))).other (a := ⟨w.heap.size + 3, 1, none⟩) (by show w.heap.size + 2 ≠ w.heap.size + 3; omega) (.int .i64 (p : Nat))
 replace r2 := (r2.set 0 (.int .i64 (s : Nat))).set 1 (.int .i64 (p : Nat))
 replace bw2 : Below w.heap.size w ((Z.setCell ⟨w.heap.size + 3, 0, none⟩ (.int .i64 (s : Nat))).setCell ⟨w.heap.size + 3, 1, none⟩ (.int .i64 (p : Nat))) := (bw2.setCell (by show w.heap.size ≤ w.heap.size + 3; omega) _).setCell (by show w.heap.size ≤ w.heap.size + 3; omega) _
 generalize (Z.setCell ⟨w.heap.size + 3, 0, none⟩ (.int .i64 (s : Nat))).setCell ⟨w.heap.size + 3, 1, none⟩ (.int .i64 (p : Nat)) = Z2 at *
 go_wp2
 exact bodyPost_ret (result_cel2 rfl (w.heap.size + 2) (w.heap.size + 3) _ _ rfl rfl r1 r2 Tryz.underlying165 Tryz.underlying149 info_blk info_mrk) rfl ⟨rfl, bw2⟩
end Go.Proofs.YtfnkklkdajlhlaaGreatDoor
