/-
  For every row of bits, every place and either code: what is read is written just so (P4.2, P4.3). No condition.
-/
import Derived.Test.YtmdmjbpehbjgpaaStH
import Derived.Test.YtmdmjbpehbjgpaaRefRead
import Derived.Test.YtmdmjbpehbjgpaaOpen
import Derived.ChangeOld
namespace Go.Proofs.Ytmdmjbpehbjgpaa.streamOnce
open Go.ChangeShapes Go.WideShapes Go.ChangeAt Go.RowKit Num Bit
set_option linter.unusedVariables false
set_option linter.unusedSimpArgs false
set_option maxRecDepth 100000

theorem put_none (d : Bool) (x : Nat) (h0 : x ≠ 0) (h64 : x < 18446744073709551616) : pN d 0 [] x = cL d x ∧ pL d 0 [] x = cR d x ∧ pE d 0 [] x = 0 := by
  have c0 : chk 0 [] = true := by decide
  have c1 := chk_cR d x h64
  have cl := cL_le d x h64
  have e : joinE 0 [] (cL d x) (cR d x) = 0 := by unfold joinE; rw [if_neg (by rw [c0, c1]; simp; omega)]
  unfold pN pL pE
  simp only [if_neg h0]
  refine ⟨?_, ?_, e⟩
  · unfold joinN; rw [if_pos e]; omega
  · unfold joinL
    rw [if_pos e, show ((0 : Int) + (cL d x : Int)).toNat = cL d x by omega]
    unfold cR
    refine rowOf_congr _ _ _ fun j hj => ?_
    simp [bitAt_rowOf, hj]
theorem get_in (N : Int) (xs : List Nat) (j : Nat) (i : Int) (hi : i = (j : Int)) (hk : chk N xs = true) (h : (j : Int) < N) : getB N xs i = bitAt xs j := by
  subst hi
  unfold getB
  rw [hk, show decide (0 ≤ (j : Int) ∧ (j : Int) < N) = true by simpa using h]
  simp
theorem getE_in (N : Int) (xs : List Nat) (j : Nat) (i : Int) (hi : i = (j : Int)) (hk : chk N xs = true) (h : (j : Int) < N) : getE N xs i = 0 := by
  subst hi
  unfold getE
  rw [if_neg (by rw [hk]; simp), if_neg (by omega)]

set_option maxHeartbeats 40000000 in
theorem walk (w : World) (Nb : Int) (ab : Option Addr) (xb : List Nat) (cb : Nat) (hbN : -9223372036854775808 ≤ Nb ∧ Nb ≤ 9223372036854775807) (Xb : Wd w ab xb) (Fb : Fit xb) (Cb : xb.length ≤ cb) (i : Int) (hi : -9223372036854775808 ≤ i ∧ i ≤ 9223372036854775807) (long : Bool) :
    Calls Try.prog 3 #[.agg #[.int .i64 Nb, .slice ab xb.length cb], .int .i64 i, .bool long] w fun e w' => e = .returned (.bool true) ∧ Below w.heap.size w w' := by
  by_cases s1 : Nb ≤ 3000
  case neg =>
    have s1' : decide (Nb ≤ 3000) = false := by simpa using s1
    go_enter Try.func3, Try.ntmps3
    have hw : Below w.heap.size w w := Below.refl _ _
    go_wp2_with fail
    refine (small_c _ _ _ _ _).mono ?_
    rintro e w1 ⟨rfl, hb⟩
    have Ba := Box.new hb
    have hB : Below w.heap.size w w1 := Below.trans (by repeat (first | exact Below.refl _ _ | apply Below.drew | apply below_drewN | refine Below.alloc ?_ (by first | (simp; done) | (simp; omega)) _)) (hb.mono (by first | (simp; done) | (simp; omega) | omega))
    clear hb
    replace Xb := Xb.keep hB
    replace hw := hw.trans (hB.mono hw.size)
    clear hB
    have Bal := Ba.1
    have Bau := Ba.2.1
    have Bav := Ba.2.2
    go_wp2_with fail
    refine (heads_c _).mono ?_
    rintro e w2 ⟨rfl, hb⟩
    have hB : Below w1.heap.size w1 w2 := Below.trans (by repeat (first | exact Below.refl _ _ | apply Below.drew | apply below_drewN | refine Below.alloc ?_ (by first | (simp; done) | (simp; omega)) _)) (hb.mono (by first | (simp; done) | (simp; omega) | omega))
    clear hb
    clear Bal Bau Bav
    replace Ba := Ba.keep hB
    replace Xb := Xb.keep hB
    replace hw := hw.trans (hB.mono hw.size)
    clear hB
    have Bal := Ba.1
    have Bau := Ba.2.1
    have Bav := Ba.2.2
    go_wp2
    go_ret
    exact ⟨rfl, hw⟩
  by_cases s2 : (xb.length : Int) ≤ 3000
  case neg =>
    have s2' : decide ((xb.length : Int) ≤ 3000) = false := by simpa using s2
    go_enter Try.func3, Try.ntmps3
    have hw : Below w.heap.size w w := Below.refl _ _
    go_wp2_with fail
    refine (small_c _ _ _ _ _).mono ?_
    rintro e w1 ⟨rfl, hb⟩
    have Ba := Box.new hb
    have hB : Below w.heap.size w w1 := Below.trans (by repeat (first | exact Below.refl _ _ | apply Below.drew | apply below_drewN | refine Below.alloc ?_ (by first | (simp; done) | (simp; omega)) _)) (hb.mono (by first | (simp; done) | (simp; omega) | omega))
    clear hb
    replace Xb := Xb.keep hB
    replace hw := hw.trans (hB.mono hw.size)
    clear hB
    have Bal := Ba.1
    have Bau := Ba.2.1
    have Bav := Ba.2.2
    go_wp2_with fail
    refine (heads_c _).mono ?_
    rintro e w2 ⟨rfl, hb⟩
    have hB : Below w1.heap.size w1 w2 := Below.trans (by repeat (first | exact Below.refl _ _ | apply Below.drew | apply below_drewN | refine Below.alloc ?_ (by first | (simp; done) | (simp; omega)) _)) (hb.mono (by first | (simp; done) | (simp; omega) | omega))
    clear hb
    clear Bal Bau Bav
    replace Ba := Ba.keep hB
    replace Xb := Xb.keep hB
    replace hw := hw.trans (hB.mono hw.size)
    clear hB
    have Bal := Ba.1
    have Bau := Ba.2.1
    have Bav := Ba.2.2
    go_wp2
    go_ret
    exact ⟨rfl, hw⟩
  have s1' : decide (Nb ≤ 3000) = true := by simpa using s1
  have s2' : decide ((xb.length : Int) ≤ 3000) = true := by simpa using s2
  cases hk : chk Nb xb with
  | false =>
    go_enter Try.func3, Try.ntmps3
    have hw : Below w.heap.size w w := Below.refl _ _
    go_wp2_with fail
    refine (small_c _ _ _ _ _).mono ?_
    rintro e w1 ⟨rfl, hb⟩
    have Ba := Box.new hb
    have hB : Below w.heap.size w w1 := Below.trans (by repeat (first | exact Below.refl _ _ | apply Below.drew | apply below_drewN | refine Below.alloc ?_ (by first | (simp; done) | (simp; omega)) _)) (hb.mono (by first | (simp; done) | (simp; omega) | omega))
    clear hb
    replace Xb := Xb.keep hB
    replace hw := hw.trans (hB.mono hw.size)
    clear hB
    have Bal := Ba.1
    have Bau := Ba.2.1
    have Bav := Ba.2.2
    go_wp2_with fail
    refine (refcheck_c _ _ _ _ _ (Xb.keep (by repeat (first | exact Below.refl _ _ | apply Below.drew | apply below_drewN | refine Below.alloc ?_ (by first | (simp; done) | (simp; omega)) _))) Fb).mono ?_
    rintro e w2 ⟨rfl, hb⟩
    have hB : Below w1.heap.size w1 w2 := Below.trans (by repeat (first | exact Below.refl _ _ | apply Below.drew | apply below_drewN | refine Below.alloc ?_ (by first | (simp; done) | (simp; omega)) _)) (hb.mono (by first | (simp; done) | (simp; omega) | omega))
    clear hb
    clear Bal Bau Bav
    replace Ba := Ba.keep hB
    replace Xb := Xb.keep hB
    replace hw := hw.trans (hB.mono hw.size)
    clear hB
    have Bal := Ba.1
    have Bau := Ba.2.1
    have Bav := Ba.2.2
    go_wp2_with fail
    refine (heads_c _).mono ?_
    rintro e w3 ⟨rfl, hb⟩
    have hB : Below w2.heap.size w2 w3 := Below.trans (by repeat (first | exact Below.refl _ _ | apply Below.drew | apply below_drewN | refine Below.alloc ?_ (by first | (simp; done) | (simp; omega)) _)) (hb.mono (by first | (simp; done) | (simp; omega) | omega))
    clear hb
    clear Bal Bau Bav
    replace Ba := Ba.keep hB
    replace Xb := Xb.keep hB
    replace hw := hw.trans (hB.mono hw.size)
    clear hB
    have Bal := Ba.1
    have Bau := Ba.2.1
    have Bav := Ba.2.2
    go_wp2
    go_ret
    exact ⟨rfl, hw⟩
  | true =>
  obtain ⟨hc0, hc1, _, _⟩ := chk_out Nb xb hk
  by_cases i1 : i < 0
  case pos =>
    go_enter Try.func3, Try.ntmps3
    have hw : Below w.heap.size w w := Below.refl _ _
    go_wp2_with fail
    refine (small_c _ _ _ _ _).mono ?_
    rintro e w1 ⟨rfl, hb⟩
    have Ba := Box.new hb
    have hB : Below w.heap.size w w1 := Below.trans (by repeat (first | exact Below.refl _ _ | apply Below.drew | apply below_drewN | refine Below.alloc ?_ (by first | (simp; done) | (simp; omega)) _)) (hb.mono (by first | (simp; done) | (simp; omega) | omega))
    clear hb
    replace Xb := Xb.keep hB
    replace hw := hw.trans (hB.mono hw.size)
    clear hB
    have Bal := Ba.1
    have Bau := Ba.2.1
    have Bav := Ba.2.2
    go_wp2_with fail
    refine (refcheck_c _ _ _ _ _ (Xb.keep (by repeat (first | exact Below.refl _ _ | apply Below.drew | apply below_drewN | refine Below.alloc ?_ (by first | (simp; done) | (simp; omega)) _))) Fb).mono ?_
    rintro e w2 ⟨rfl, hb⟩
    have hB : Below w1.heap.size w1 w2 := Below.trans (by repeat (first | exact Below.refl _ _ | apply Below.drew | apply below_drewN | refine Below.alloc ?_ (by first | (simp; done) | (simp; omega)) _)) (hb.mono (by first | (simp; done) | (simp; omega) | omega))
    clear hb
    clear Bal Bau Bav
    replace Ba := Ba.keep hB
    replace Xb := Xb.keep hB
    replace hw := hw.trans (hB.mono hw.size)
    clear hB
    have Bal := Ba.1
    have Bau := Ba.2.1
    have Bav := Ba.2.2
    go_wp2_with fail
    refine (heads_c _).mono ?_
    rintro e w3 ⟨rfl, hb⟩
    have hB : Below w2.heap.size w2 w3 := Below.trans (by repeat (first | exact Below.refl _ _ | apply Below.drew | apply below_drewN | refine Below.alloc ?_ (by first | (simp; done) | (simp; omega)) _)) (hb.mono (by first | (simp; done) | (simp; omega) | omega))
    clear hb
    clear Bal Bau Bav
    replace Ba := Ba.keep hB
    replace Xb := Xb.keep hB
    replace hw := hw.trans (hB.mono hw.size)
    clear hB
    have Bal := Ba.1
    have Bau := Ba.2.1
    have Bav := Ba.2.2
    go_wp2
    go_ret
    exact ⟨rfl, hw⟩
  by_cases i2 : Nb < i
  case pos =>
    go_enter Try.func3, Try.ntmps3
    have hw : Below w.heap.size w w := Below.refl _ _
    go_wp2_with fail
    refine (small_c _ _ _ _ _).mono ?_
    rintro e w1 ⟨rfl, hb⟩
    have Ba := Box.new hb
    have hB : Below w.heap.size w w1 := Below.trans (by repeat (first | exact Below.refl _ _ | apply Below.drew | apply below_drewN | refine Below.alloc ?_ (by first | (simp; done) | (simp; omega)) _)) (hb.mono (by first | (simp; done) | (simp; omega) | omega))
    clear hb
    replace Xb := Xb.keep hB
    replace hw := hw.trans (hB.mono hw.size)
    clear hB
    have Bal := Ba.1
    have Bau := Ba.2.1
    have Bav := Ba.2.2
    go_wp2_with fail
    refine (refcheck_c _ _ _ _ _ (Xb.keep (by repeat (first | exact Below.refl _ _ | apply Below.drew | apply below_drewN | refine Below.alloc ?_ (by first | (simp; done) | (simp; omega)) _))) Fb).mono ?_
    rintro e w2 ⟨rfl, hb⟩
    have hB : Below w1.heap.size w1 w2 := Below.trans (by repeat (first | exact Below.refl _ _ | apply Below.drew | apply below_drewN | refine Below.alloc ?_ (by first | (simp; done) | (simp; omega)) _)) (hb.mono (by first | (simp; done) | (simp; omega) | omega))
    clear hb
    clear Bal Bau Bav
    replace Ba := Ba.keep hB
    replace Xb := Xb.keep hB
    replace hw := hw.trans (hB.mono hw.size)
    clear hB
    have Bal := Ba.1
    have Bau := Ba.2.1
    have Bav := Ba.2.2
    go_wp2_with fail
    refine (heads_c _).mono ?_
    rintro e w3 ⟨rfl, hb⟩
    have hB : Below w2.heap.size w2 w3 := Below.trans (by repeat (first | exact Below.refl _ _ | apply Below.drew | apply below_drewN | refine Below.alloc ?_ (by first | (simp; done) | (simp; omega)) _)) (hb.mono (by first | (simp; done) | (simp; omega) | omega))
    clear hb
    clear Bal Bau Bav
    replace Ba := Ba.keep hB
    replace Xb := Xb.keep hB
    replace hw := hw.trans (hB.mono hw.size)
    clear hB
    have Bal := Ba.1
    have Bau := Ba.2.1
    have Bav := Ba.2.2
    go_wp2
    go_ret
    exact ⟨rfl, hw⟩
  obtain ⟨a, rfl⟩ := Int.eq_ofNat_of_zero_le (show 0 ≤ i by omega)
  have Xb0 : Wd w ab xb := Xb
  cases long with
  | false =>
    obtain ⟨X, A, E, hg⟩ : ∃ X A E, rd false Nb xb (a : Int) = (X, A, E) := ⟨_, _, _, rfl⟩
    have RD : Hid (∀ w0 : World, Wd w0 ab xb → Calls Try.prog 10 #[.agg #[.int .i64 Nb, .slice ab xb.length cb], .int .i64 a] w0 fun e w' => e = .returned (.tuple #[.int .u64 X, .int .i64 A, .int .i64 E]) ∧ Below w0.heap.size w0 w') := fun w0 h => by
      have := gamma_c Nb ab xb cb a w0 h Fb
      have e1 : rdG Nb xb (a : Int) = (X, A, E) := by simpa [rd] using hg
      rw [e1] at this
      exact this
    by_cases hE : E = 0
    case neg =>
      have hE' : (E != 0) = true := by simpa using hE
      obtain ⟨rfl, rfl⟩ : X = 0 ∧ A = 0 := by
        have := rd_err false Nb xb (a : Int) (by rw [hg]; exact hE)
        rw [hg] at this
        exact this
      clear hg
      go_enter Try.func3, Try.ntmps3
      have hw : Below w.heap.size w w := Below.refl _ _
      go_wp2_with fail
      refine (small_c _ _ _ _ _).mono ?_
      rintro e w1 ⟨rfl, hb⟩
      have Ba := Box.new hb
      have hB : Below w.heap.size w w1 := Below.trans (by repeat (first | exact Below.refl _ _ | apply Below.drew | apply below_drewN | refine Below.alloc ?_ (by first | (simp; done) | (simp; omega)) _)) (hb.mono (by first | (simp; done) | (simp; omega) | omega))
      clear hb
      replace Xb := Xb.keep hB
      replace hw := hw.trans (hB.mono hw.size)
      clear hB
      have Bal := Ba.1
      have Bau := Ba.2.1
      have Bav := Ba.2.2
      go_wp2_with fail
      refine (refcheck_c _ _ _ _ _ (Xb.keep (by repeat (first | exact Below.refl _ _ | apply Below.drew | apply below_drewN | refine Below.alloc ?_ (by first | (simp; done) | (simp; omega)) _))) Fb).mono ?_
      rintro e w2 ⟨rfl, hb⟩
      have hB : Below w1.heap.size w1 w2 := Below.trans (by repeat (first | exact Below.refl _ _ | apply Below.drew | apply below_drewN | refine Below.alloc ?_ (by first | (simp; done) | (simp; omega)) _)) (hb.mono (by first | (simp; done) | (simp; omega) | omega))
      clear hb
      clear Bal Bau Bav
      replace Ba := Ba.keep hB
      replace Xb := Xb.keep hB
      replace hw := hw.trans (hB.mono hw.size)
      clear hB
      have Bal := Ba.1
      have Bau := Ba.2.1
      have Bav := Ba.2.2
      go_wp2_with fail
      refine (RD.out _ (Xb.keep (by repeat (first | exact Below.refl _ _ | apply Below.drew | apply below_drewN | refine Below.alloc ?_ (by first | (simp; done) | (simp; omega)) _)))).mono ?_
      rintro e w3 ⟨rfl, hb⟩
      have hB : Below w2.heap.size w2 w3 := Below.trans (by repeat (first | exact Below.refl _ _ | apply Below.drew | apply below_drewN | refine Below.alloc ?_ (by first | (simp; done) | (simp; omega)) _)) (hb.mono (by first | (simp; done) | (simp; omega) | omega))
      clear hb
      clear Bal Bau Bav
      replace Ba := Ba.keep hB
      replace Xb := Xb.keep hB
      replace hw := hw.trans (hB.mono hw.size)
      clear hB
      have Bal := Ba.1
      have Bau := Ba.2.1
      have Bav := Ba.2.2
      go_wp2_with fail
      refine (heads_c _).mono ?_
      rintro e w4 ⟨rfl, hb⟩
      have hB : Below w3.heap.size w3 w4 := Below.trans (by repeat (first | exact Below.refl _ _ | apply Below.drew | apply below_drewN | refine Below.alloc ?_ (by first | (simp; done) | (simp; omega)) _)) (hb.mono (by first | (simp; done) | (simp; omega) | omega))
      clear hb
      clear Bal Bau Bav
      replace Ba := Ba.keep hB
      replace Xb := Xb.keep hB
      replace hw := hw.trans (hB.mono hw.size)
      clear hB
      have Bal := Ba.1
      have Bau := Ba.2.1
      have Bav := Ba.2.2
      go_wp2
      go_ret
      exact ⟨rfl, hw⟩
    subst hE
    obtain ⟨-, -, x0, x64, hA, hAN, hbits⟩ := rd_once false Nb xb (a : Int) X A hg
    rw [Int.toNat_natCast] at hbits
    have cl := cL_le false X x64
    have PP : Hid (∀ w0 : World, Calls Try.prog 12 #[.agg #[.int .i64 0, .slice none 0 0], .int .u64 X] w0 fun e w' => ∃ bo dap, e = .returned (.tuple #[.agg #[.int .i64 (cL false X), .slice bo (cR false X).length dap], .int .i64 0]) ∧ OutF w0 w' bo (cR false X) dap) := fun w0 => by
      have := putg_c 0 none [] 0 X w0 (wd0 _ _) fit0 (by simp) x64
      obtain ⟨e1, e2, e3⟩ := put_none false X x0 x64
      rw [e1, e2, e3] at this
      exact this
    have GB : Hid (∀ (w0 : World) (q : Nat), q < cL false X → Wd w0 ab xb → Calls Try.prog 14 #[.agg #[.int .i64 Nb, .slice ab xb.length cb], .int .i64 ((a : Int) + q)] w0 fun e w' => e = .returned (.tuple #[.bool (cF false X q), .int .i64 0]) ∧ Below w0.heap.size w0 w') := fun w0 q hq h => by
      have := refget_c Nb ab xb cb ((a : Int) + q) w0 h Fb
      rw [get_in Nb xb (a + q) _ (by omega) hk (by omega), hbits q hq, getE_in Nb xb (a + q) _ (by omega) hk (by omega)] at this
      exact this
    have GC : Hid (∀ (w0 : World) (q : Nat) (co : Option Addr) (cc : Nat), q < cL false X → Wd w0 co (cR false X) → Calls Try.prog 14 #[.agg #[.int .i64 (cL false X), .slice co (cR false X).length cc], .int .i64 q] w0 fun e w' => e = .returned (.tuple #[.bool (cF false X q), .int .i64 0]) ∧ Below w0.heap.size w0 w') := fun w0 q co cc hq h => by
      have := refget_c (cL false X) co (cR false X) cc q w0 h (fit_cR _ _)
      rw [get_in _ _ q _ rfl (chk_cR false X x64) (by omega), getE_in _ _ q _ rfl (chk_cR false X x64) (by omega), cR, bitAt_rowOf, show decide (q < cL false X) = true by simpa using hq, Bool.true_and] at this
      exact this
    have hA2 : A - (a : Int) = (cL false X : Int) := by omega
    have hA3 : ¬ Nb < A := by omega
    clear hbits hg hA
    generalize cL false X = C at *
    generalize cR false X = L at *
    generalize cF false X = f at *
    go_enter Try.func3, Try.ntmps3
    have hw : Below w.heap.size w w := Below.refl _ _
    go_wp2_with fail
    refine (small_c _ _ _ _ _).mono ?_
    rintro e w1 ⟨rfl, hb⟩
    have Ba := Box.new hb
    have hB : Below w.heap.size w w1 := Below.trans (by repeat (first | exact Below.refl _ _ | apply Below.drew | apply below_drewN | refine Below.alloc ?_ (by first | (simp; done) | (simp; omega)) _)) (hb.mono (by first | (simp; done) | (simp; omega) | omega))
    clear hb
    replace Xb := Xb.keep hB
    replace hw := hw.trans (hB.mono hw.size)
    clear hB
    have Bal := Ba.1
    have Bau := Ba.2.1
    have Bav := Ba.2.2
    go_wp2_with fail
    refine (refcheck_c _ _ _ _ _ (Xb.keep (by repeat (first | exact Below.refl _ _ | apply Below.drew | apply below_drewN | refine Below.alloc ?_ (by first | (simp; done) | (simp; omega)) _))) Fb).mono ?_
    rintro e w2 ⟨rfl, hb⟩
    have hB : Below w1.heap.size w1 w2 := Below.trans (by repeat (first | exact Below.refl _ _ | apply Below.drew | apply below_drewN | refine Below.alloc ?_ (by first | (simp; done) | (simp; omega)) _)) (hb.mono (by first | (simp; done) | (simp; omega) | omega))
    clear hb
    clear Bal Bau Bav
    replace Ba := Ba.keep hB
    replace Xb := Xb.keep hB
    replace hw := hw.trans (hB.mono hw.size)
    clear hB
    have Bal := Ba.1
    have Bau := Ba.2.1
    have Bav := Ba.2.2
    go_wp2_with fail
    refine (RD.out _ (Xb.keep (by repeat (first | exact Below.refl _ _ | apply Below.drew | apply below_drewN | refine Below.alloc ?_ (by first | (simp; done) | (simp; omega)) _)))).mono ?_
    rintro e w3 ⟨rfl, hb⟩
    have hB : Below w2.heap.size w2 w3 := Below.trans (by repeat (first | exact Below.refl _ _ | apply Below.drew | apply below_drewN | refine Below.alloc ?_ (by first | (simp; done) | (simp; omega)) _)) (hb.mono (by first | (simp; done) | (simp; omega) | omega))
    clear hb
    clear Bal Bau Bav
    replace Ba := Ba.keep hB
    replace Xb := Xb.keep hB
    replace hw := hw.trans (hB.mono hw.size)
    clear hB
    have Bal := Ba.1
    have Bau := Ba.2.1
    have Bav := Ba.2.2
    go_wp2_with fail
    refine (PP.out _).mono ?_
    rintro e w4 ⟨co, cc, rfl, Xc, _, Cc, _, hb⟩
    have hB : Below w3.heap.size w3 w4 := Below.trans (by repeat (first | exact Below.refl _ _ | apply Below.drew | apply below_drewN | refine Below.alloc ?_ (by first | (simp; done) | (simp; omega)) _)) (hb.mono (by first | (simp; done) | (simp; omega) | omega))
    clear hb
    clear Bal Bau Bav
    replace Ba := Ba.keep hB
    replace Xb := Xb.keep hB
    replace hw := hw.trans (hB.mono hw.size)
    clear hB
    have Bal := Ba.1
    have Bau := Ba.2.1
    have Bav := Ba.2.2
    go_wp2
    have bw := below_alloc w4 (.cells #[.int .i64 C, .slice co L.length cc] 24)
    go_loopw [12] (fun i wr => ∃ q : Nat, q ≤ C ∧ i = .int .i64 q ∧ Box wr w.heap.size (.int .i64 Nb) (.slice ab xb.length cb) ∧ Box wr w4.heap.size (.int .i64 C) (.slice co L.length cc) ∧ Wd wr co L ∧ Below w.heap.size w wr) (fun i _ => C - (intOf i).toNat)
    case atStart => exact ⟨0, Nat.zero_le _, rfl, Ba.keep bw, Box.new (Below.refl (w4.alloc (.cells #[.int .i64 C, .slice co L.length cc] 24)).heap.size _), Xc.keep bw, hw.trans (bw.mono hw.size)⟩
    case round =>
      clear Bal Bau Bav Ba Xc hw
      clear Xb
      obtain ⟨q, hq, rfl, Bb, Bc, Xc, hw⟩ := hrel
      have Bbl := Bb.1
      have Bbu := Bb.2.1
      have Bbv := Bb.2.2
      have Bcl := Bc.1
      have Bcu := Bc.2.1
      have Bcv := Bc.2.2
      by_cases hlt : q < C
      · have hlt2 : (q : Int) < (C : Int) := by omega
        go_wp2_with fail
        refine (GB.out _ q hlt (Xb0.keep hw)).mono ?_
        rintro e wa ⟨rfl, hb⟩
        clear Bbl Bbu Bbv Bcl Bcu Bcv
        replace Bb := Bb.keep hb
        replace Bc := Bc.keep hb
        replace Xc := Xc.keep hb
        replace hw := hw.trans (hb.mono hw.size)
        clear hb
        have Bbl := Bb.1
        have Bbu := Bb.2.1
        have Bbv := Bb.2.2
        have Bcl := Bc.1
        have Bcu := Bc.2.1
        have Bcv := Bc.2.2
        go_wp2_with fail
        refine (GC.out _ q _ _ hlt Xc).mono ?_
        rintro e wb ⟨rfl, hb⟩
        clear Bbl Bbu Bbv Bcl Bcu Bcv
        replace Bb := Bb.keep hb
        replace Bc := Bc.keep hb
        replace Xc := Xc.keep hb
        replace hw := hw.trans (hb.mono hw.size)
        clear hb
        go_wp2
        exact ⟨⟨q + 1, by omega, by go_num, Bb, Bc, Xc, hw⟩, by simp only [intOf]; omega⟩
      · have hlt2 : ¬ (q : Int) < (C : Int) := by omega
        go_wp2_with fail
        refine (heads_c _).mono ?_
        rintro e wa ⟨rfl, hb⟩
        replace hw := hw.trans (hb.mono hw.size)
        go_wp2
        go_ret
        exact ⟨rfl, hw⟩
  | true =>
    obtain ⟨X, A, E, hg⟩ : ∃ X A E, rd true Nb xb (a : Int) = (X, A, E) := ⟨_, _, _, rfl⟩
    have RD : Hid (∀ w0 : World, Wd w0 ab xb → Calls Try.prog 11 #[.agg #[.int .i64 Nb, .slice ab xb.length cb], .int .i64 a] w0 fun e w' => e = .returned (.tuple #[.int .u64 X, .int .i64 A, .int .i64 E]) ∧ Below w0.heap.size w0 w') := fun w0 h => by
      have := delta_c Nb ab xb cb a w0 h Fb
      have e1 : rdD Nb xb (a : Int) = (X, A, E) := by simpa [rd] using hg
      rw [e1] at this
      exact this
    have RG : Hid (∀ w0 : World, Wd w0 ab xb → Calls Try.prog 10 #[.agg #[.int .i64 Nb, .slice ab xb.length cb], .int .i64 a] w0 fun e w' => ∃ X1 A1 E1, e = .returned (.tuple #[.int .u64 X1, .int .i64 A1, .int .i64 E1]) ∧ Below w0.heap.size w0 w') := fun w0 h =>
      (gamma_c Nb ab xb cb a w0 h Fb).mono fun e w' ⟨h1, h2⟩ => ⟨_, _, _, h1, h2⟩
    by_cases hE : E = 0
    case neg =>
      have hE' : (E != 0) = true := by simpa using hE
      obtain ⟨rfl, rfl⟩ : X = 0 ∧ A = 0 := by
        have := rd_err true Nb xb (a : Int) (by rw [hg]; exact hE)
        rw [hg] at this
        exact this
      clear hg
      go_enter Try.func3, Try.ntmps3
      have hw : Below w.heap.size w w := Below.refl _ _
      go_wp2_with fail
      refine (small_c _ _ _ _ _).mono ?_
      rintro e w1 ⟨rfl, hb⟩
      have Ba := Box.new hb
      have hB : Below w.heap.size w w1 := Below.trans (by repeat (first | exact Below.refl _ _ | apply Below.drew | apply below_drewN | refine Below.alloc ?_ (by first | (simp; done) | (simp; omega)) _)) (hb.mono (by first | (simp; done) | (simp; omega) | omega))
      clear hb
      replace Xb := Xb.keep hB
      replace hw := hw.trans (hB.mono hw.size)
      clear hB
      have Bal := Ba.1
      have Bau := Ba.2.1
      have Bav := Ba.2.2
      go_wp2_with fail
      refine (refcheck_c _ _ _ _ _ (Xb.keep (by repeat (first | exact Below.refl _ _ | apply Below.drew | apply below_drewN | refine Below.alloc ?_ (by first | (simp; done) | (simp; omega)) _))) Fb).mono ?_
      rintro e w2 ⟨rfl, hb⟩
      have hB : Below w1.heap.size w1 w2 := Below.trans (by repeat (first | exact Below.refl _ _ | apply Below.drew | apply below_drewN | refine Below.alloc ?_ (by first | (simp; done) | (simp; omega)) _)) (hb.mono (by first | (simp; done) | (simp; omega) | omega))
      clear hb
      clear Bal Bau Bav
      replace Ba := Ba.keep hB
      replace Xb := Xb.keep hB
      replace hw := hw.trans (hB.mono hw.size)
      clear hB
      have Bal := Ba.1
      have Bau := Ba.2.1
      have Bav := Ba.2.2
      go_wp2_with fail
      refine (RG.out _ (Xb.keep (by repeat (first | exact Below.refl _ _ | apply Below.drew | apply below_drewN | refine Below.alloc ?_ (by first | (simp; done) | (simp; omega)) _)))).mono ?_
      rintro e w3 ⟨Xg, Ag, Eg, rfl, hb⟩
      have hB : Below w2.heap.size w2 w3 := Below.trans (by repeat (first | exact Below.refl _ _ | apply Below.drew | apply below_drewN | refine Below.alloc ?_ (by first | (simp; done) | (simp; omega)) _)) (hb.mono (by first | (simp; done) | (simp; omega) | omega))
      clear hb
      clear Bal Bau Bav
      replace Ba := Ba.keep hB
      replace Xb := Xb.keep hB
      replace hw := hw.trans (hB.mono hw.size)
      clear hB
      have Bal := Ba.1
      have Bau := Ba.2.1
      have Bav := Ba.2.2
      go_wp2_with fail
      refine (RD.out _ (Xb.keep (by repeat (first | exact Below.refl _ _ | apply Below.drew | apply below_drewN | refine Below.alloc ?_ (by first | (simp; done) | (simp; omega)) _)))).mono ?_
      rintro e w4 ⟨rfl, hb⟩
      have hB : Below w3.heap.size w3 w4 := Below.trans (by repeat (first | exact Below.refl _ _ | apply Below.drew | apply below_drewN | refine Below.alloc ?_ (by first | (simp; done) | (simp; omega)) _)) (hb.mono (by first | (simp; done) | (simp; omega) | omega))
      clear hb
      clear Bal Bau Bav
      replace Ba := Ba.keep hB
      replace Xb := Xb.keep hB
      replace hw := hw.trans (hB.mono hw.size)
      clear hB
      have Bal := Ba.1
      have Bau := Ba.2.1
      have Bav := Ba.2.2
      go_wp2_with fail
      refine (heads_c _).mono ?_
      rintro e w5 ⟨rfl, hb⟩
      have hB : Below w4.heap.size w4 w5 := Below.trans (by repeat (first | exact Below.refl _ _ | apply Below.drew | apply below_drewN | refine Below.alloc ?_ (by first | (simp; done) | (simp; omega)) _)) (hb.mono (by first | (simp; done) | (simp; omega) | omega))
      clear hb
      clear Bal Bau Bav
      replace Ba := Ba.keep hB
      replace Xb := Xb.keep hB
      replace hw := hw.trans (hB.mono hw.size)
      clear hB
      have Bal := Ba.1
      have Bau := Ba.2.1
      have Bav := Ba.2.2
      go_wp2
      go_ret
      exact ⟨rfl, hw⟩
    subst hE
    obtain ⟨-, -, x0, x64, hA, hAN, hbits⟩ := rd_once true Nb xb (a : Int) X A hg
    rw [Int.toNat_natCast] at hbits
    have cl := cL_le true X x64
    have PP : Hid (∀ w0 : World, Calls Try.prog 13 #[.agg #[.int .i64 0, .slice none 0 0], .int .u64 X] w0 fun e w' => ∃ bo dap, e = .returned (.tuple #[.agg #[.int .i64 (cL true X), .slice bo (cR true X).length dap], .int .i64 0]) ∧ OutF w0 w' bo (cR true X) dap) := fun w0 => by
      have := putd_c 0 none [] 0 X w0 (wd0 _ _) fit0 (by simp) x64
      obtain ⟨e1, e2, e3⟩ := put_none true X x0 x64
      rw [e1, e2, e3] at this
      exact this
    have PG : Hid (∀ w0 : World, Calls Try.prog 12 #[.agg #[.int .i64 0, .slice none 0 0], .int .u64 X] w0 fun e w' => ∃ R1 L1 E1 bo dap, e = .returned (.tuple #[.agg #[.int .i64 R1, .slice bo (List.length L1) dap], .int .i64 E1]) ∧ OutF w0 w' bo L1 dap) := fun w0 =>
      (putg_c 0 none [] 0 X w0 (wd0 _ _) fit0 (by simp) x64).mono fun e w' ⟨bo, dap, h⟩ => ⟨_, _, _, bo, dap, h⟩
    have GB : Hid (∀ (w0 : World) (q : Nat), q < cL true X → Wd w0 ab xb → Calls Try.prog 14 #[.agg #[.int .i64 Nb, .slice ab xb.length cb], .int .i64 ((a : Int) + q)] w0 fun e w' => e = .returned (.tuple #[.bool (cF true X q), .int .i64 0]) ∧ Below w0.heap.size w0 w') := fun w0 q hq h => by
      have := refget_c Nb ab xb cb ((a : Int) + q) w0 h Fb
      rw [get_in Nb xb (a + q) _ (by omega) hk (by omega), hbits q hq, getE_in Nb xb (a + q) _ (by omega) hk (by omega)] at this
      exact this
    have GC : Hid (∀ (w0 : World) (q : Nat) (co : Option Addr) (cc : Nat), q < cL true X → Wd w0 co (cR true X) → Calls Try.prog 14 #[.agg #[.int .i64 (cL true X), .slice co (cR true X).length cc], .int .i64 q] w0 fun e w' => e = .returned (.tuple #[.bool (cF true X q), .int .i64 0]) ∧ Below w0.heap.size w0 w') := fun w0 q co cc hq h => by
      have := refget_c (cL true X) co (cR true X) cc q w0 h (fit_cR _ _)
      rw [get_in _ _ q _ rfl (chk_cR true X x64) (by omega), getE_in _ _ q _ rfl (chk_cR true X x64) (by omega), cR, bitAt_rowOf, show decide (q < cL true X) = true by simpa using hq, Bool.true_and] at this
      exact this
    have hA2 : A - (a : Int) = (cL true X : Int) := by omega
    have hA3 : ¬ Nb < A := by omega
    clear hbits hg hA
    generalize cL true X = C at *
    generalize cR true X = L at *
    generalize cF true X = f at *
    go_enter Try.func3, Try.ntmps3
    have hw : Below w.heap.size w w := Below.refl _ _
    go_wp2_with fail
    refine (small_c _ _ _ _ _).mono ?_
    rintro e w1 ⟨rfl, hb⟩
    have Ba := Box.new hb
    have hB : Below w.heap.size w w1 := Below.trans (by repeat (first | exact Below.refl _ _ | apply Below.drew | apply below_drewN | refine Below.alloc ?_ (by first | (simp; done) | (simp; omega)) _)) (hb.mono (by first | (simp; done) | (simp; omega) | omega))
    clear hb
    replace Xb := Xb.keep hB
    replace hw := hw.trans (hB.mono hw.size)
    clear hB
    have Bal := Ba.1
    have Bau := Ba.2.1
    have Bav := Ba.2.2
    go_wp2_with fail
    refine (refcheck_c _ _ _ _ _ (Xb.keep (by repeat (first | exact Below.refl _ _ | apply Below.drew | apply below_drewN | refine Below.alloc ?_ (by first | (simp; done) | (simp; omega)) _))) Fb).mono ?_
    rintro e w2 ⟨rfl, hb⟩
    have hB : Below w1.heap.size w1 w2 := Below.trans (by repeat (first | exact Below.refl _ _ | apply Below.drew | apply below_drewN | refine Below.alloc ?_ (by first | (simp; done) | (simp; omega)) _)) (hb.mono (by first | (simp; done) | (simp; omega) | omega))
    clear hb
    clear Bal Bau Bav
    replace Ba := Ba.keep hB
    replace Xb := Xb.keep hB
    replace hw := hw.trans (hB.mono hw.size)
    clear hB
    have Bal := Ba.1
    have Bau := Ba.2.1
    have Bav := Ba.2.2
    go_wp2_with fail
    refine (RG.out _ (Xb.keep (by repeat (first | exact Below.refl _ _ | apply Below.drew | apply below_drewN | refine Below.alloc ?_ (by first | (simp; done) | (simp; omega)) _)))).mono ?_
    rintro e w3 ⟨Xg, Ag, Eg, rfl, hb⟩
    have hB : Below w2.heap.size w2 w3 := Below.trans (by repeat (first | exact Below.refl _ _ | apply Below.drew | apply below_drewN | refine Below.alloc ?_ (by first | (simp; done) | (simp; omega)) _)) (hb.mono (by first | (simp; done) | (simp; omega) | omega))
    clear hb
    clear Bal Bau Bav
    replace Ba := Ba.keep hB
    replace Xb := Xb.keep hB
    replace hw := hw.trans (hB.mono hw.size)
    clear hB
    have Bal := Ba.1
    have Bau := Ba.2.1
    have Bav := Ba.2.2
    go_wp2_with fail
    refine (RD.out _ (Xb.keep (by repeat (first | exact Below.refl _ _ | apply Below.drew | apply below_drewN | refine Below.alloc ?_ (by first | (simp; done) | (simp; omega)) _)))).mono ?_
    rintro e w4 ⟨rfl, hb⟩
    have hB : Below w3.heap.size w3 w4 := Below.trans (by repeat (first | exact Below.refl _ _ | apply Below.drew | apply below_drewN | refine Below.alloc ?_ (by first | (simp; done) | (simp; omega)) _)) (hb.mono (by first | (simp; done) | (simp; omega) | omega))
    clear hb
    clear Bal Bau Bav
    replace Ba := Ba.keep hB
    replace Xb := Xb.keep hB
    replace hw := hw.trans (hB.mono hw.size)
    clear hB
    have Bal := Ba.1
    have Bau := Ba.2.1
    have Bav := Ba.2.2
    go_wp2_with fail
    refine (PG.out _).mono ?_
    rintro e w5 ⟨R1, L1, E1, eo, ec, rfl, Xe, _, _, _, hb⟩
    have hB : Below w4.heap.size w4 w5 := Below.trans (by repeat (first | exact Below.refl _ _ | apply Below.drew | apply below_drewN | refine Below.alloc ?_ (by first | (simp; done) | (simp; omega)) _)) (hb.mono (by first | (simp; done) | (simp; omega) | omega))
    clear hb
    clear Bal Bau Bav
    replace Ba := Ba.keep hB
    replace Xb := Xb.keep hB
    replace hw := hw.trans (hB.mono hw.size)
    clear hB
    have Bal := Ba.1
    have Bau := Ba.2.1
    have Bav := Ba.2.2
    have hT0 := Bal
    go_wp2_with fail
    refine (PP.out _).mono ?_
    rintro e w6 ⟨co, cc, rfl, Xc, _, Cc, Oc, hb⟩
    have fz := box_frozen hb
    have Oc2 : ∀ a, co = some a → w5.heap.size + 1 ≤ a.block := fun a ha => by have := Oc a ha; simpa using this
    clear Oc
    have Bc := Box.new hb
    have hB : Below w5.heap.size w5 w6 := Below.trans (by repeat (first | exact Below.refl _ _ | apply Below.drew | apply below_drewN | refine Below.alloc ?_ (by first | (simp; done) | (simp; omega)) _)) (hb.mono (by first | (simp; done) | (simp; omega) | omega))
    clear hb
    clear Bal Bau Bav
    replace Ba := Ba.keep hB
    replace Xb := Xb.keep hB
    replace Xe := Xe.keep hB
    replace hw := hw.trans (hB.mono hw.size)
    clear hB
    have Bal := Ba.1
    have Bau := Ba.2.1
    have Bav := Ba.2.2
    have Bcl := Bc.1
    have Bcu := Bc.2.1
    have Bcv := Bc.2.2
    obtain ⟨fz0, fz1⟩ := fz
    have tt := ((Turned.refl w5.heap.size w6).set 0 (.int .i64 C)).set 1 (.slice co L.length cc)
    have hBa : w.heap.size ≠ w5.heap.size := Nat.ne_of_lt hT0
    have BT : Box ((w6.setCell ⟨w5.heap.size, 0, none⟩ (.int .i64 C)).setCell ⟨w5.heap.size, 1, none⟩ (.slice co L.length cc)) w5.heap.size (.int .i64 C) (.slice co L.length cc) := ⟨by simp only [size_set]; exact Bcl, by simp [go_sem, Bcu], by simp [go_sem, Bcv]⟩
    have BU : Box ((w6.setCell ⟨w5.heap.size, 0, none⟩ (.int .i64 C)).setCell ⟨w5.heap.size, 1, none⟩ (.slice co L.length cc)) w.heap.size (.int .i64 Nb) (.slice ab xb.length cb) := ⟨by simp only [size_set]; exact Bal, set2 Bau hBa, set2 Bav hBa⟩
    have XT := Xc.turn tt (fun _ a ha => by have := Oc2 a ha; omega)
    have hwT := hw.trans (tt.below (B := w.heap.size) (by omega))
    go_wp2
    go_loopw [12] (fun i wr => ∃ q : Nat, q ≤ C ∧ i = .int .i64 q ∧ Box wr w.heap.size (.int .i64 Nb) (.slice ab xb.length cb) ∧ Box wr w5.heap.size (.int .i64 C) (.slice co L.length cc) ∧ Wd wr co L ∧ Below w.heap.size w wr) (fun i _ => C - (intOf i).toNat)
    case atStart => exact ⟨0, Nat.zero_le _, rfl, BU, BT, XT, hwT⟩
    case round =>
      clear Bal Bau Bav Bcl Bcu Bcv Ba Bc Xe Xc hw
      clear Xb
      obtain ⟨q, hq, rfl, Bb, Bc, Xc, hw⟩ := hrel
      have Bbl := Bb.1
      have Bbu := Bb.2.1
      have Bbv := Bb.2.2
      have Bcl := Bc.1
      have Bcu := Bc.2.1
      have Bcv := Bc.2.2
      by_cases hlt : q < C
      · have hlt2 : (q : Int) < (C : Int) := by omega
        go_wp2_with fail
        refine (GB.out _ q hlt (Xb0.keep hw)).mono ?_
        rintro e wa ⟨rfl, hb⟩
        clear Bbl Bbu Bbv Bcl Bcu Bcv
        replace Bb := Bb.keep hb
        replace Bc := Bc.keep hb
        replace Xc := Xc.keep hb
        replace hw := hw.trans (hb.mono hw.size)
        clear hb
        have Bbl := Bb.1
        have Bbu := Bb.2.1
        have Bbv := Bb.2.2
        have Bcl := Bc.1
        have Bcu := Bc.2.1
        have Bcv := Bc.2.2
        go_wp2_with fail
        refine (GC.out _ q _ _ hlt Xc).mono ?_
        rintro e wb ⟨rfl, hb⟩
        clear Bbl Bbu Bbv Bcl Bcu Bcv
        replace Bb := Bb.keep hb
        replace Bc := Bc.keep hb
        replace Xc := Xc.keep hb
        replace hw := hw.trans (hb.mono hw.size)
        clear hb
        go_wp2
        exact ⟨⟨q + 1, by omega, by go_num, Bb, Bc, Xc, hw⟩, by simp only [intOf]; omega⟩
      · have hlt2 : ¬ (q : Int) < (C : Int) := by omega
        go_wp2_with fail
        refine (heads_c _).mono ?_
        rintro e wa ⟨rfl, hb⟩
        replace hw := hw.trans (hb.mono hw.size)
        go_wp2
        go_ret
        exact ⟨rfl, hw⟩

theorem lifted (os : Os) (started : os.Started) (H : Type) (enc : TypeId × Value → H) :
    ReturnsInHanded {} Try.checked os 3 .any (Rows.streamOnceSpec.pre6 enc Try.prog Try.f3 Rows.streamOnceRow.domain false) (Rows.streamOnceSpec.post enc Try.prog Try.f3 false true false false) := by
  refine returnsInHanded_of_change (C := Try.checked) own started (by kernel_rfl) Try.func3
    (ChangeSpec.witness6 (enc := enc) (C := Try.checked) false ⟨#[], #[.agg #[.int .i64 0, .slice none 0 0], .int .i64 0, .bool false], []⟩ 8 (by kernel_rfl) (by kernel_rfl) (by kernel_rfl) (by kernel_rfl)) ?_
  intro W base args ds gs before hval0 hW hcnd _
  have hval : ∀ (j : Nat) t v, Try.f3.params[j]? = some t → args[j]? = some v → Value.okWide Try.prog W .any base t v := hval0
  have hW' := hW
  obtain ⟨p, q, hA0, hV, rfl, hfz, hnd⟩ := hW
  have hA : DataW.TrodAll enc Try.prog W 0 (fun _ => true) true Try.f3.params.toList args.toList ds p := hA0
  rw [Try.params3] at hA hval
  obtain ⟨v0, vs0, d0, ds0, p0, q0, hargs, rfl, rfl, h0, r0⟩ := trodAll_cons hA
  obtain ⟨v1, vs1, d1, ds1, p1, q1, rfl, rfl, rfl, h1, r1⟩ := trodAll_cons r0
  obtain ⟨v2, vs2, d2, ds2, p2, q2, rfl, rfl, rfl, h2, r2⟩ := trodAll_cons r1
  obtain ⟨rfl, rfl, rfl⟩ := trodAll_nil r2
  obtain rfl : args = #[v0, v1, v2] := by cases args; simp_all
  obtain ⟨rfl, rfl⟩ := trodVars_none hV
  have k0 := h0
  have lt0 : ∀ x ∈ p0, x.block < W.heap.size := by obtain ⟨m, hm⟩ := k0; exact DataW.trod_lt m _ _ _ hm
  obtain ⟨Nb, ab, xb, cb, rfl, bb1, bb2, bb3, bb4⟩ := open_bits (hval 0 24 v0 rfl rfl) h0
  obtain ⟨i, rfl, rfl, rfl, w1⟩ := open_int Try.underlying3 (hval 1 3 v1 rfl rfl) h1
  obtain ⟨long, rfl, rfl, rfl⟩ := open_bool Try.underlying4 (hval 2 4 v2 rfl rfl) h2
  clear hA0 hval0
  refine (walk W Nb ab xb cb bb1 bb2 bb3 bb4 i (i64_wf _ w1) long).mono fun e W' ⟨he, bel⟩ => ?_
  subst he
  exact ⟨_, rfl, _, _, _, [], _, [], hW', trodAll_mk1 (shut_bool Try.underlying4 _), (trodAll_cons_mk (Below.trod laidOut (by kernel_rfl) (of_decide_eq_true (by kernel_rfl)) k0 bel lt0) (trodAll_cons_mk (shut_int Try.underlying3 w1) (trodAll_cons_mk (shut_bool Try.underlying4 long) trodAll_mk0))), rfl, bel.frame _, fun h => by cases h⟩

theorem over : Rows.streamOnceRow.holds Try.pinned (OpenSpec.ofChange Rows.streamOnceSpec) :=
  OpenClaim.holds_of_wide 3 Try.f3 rfl rfl rfl rfl rfl rfl rfl ⟨rfl, rfl, rfl, rfl, rfl⟩ rfl rfl rfl rfl rfl (by kernel_rfl) Try.func3 (by kernel_rfl)
    (of_decide_eq_true (by kernel_rfl)) (by unfold Func.isWrapper; first | (rw [if_pos (by decide +kernel)]; kernel_rfl) | (rw [if_neg (by decide +kernel)]; exact ⟨rfl, rfl⟩))
    (fun os started H enc _ => lifted os started H enc)

theorem proved : Rows.StreamOnceSaid := over
end Go.Proofs.Ytmdmjbpehbjgpaa.streamOnce
namespace Go.Proofs.Ytmdmjbpehbjgpaa
theorem streamOnce_holds : Rows.StreamOnceSaid := streamOnce.proved
#print axioms streamOnce_holds
end Go.Proofs.Ytmdmjbpehbjgpaa
