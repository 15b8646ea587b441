/-
  For every list of numbers: the width that Of takes of at most 300 numbers is just enough, and Make of what List answers is the same row (P3.1, P3.3). No condition but that errors.errorType is as its text lays it (the card ties it).
-/
import Derived.Test.YtjilehaokignoaaDoorFx
import Derived.Test.YtjilehaokignoaaDoorOpenI
import Derived.Test.YtjilehaokignoaaDoorCards
import Derived.Test.YtjilehaokignoaaDoorTie
import Derived.Deep.QuietTactic
import Derived.BigQuiet
import Derived.Deep.RegionHeld3
import Derived.Deep.DeepCutAuto
import Derived.ChangeOld
import Derived.LaidMore
import Derived.SevenTiedAt
namespace Go.Proofs.YtjilehaokignoaaDoor.intsLeast
open Go.ChangeShapes Go.WideShapes Go.ChangeAt Go.RowKit Num Bit
set_option linter.unusedVariables false
set_option maxRecDepth 100000

def needB (l : List Nat) (m : Nat) : Nat → Bool
  | 0 => decide (m = 1)
  | k + 1 => needB l m k || decide (gt l k / 2 ^ (m - 1) ≠ 0)
theorem needB_of (l : List Nat) (m n j : Nat) (h : j < n) (hb : gt l j / 2 ^ (m - 1) ≠ 0) : needB l m n = true := by
  induction n with
  | zero => omega
  | succ n ih =>
    simp only [needB]
    by_cases e : j = n
    · subst e; simp [hb]
    · rw [ih (by omega)]; rfl
theorem needB_one (l : List Nat) (n : Nat) : needB l 1 n = true := by
  induction n with
  | zero => rfl
  | succ n ih => simp only [needB]; rw [ih]; rfl
theorem needB_all (l : List Nat) : needB l (wm l l.length) l.length = true := by
  rcases wm_at l l.length with h | ⟨j, h1, h2⟩
  · rw [h]; exact needB_one l _
  · refine needB_of l _ _ j h1 fun h0 => ?_
    have hp := wm_pos l l.length
    have h3 : gt l j < 2 ^ (wm l l.length - 1) := by
      rcases Nat.lt_or_ge (gt l j) (2 ^ (wm l l.length - 1)) with h | h
      · exact h
      · have := Nat.div_pos h (Nat.two_pow_pos _)
        omega
    have := (len_fit _ _).2 h3
    omega
theorem old1 {w : World} {b j : Nat} {v : Value} {o : Obj} (h : w.cell? ⟨b, j, none⟩ = some v) (hb : b < w.heap.size) : (w.alloc o).cell? ⟨b, j, none⟩ = some v := ((below_alloc w o).cell (p := ⟨b, j, none⟩) hb).trans h
abbrev ZO : Obj := .cells #[.int .i64 0, .int .i64 0, .int .i64 0, .slice none 0 0] 27
/-- A new box of four cells, which may be written. -/
structure ZB (w : World) (T : Nat) : Prop where
  lt : T < w.heap.size
  c0 : w.cell? ⟨T, 0, none⟩ = some (.int .i64 0)
  c1 : w.cell? ⟨T, 1, none⟩ = some (.int .i64 0)
  c2 : w.cell? ⟨T, 2, none⟩ = some (.int .i64 0)
  c3 : w.cell? ⟨T, 3, none⟩ = some (.slice none 0 0)
  f0 : w.frozen? ⟨T, 0, none⟩ = false
  f1 : w.frozen? ⟨T, 1, none⟩ = false
  f2 : w.frozen? ⟨T, 2, none⟩ = false
  f3 : w.frozen? ⟨T, 3, none⟩ = false
theorem ZB.new (w : World) : ZB (w.alloc ZO) w.heap.size := ⟨by simp, by simp, by simp, by simp, by simp, by simp, by simp, by simp, by simp⟩
theorem ZB.newd (w : World) : ZB (w.alloc ZO).drew w.heap.size := ⟨by simp, by simp, by simp, by simp, by simp, by simp, by simp, by simp, by simp⟩
theorem ZB.keep {w w' : World} {T : Nat} (h : ZB w T) (hb : Below w.heap.size w w') : ZB w' T :=
  ⟨Nat.lt_of_lt_of_le h.lt hb.size, (hb.cell (p := ⟨T, 0, none⟩) h.lt).trans h.c0, (hb.cell (p := ⟨T, 1, none⟩) h.lt).trans h.c1, (hb.cell (p := ⟨T, 2, none⟩) h.lt).trans h.c2, (hb.cell (p := ⟨T, 3, none⟩) h.lt).trans h.c3,
   (hb.frozen (p := ⟨T, 0, none⟩) h.lt).trans h.f0, (hb.frozen (p := ⟨T, 1, none⟩) h.lt).trans h.f1, (hb.frozen (p := ⟨T, 2, none⟩) h.lt).trans h.f2, (hb.frozen (p := ⟨T, 3, none⟩) h.lt).trans h.f3⟩
theorem ZB.put {w : World} {T : Nat} (h : ZB w T) (p q r s : Value) : Box4 ((((w.setCell ⟨T, 0, none⟩ p).setCell ⟨T, 1, none⟩ q).setCell ⟨T, 2, none⟩ r).setCell ⟨T, 3, none⟩ s) T p q r s :=
  ⟨by simp only [size_set]; exact h.lt, by simp [go_sem, h.c0], by simp [go_sem, h.c1], by simp [go_sem, h.c2], by simp [go_sem, h.c3]⟩
theorem below_two {w w' : World} (hb : Below (w.alloc ZO).heap.size (w.alloc ZO) w') : Below w.heap.size w w' := (below_alloc w ZO).trans (hb.mono (by simp))
theorem below_twod {w w' : World} (hb : Below (w.alloc ZO).drew.heap.size (w.alloc ZO).drew w') : Below w.heap.size w w' := (below_alloc w ZO).drew.trans (hb.mono (by simp))
theorem below_d {w w' : World} (hb : Below w.drew.heap.size w.drew w') : Below w.heap.size w w' := (Below.drew (Below.refl _ _)).trans hb
theorem below_i {w w' : World} (hb : Below w.heap.size w w') : Below w.heap.size w w' := hb
theorem size_one {w : World} {yo : Option Addr} (h : ∀ a, yo = some a → (w.alloc ZO).heap.size ≤ a.block) : ∀ a, yo = some a → w.heap.size + 1 ≤ a.block := fun a ha => by have := h a ha; simpa using this
theorem old1d {w : World} {b j : Nat} {v : Value} {o : Obj} (h : w.cell? ⟨b, j, none⟩ = some v) (hb : b < w.heap.size) : (w.alloc o).drew.cell? ⟨b, j, none⟩ = some v := old1 h hb
theorem small_shr (x m : Nat) (h : x < 2 ^ m) : ((x : Int) / 2 ^ m != 0) = false := by
  rw [shr_cast, bne0, Nat.div_eq_of_lt h]; simp
theorem shr_ne (x m : Nat) : ((x : Int) / 2 ^ m != 0) = decide (x / 2 ^ m ≠ 0) := by rw [shr_cast, bne0]

set_option maxHeartbeats 40000000 in
theorem walk (w : World) (E : ET w) (al : Option Addr) (l : List Nat) (cl : Nat) (Xl : Wd w al l) (Fl : Fit l) (Cl : l.length ≤ cl) :
    Calls Tryd.prog 3 #[.slice al l.length cl] w fun e w' => e = .returned (.bool true) ∧ Below w.heap.size w w' := by
  by_cases s1 : (300 : Int) < (l.length : Int)
  case pos =>
    go_enter Tryd.func3, Tryd.ntmps3
    have hw : Below w.heap.size w w := Below.refl _ _
    go_wp2_with fail
    refine (heads_c _ (E.keep (by repeat (first | exact Below.refl _ _ | apply Below.drew | apply below_drewN | refine Below.alloc ?_ (by first | (simp; done) | (simp; omega)) _)))).mono ?_
    rintro e w1 ⟨rfl, hb⟩
    have hB : Below w.heap.size w w1 := Below.trans (by repeat (first | exact Below.refl _ _ | apply Below.drew | apply below_drewN | refine Below.alloc ?_ (by first | (simp; done) | (simp; omega)) _)) (hb.mono (by first | (simp; done) | (simp; omega) | omega))
    clear hb
    replace E := E.keep hB
    replace Xl := Xl.keep hB
    replace hw := hw.trans (hB.mono hw.size)
    clear hB
    go_wp2
    go_ret
    exact ⟨rfl, hw⟩
  have hl : l.length ≤ 300 := by omega
  have HE : Hid (imE (wm l l.length) l = 0) := wm_good l Fl hl
  have hlm : l.length ≤ 1048576 := by omega
  have s1' : decide ((300 : Int) < (l.length : Int)) = false := by simpa using s1
  have OF : ∀ w0 : World, ET w0 → Wd w0 al l → Calls Tryd.prog 8 #[.slice al l.length cl] w0 fun e w' => ∃ bo dap, e = .returned (.tuple #[.agg #[.int .i64 l.length, .int .i64 (wm l l.length), .int .i64 ((l.length : Int) * (wm l l.length : Nat)), .slice bo (mkS l (wm l l.length) l.length).length dap], .int .i64 0]) ∧ OutF w0 w' bo (mkS l (wm l l.length) l.length) dap := fun w0 h1 h2 => of_is _ _ _ _ h1 h2 Fl hl
  have NB : Hid (needB l (wm l l.length) l.length = true) := needB_all l
  have HF : Hid (∀ j, j < l.length → gt l j < 2 ^ wm l l.length) := fun j hj => (lenI_fit _ _).1 ((imE_zero _ l HE.out).2.2.2 j hj)
  have m1 := wm_pos l l.length
  have m2 := wm_le l Fl l.length
  have HS : Hid ((mkS l (wm l l.length) l.length).length ≤ 1048576) := by
    obtain ⟨_, _, a3, _⟩ := imE_zero _ l HE.out
    rw [← Int.natCast_mul] at a3
    unfold Hid; rw [length_mkS]; omega
  obtain ⟨m, hm⟩ : ∃ m, m = wm l l.length := ⟨_, rfl⟩
  rw [← hm] at HE OF NB HF m1 m2 HS
  clear hm s1
  have n1 : (1 : Int) ≤ (m : Int) := by omega
  have n2 : (m : Int) ≤ 64 := by omega
  have n3 : (0 : Int) ≤ (m : Int) - 1 := by omega
  have mp : ((m : Int) - 1).toNat = m - 1 := by omega
  have w3 : IntKind.i64.wrap ((m : Int) - 1) = (m : Int) - 1 := wraps_i64 _ (by omega) (by omega)
  have w4 : IntKind.u64.wrap ((m : Int) - 1) = (m : Int) - 1 := by rw [IntKind.wrap_u64]; omega
  have w5 : IntKind.u64.wrap (m : Int) = (m : Int) := by rw [IntKind.wrap_u64]; omega
  have d1 : decide ((m : Int) < 1) = false := by simp; omega
  have d2 : decide (64 < (m : Int)) = false := by simp; omega
  go_enter Tryd.func3, Tryd.ntmps3
  have hw : Below w.heap.size w w := Below.refl _ _
  go_wp2_with fail
  refine (OF _ (E.keep (by repeat (first | exact Below.refl _ _ | apply Below.drew | apply below_drewN | refine Below.alloc ?_ (by first | (simp; done) | (simp; omega)) _))) (Xl.keep (by repeat (first | exact Below.refl _ _ | apply Below.drew | apply below_drewN | refine Below.alloc ?_ (by first | (simp; done) | (simp; omega)) _)))).mono ?_
  rintro e w1 ⟨xo, xc, rfl, X, _, _, _, hb⟩
  have hB : Below w.heap.size w w1 := Below.trans (by repeat (first | exact Below.refl _ _ | apply Below.drew | apply below_drewN | refine Below.alloc ?_ (by first | (simp; done) | (simp; omega)) _)) (hb.mono (by first | (simp; done) | (simp; omega) | omega))
  clear hb
  replace E := E.keep hB
  replace Xl := Xl.keep hB
  replace hw := hw.trans (hB.mono hw.size)
  clear hB
  go_wp2
  go_loopw [5, 6] (fun nd i wr => ∃ k : Nat, k ≤ l.length ∧ i = .int .i64 k ∧ (∃ b : Bool, nd = .bool b ∧ Hid (b = needB l m k)) ∧ wr.cell? ⟨w1.heap.size, 1, none⟩ = some (.int .i64 m) ∧ Box4 wr w1.heap.size (.int .i64 l.length) (.int .i64 m) (.int .i64 ((l.length : Int) * m)) (.slice xo (mkS l m l.length).length xc) ∧ Below w1.heap.size w1 wr) (fun _ i _ => l.length - (intOf i).toNat)
  case atStart =>
    refine ⟨0, by omega, rfl, ⟨_, rfl, ?_⟩, by simp, ⟨by simp, by simp, by simp, by simp, by simp⟩, below_alloc _ _⟩
    unfold Hid
    simp only [needB]
    rw [Bool.eq_iff_iff, beq_iff_eq, decide_eq_true_eq]
    omega
  case round =>
    obtain ⟨k, hk, rfl, ⟨b, rfl, HB⟩, e1, B, hwr⟩ := hrel
    by_cases hlt : k < l.length
    · obtain ⟨c, off, rfl, hc, hcl⟩ := (Xl.keep hwr) (by omega)
      have e2 := hcl k hlt
      have hlt3 : (k : Int) < (l.length : Int) := by omega
      have z1 : ((gt l k : Int) / 2 ^ m != 0) = false := small_shr _ _ (HF.out k hlt)
      have z2 : Hid (((gt l k : Int) / 2 ^ (m - 1) != 0) = decide (gt l k / 2 ^ (m - 1) ≠ 0)) := shr_ne _ _
      have hB2 : Hid (needB l m (k + 1) = (needB l m k || decide (gt l k / 2 ^ (m - 1) ≠ 0))) := rfl
      clear hcl
      cases b with
      | true =>
        have R : Hid (true = needB l m (k + 1)) := by unfold Hid; rw [hB2.out, ← HB.out]; rfl
        by_cases c64 : (m : Int) < 64
        · have c64' : decide ((m : Int) < 64) = true := by simpa using c64
          go_wp2
          go_quiet (fail)
          go_wp2
          go_quiet (fail)
          go_wp2
          exact ⟨⟨k + 1, by omega, by go_num, ⟨_, rfl, R⟩, e1, B.keep (below_drewN (Below.refl _ _) _), below_drewN hwr _⟩, by simp only [intOf]; omega⟩
        · have c64' : decide ((m : Int) < 64) = false := by simpa using c64
          go_wp2
          go_quiet (fail)
          go_wp2
          go_quiet (fail)
          go_wp2
          exact ⟨⟨k + 1, by omega, by go_num, ⟨_, rfl, R⟩, e1, B.keep (below_drewN (Below.refl _ _) _), below_drewN hwr _⟩, by simp only [intOf]; omega⟩
      | false =>
        have R : Hid (((gt l k : Int) / 2 ^ (m - 1) != 0) = needB l m (k + 1)) := by unfold Hid; rw [hB2.out, ← HB.out, z2.out]; rfl
        by_cases c64 : (m : Int) < 64
        · have c64' : decide ((m : Int) < 64) = true := by simpa using c64
          go_wp2
          go_quiet (fail)
          go_wp2
          go_quiet (fail)
          go_wp2
          exact ⟨⟨k + 1, by omega, by go_num, ⟨_, rfl, R⟩, e1, B.keep (below_drewN (Below.refl _ _) _), below_drewN hwr _⟩, by simp only [intOf]; omega⟩
        · have c64' : decide ((m : Int) < 64) = false := by simpa using c64
          go_wp2
          go_quiet (fail)
          go_wp2
          go_quiet (fail)
          go_wp2
          exact ⟨⟨k + 1, by omega, by go_num, ⟨_, rfl, R⟩, e1, B.keep (below_drewN (Below.refl _ _) _), below_drewN hwr _⟩, by simp only [intOf]; omega⟩
    · have hq : k = l.length := by omega
      subst hq
      have hbt : b = true := HB.out.trans NB.out
      subst hbt
      replace E := E.keep hwr
      replace Xl := Xl.keep hwr
      replace X := X.keep hwr
      replace hw := hw.trans (hwr.mono hw.size)
      clear HB NB HF hwr e1 OF d1 d2 w3 w4 w5 mp n3
      obtain ⟨b0, b1, b2, b3, b4⟩ := B
      have hwr : Below wr.heap.size wr wr := Below.refl _ _
      have B : Box4 wr w1.heap.size _ _ _ _ := ⟨b0, b1, b2, b3, b4⟩
      have neA := Nat.ne_of_lt b0
      have XA : Wd wr.drew xo (mkS l m l.length) := X
      have XB : Wd (wr.alloc ZO).drew xo (mkS l m l.length) := X.keep (below_alloc wr ZO).drew
      have hx0 : w1.heap.size < wr.heap.size := b0
      go_upto_region 13 with fail
      go_cut [7, 8] (fun t7 t8 wx => ∃ T yo yc, t7 = .pointer (some ⟨T, 0, none⟩) ∧ t8 = .int .i64 0 ∧ Box4 wx T (.int .i64 l.length) (.int .i64 m) (.int .i64 ((l.length : Int) * m)) (.slice yo (mkS l m l.length).length yc) ∧ Wd wx yo (mkS l m l.length) ∧ Box4 wx w1.heap.size (.int .i64 l.length) (.int .i64 m) (.int .i64 ((l.length : Int) * m)) (.slice xo (mkS l m l.length).length xc) ∧ Below wr.heap.size wr wx)
      case first =>
        go_region_held3 (fun w' => w'.cell? ⟨w1.heap.size, 0, none⟩ = some (.int .i64 l.length) ∧ w'.cell? ⟨w1.heap.size, 1, none⟩ = some (.int .i64 m) ∧ w'.cell? ⟨w1.heap.size, 2, none⟩ = some (.int .i64 ((l.length : Int) * m)) ∧ w'.cell? ⟨w1.heap.size, 3, none⟩ = some (.slice xo (mkS l m l.length).length xc)) (first | with_reducible exact ⟨b1, b2, b3, b4⟩ | with_reducible exact ⟨set4 b1 neA, set4 b2 neA, set4 b3 neA, set4 b4 neA⟩ | with_reducible exact ⟨set4 b1 neB, set4 b2 neB, set4 b3 neB, set4 b4 neB⟩ | with_reducible exact ⟨old1 b1 b0, old1 b2 b0, old1 b3 b0, old1 b4 b0⟩ | with_reducible exact ⟨old1d b1 b0, old1d b2 b0, old1d b3 b0, old1d b4 b0⟩ | exact ⟨b1, b2, b3, b4⟩)
          (first | (go_at_call 10; refine (list_is _ _ _ _ _ ?_ HE.out).mono ?_; (first | with_reducible exact XA | with_reducible exact XB); rintro e wa ⟨lo, lc, rfl, L, FL, _, _, hb⟩; (first | (with_reducible have PZ := ZB.keep (ZB.newd wr) hb; have pzl := PZ.lt; with_reducible have hT := below_twod hb) | with_reducible have hT := below_d hb); clear hb XA XB; replace E := E.keep hT; have EB := E.keep (below_alloc wa ZO); have LB := L.keep (below_alloc wa ZO); replace B := B.keep hT; replace hwr := hwr.trans (hT.mono hwr.size); replace b0 := B.1; replace b1 := B.2.1; replace b2 := B.2.2.1; replace b3 := B.2.2.2.1; replace b4 := B.2.2.2.2; have neB := Nat.ne_of_lt b0; have hwa := hT.size; clear hT) | (go_at_call 9; refine (make_is _ _ _ _ _ ?_ ?_ FL hlm HE.out).mono ?_; (first | with_reducible exact E | with_reducible exact EB); (first | with_reducible exact L | with_reducible exact LB); rintro e wb ⟨yo, yc, rfl, Y, FY, _, hN, hb⟩; (first | (with_reducible have QZ := ZB.keep (ZB.new wa) hb; with_reducible have hT := below_two hb; with_reducible replace hN := size_one hN; have QZ2 := QZ; obtain ⟨zl, z0, z1, z2, z3, v0, v1, v2, v3⟩ := QZ2) | (with_reducible have hT := below_i hb; first | (with_reducible replace PZ := PZ.keep hT; have PZ2 := PZ; obtain ⟨zl, z0, z1, z2, z3, v0, v1, v2, v3⟩ := PZ2) | skip)); clear hb EB LB; replace B := B.keep hT; replace hwr := hwr.trans (hT.mono hwr.size); replace b0 := B.1; replace b1 := B.2.1; replace b2 := B.2.2.1; replace b3 := B.2.2.2.1; replace b4 := B.2.2.2.2; have hwb := hT.size; clear hT))
        · have bw := below_alloc wb (.cells #[.int .i64 l.length, .int .i64 m, .int .i64 ((l.length : Int) * m), .slice yo (mkS l m l.length).length yc] 27)
          have hv := (Box4.new (Below.refl (wb.alloc (.cells #[.int .i64 l.length, .int .i64 m, .int .i64 ((l.length : Int) * m), .slice yo (mkS l m l.length).length yc] 27)).heap.size _)).1
          go_wp2
          go_meet
          exact ⟨wb.heap.size, yo, yc, rfl, rfl, hv, Y.keep bw, B.keep bw, hwr.trans (bw.mono hwr.size)⟩
        · have tt := (((((Turned.refl (wa.heap.size) wb).set 0 (.int .i64 l.length)).set 1 (.int .i64 m)).set 2 (.int .i64 ((l.length : Int) * m))).set 3 (.slice yo (mkS l m l.length).length yc))
          have hv := QZ.put (.int .i64 l.length) (.int .i64 m) (.int .i64 ((l.length : Int) * m)) (.slice yo (mkS l m l.length).length yc)
          go_wp2
          go_meet
          refine ⟨wa.heap.size, yo, yc, rfl, rfl, hv, ?_, ⟨by rw [tt.size]; exact b0, (tt.cell (p := ⟨w1.heap.size, 0, none⟩) (by simp; omega)).trans b1, (tt.cell (p := ⟨w1.heap.size, 1, none⟩) (by simp; omega)).trans b2, (tt.cell (p := ⟨w1.heap.size, 2, none⟩) (by simp; omega)).trans b3, (tt.cell (p := ⟨w1.heap.size, 3, none⟩) (by simp; omega)).trans b4⟩, hwr.trans (tt.below (by omega))⟩
          have hne : ∀ p, yo = some p → p.block ≠ wa.heap.size := fun p hp => by have := hN p hp; omega
          exact (((Y.set_other hne _).set_other hne _).set_other hne _).set_other hne _
        · have tt := (((((Turned.refl (wr.heap.size) wb).set 0 (.int .i64 l.length)).set 1 (.int .i64 m)).set 2 (.int .i64 ((l.length : Int) * m))).set 3 (.slice yo (mkS l m l.length).length yc))
          have hv := PZ.put (.int .i64 l.length) (.int .i64 m) (.int .i64 ((l.length : Int) * m)) (.slice yo (mkS l m l.length).length yc)
          go_wp2
          go_meet
          refine ⟨wr.heap.size, yo, yc, rfl, rfl, hv, ?_, ⟨by rw [tt.size]; exact b0, (tt.cell (p := ⟨w1.heap.size, 0, none⟩) (by simp; omega)).trans b1, (tt.cell (p := ⟨w1.heap.size, 1, none⟩) (by simp; omega)).trans b2, (tt.cell (p := ⟨w1.heap.size, 2, none⟩) (by simp; omega)).trans b3, (tt.cell (p := ⟨w1.heap.size, 3, none⟩) (by simp; omega)).trans b4⟩, hwr.trans (tt.below (by omega))⟩
          have hne : ∀ p, yo = some p → p.block ≠ wr.heap.size := fun p hp => by have := hN p hp; omega
          exact (((Y.set_other hne _).set_other hne _).set_other hne _).set_other hne _
      case rest =>
        obtain ⟨T, yo, yc, rfl, rfl, C, Y, B2, hwc⟩ := hcut
        replace E := E.keep hwc
        replace Xl := Xl.keep hwc
        replace X := X.keep hwc
        replace hw := hw.trans (hwc.mono hw.size)
        clear hwc b0 b1 b2 b3 b4 B hwr neA hx0 XA XB
        have B2l := B2.1
        have B20 := B2.2.1
        have B21 := B2.2.2.1
        have B22 := B2.2.2.2.1
        have B23 := B2.2.2.2.2
        have Cl := C.1
        have C0 := C.2.1
        have C1 := C.2.2.1
        have C2 := C.2.2.2.1
        have C3 := C.2.2.2.2
        go_wp2_with fail
        refine (isame_eq _ _ _ _ _ _ _ _ _ (X.keep (by repeat (first | exact Below.refl _ _ | apply Below.drew | apply below_drewN | refine Below.alloc ?_ (by first | (simp; done) | (simp; omega)) _))) (Y.keep (by repeat (first | exact Below.refl _ _ | apply Below.drew | apply below_drewN | refine Below.alloc ?_ (by first | (simp; done) | (simp; omega)) _))) HS.out).mono ?_
        rintro e w51 ⟨rfl, hb⟩
        have hB : Below wc.heap.size wc w51 := Below.trans (by repeat (first | exact Below.refl _ _ | apply Below.drew | apply below_drewN | refine Below.alloc ?_ (by first | (simp; done) | (simp; omega)) _)) (hb.mono (by first | (simp; done) | (simp; omega) | omega))
        clear hb
        clear B2l B20 B21 B22 B23
        clear Cl C0 C1 C2 C3
        replace B2 := B2.keep hB
        replace C := C.keep hB
        replace E := E.keep hB
        replace Xl := Xl.keep hB
        replace X := X.keep hB
        replace Y := Y.keep hB
        replace hw := hw.trans (hB.mono hw.size)
        clear hB
        have B2l := B2.1
        have B20 := B2.2.1
        have B21 := B2.2.2.1
        have B22 := B2.2.2.2.1
        have B23 := B2.2.2.2.2
        have Cl := C.1
        have C0 := C.2.1
        have C1 := C.2.2.1
        have C2 := C.2.2.2.1
        have C3 := C.2.2.2.2
        go_wp2_with fail
        refine (heads_c _ (E.keep (by repeat (first | exact Below.refl _ _ | apply Below.drew | apply below_drewN | refine Below.alloc ?_ (by first | (simp; done) | (simp; omega)) _)))).mono ?_
        rintro e w52 ⟨rfl, hb⟩
        have hB : Below w51.heap.size w51 w52 := Below.trans (by repeat (first | exact Below.refl _ _ | apply Below.drew | apply below_drewN | refine Below.alloc ?_ (by first | (simp; done) | (simp; omega)) _)) (hb.mono (by first | (simp; done) | (simp; omega) | omega))
        clear hb
        clear B2l B20 B21 B22 B23
        clear Cl C0 C1 C2 C3
        replace B2 := B2.keep hB
        replace C := C.keep hB
        replace E := E.keep hB
        replace Xl := Xl.keep hB
        replace X := X.keep hB
        replace Y := Y.keep hB
        replace hw := hw.trans (hB.mono hw.size)
        clear hB
        have B2l := B2.1
        have B20 := B2.2.1
        have B21 := B2.2.2.1
        have B22 := B2.2.2.2.1
        have B23 := B2.2.2.2.2
        have Cl := C.1
        have C0 := C.2.1
        have C1 := C.2.2.1
        have C2 := C.2.2.2.1
        have C3 := C.2.2.2.2
        go_wp2
        go_ret
        exact ⟨rfl, hw⟩


theorem door_met (os : Os) (args : Array Value) : laidMetH Tryd.prog [("errors.errorType", Rows.laid_errors_errorType)] ((World.doorLaid Tryd.prog 400 os).forCall (fun _ _ => 0) ⟨#[], args, []⟩).memory :=
  laidMetH_of_parts (laidMet_nil _ _) (by kernel_rfl)

theorem lifted (os : Os) (started : os.Started) (H : Type) (enc : TypeId × Value → H) :
    ReturnsInHanded {} Tryd.checked os 3 .any (fun w args => (Rows.intsLeastSpec.pre enc Tryd.prog Tryd.f3 [] false w args ∧ laidMetH Tryd.prog [("errors.errorType", Rows.laid_errors_errorType)] w) ∧ sizedMet enc Tryd.prog Tryd.f3 (OpenSpec.ofChange Rows.intsLeastSpec) false w args)
      (Rows.intsLeastSpec.post enc Tryd.prog Tryd.f3 false true false false) := by
  refine returnsInHanded_of_change_and (C := Tryd.checked) (X := fun w _ => laidMetH Tryd.prog [("errors.errorType", Rows.laid_errors_errorType)] w) (fun _ _ _ hh h => h.of_heap hh) own started (by kernel_rfl) Tryd.func3
    (ChangeSpec.witness_shaped (enc := enc) (C := Tryd.checked) (os := os) (X := fun w _ => laidMetH Tryd.prog [("errors.errorType", Rows.laid_errors_errorType)] w) false (World.doorLaid Tryd.prog 400 os) #[.slice none 0 0] 8 rfl (World.shaped_of_RefB (by kernel_rfl) (by kernel_rfl)) (by kernel_rfl) (by kernel_rfl) (by kernel_rfl) (door_met os _)) ?_
  intro W base args ds gs before hval0 hW _ _ hL _
  have hval : ∀ (j : Nat) t v, Tryd.f3.params[j]? = some t → args[j]? = some v → Value.okWide Tryd.prog W .any base t v := hval0
  have hW' := hW
  obtain ⟨p, q, hA0, hV, rfl, hfz, hnd⟩ := hW
  have hA : DataW.TrodAll enc Tryd.prog W 0 (fun _ => true) true Tryd.f3.params.toList args.toList ds p := hA0
  rw [Tryd.params3] at hA hval
  obtain ⟨v0, vs0, d0, ds0, p0, q0, hargs, rfl, rfl, h0, r0⟩ := trodAll_cons hA
  obtain ⟨rfl, rfl, rfl⟩ := trodAll_nil r0
  obtain rfl : args = #[v0] := by cases args; simp_all
  obtain ⟨rfl, rfl⟩ := trodVars_none hV
  have k0 := h0
  have lt0 : ∀ x ∈ p0, x.block < W.heap.size := by obtain ⟨m, hm⟩ := k0; exact DataW.trod_lt m _ _ _ hm
  obtain ⟨al, l, cl, rfl, bl1, bl2, bl3⟩ := open_u64s (hval 0 22 v0 rfl rfl) h0
  clear hA0 hval0
  refine (walk W (et_of_laid hL) al l cl bl1 bl2 bl3).mono fun e W' ⟨he, bel⟩ => ?_
  subst he
  exact ⟨_, rfl, _, _, _, [], _, [], hW', trodAll_mk1 (shut_bool Tryd.underlying4 _), (trodAll_cons_mk (Below.trod laidOut (by kernel_rfl) (of_decide_eq_true (by kernel_rfl)) k0 bel lt0) trodAll_mk0), rfl, bel.frame _, fun h => by cases h⟩

theorem over : Rows.intsLeastRow.holds Tryd.pinned (OpenSpec.ofChange Rows.intsLeastSpec) :=
  OpenClaim.holds_of_wide 3 Tryd.f3 rfl rfl rfl rfl rfl rfl rfl ⟨rfl, rfl, rfl, rfl, rfl⟩ rfl rfl rfl rfl rfl (by kernel_rfl) Tryd.func3 (by kernel_rfl)
    (of_decide_eq_true (by kernel_rfl)) (by unfold Func.isWrapper; first | (rw [if_pos (by decide +kernel)]; kernel_rfl) | (rw [if_neg (by decide +kernel)]; exact ⟨rfl, rfl⟩))
    (fun os started H enc _ => lifted os started H enc)

theorem proved : Rows.IntsLeastCardSaid :=
  Claim7.holds_tied_plain_at .later [] [.handle] true (true, "ddd179aae804cd5fe4d58a7f688ecba0d555650f9f20d33ce8723e8ead9036f9") true
    over (fun _ h => by cases h) (by kernel_rfl) (fun _ h => by cases h) intsLeast_row_tie rfl ⟨rfl, rfl⟩ (by kernel_rfl) rfl
    (fun f fn hf hfn => by
      obtain rfl : f = 3 := Option.some.inj ((show Tryd.prog.funcNamed "haystack/haystacklaw03.IntsLeast" = some 3 by kernel_rfl).symm.trans hf) |>.symm
      obtain rfl : fn = Tryd.f3 := (Option.some.inj (Tryd.func3.symm.trans hfn)).symm
      exact ⟨by kernel_rfl, fun j t ht => by
        rw [Tryd.params3] at ht
        have hm : t ∈ [22] := by simpa using Array.mem_of_getElem? ht
        have hall : ([22].all fun u => !Tryd.prog.wantsStandIn u) = true := by kernel_rfl
        exact (show Tryd.prog.wantsStandIn t = false by simpa using List.all_eq_true.1 hall t hm)⟩)
    (by kernel_rfl)
end Go.Proofs.YtjilehaokignoaaDoor.intsLeast
namespace Go.Proofs.YtjilehaokignoaaDoor
theorem intsLeast_holds : Rows.IntsLeastCardSaid := intsLeast.proved
#print axioms intsLeast_holds
end Go.Proofs.YtjilehaokignoaaDoor
