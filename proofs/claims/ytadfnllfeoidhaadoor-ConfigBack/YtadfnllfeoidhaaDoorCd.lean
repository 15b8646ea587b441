/-
  The contract of the document's All.
-/
import Derived.Test.YtadfnllfeoidhaaDoorCc
import Derived.Test.YtadfnllfeoidhaaDoorAg
namespace Go.Proofs.YtadfnllfeoidhaaDoor
open Go.RowKit
set_option linter.unusedVariables false
set_option linter.unusedSimpArgs false
set_option maxRecDepth 100000

namespace Co
def toZ (c : Cf) : Zf := ((c.1 : Int), (c.2.1 : Int), (c.2.2.1 : Int), (c.2.2.2.1 : Int), (c.2.2.2.2 : Int))
theorem inZ_nat (l : List Nat) (n : Nat) : inZ l (n : Int) = inB l n := by
  unfold inZ inB toI
  rw [Bool.eq_iff_iff, decide_eq_true_iff, List.any_eq_true, List.mem_map]
  constructor
  · rintro ⟨x, hx, e⟩
    exact ⟨x, hx, by rw [Nat.beq_eq]; omega⟩
  · rintro ⟨x, hx, e⟩
    rw [Nat.beq_eq] at e
    exact ⟨x, hx, by omega⟩
theorem ble_dec (a b : Nat) : Nat.ble a b = decide (a ≤ b) := by
  rw [Bool.eq_iff_iff, Nat.ble_eq, decide_eq_true_iff]
theorem beq_dec (a b : Nat) : Nat.beq a b = decide (a = b) := by
  rw [Bool.eq_iff_iff, Nat.beq_eq, decide_eq_true_iff]
theorem okZ_nat (c : Cf) : okZ (toZ c) = ok c := by
  obtain ⟨s, i, l, k, m⟩ := c
  unfold okZ ok toZ
  simp only [inZ_nat, ble_dec, beq_dec]
  congr 1
  · exact decide_eq_decide.2 (by omega)
  congr 1
  · exact decide_eq_decide.2 (by omega)
  congr 1
  · exact decide_eq_decide.2 (by omega)
  congr 1
  · exact decide_eq_decide.2 (by omega)
  congr 1
  congr 1
  · exact decide_eq_decide.2 (by omega)
  · congr 1
    · exact decide_eq_decide.2 (by omega)
    congr 1
    · exact decide_eq_decide.2 (by omega)
  · congr 1
    · exact decide_eq_decide.2 (by omega)
    · exact decide_eq_decide.2 (by omega)
theorem fr_snoc : ∀ (n a : Nat), fr a (n + 1) = fr a n ++ bif ok (cat (a + n)) then [cat (a + n)] else []
  | 0, a => by
    show (bif ok (cat a) then cat a :: fr (a + 1) 0 else fr (a + 1) 0) = _
    rw [Nat.add_zero]
    cases ok (cat a) <;> rfl
  | n + 1, a => by
    have ih := fr_snoc n (a + 1)
    rw [show a + 1 + n = a + (n + 1) by omega] at ih
    show (bif ok (cat a) then cat a :: fr (a + 1) (n + 1) else fr (a + 1) (n + 1)) = (bif ok (cat a) then cat a :: fr (a + 1) n else fr (a + 1) n) ++ _
    rw [ih]
    cases ok (cat a) <;> rfl
/-- How many there are so far. -/
theorem fr_le : ∀ n a, (fr a n).length ≤ n
  | 0, a => Nat.le_refl _
  | n + 1, a => by
    have := fr_le n (a + 1)
    show (bif ok (cat a) then cat a :: fr (a + 1) n else fr (a + 1) n).length ≤ _
    cases ok (cat a)
    · show (fr (a + 1) n).length ≤ n + 1
      omega
    · show (cat a :: fr (a + 1) n).length ≤ n + 1
      rw [List.length_cons]
      omega
theorem cat_at (s i l k m : Nat) (h1 : i < 4) (h2 : l < 13) (h3 : k < 3) (h4 : m < 64) : cat (9984 * s + 2496 * i + 192 * l + 64 * k + m) = (s + 1, i, l, k + 1, m + 1) := by
  unfold cat
  refine Prod.ext ?_ (Prod.ext ?_ (Prod.ext ?_ (Prod.ext ?_ ?_))) <;> simp only <;> omega
/-- Rows of configurations in memory. -/
def enc (l : List Cf) : List Value := l.flatMap fun c => cv (toZ c)
theorem enc_app (l m : List Cf) : enc (l ++ m) = enc l ++ enc m := by unfold enc; rw [List.flatMap_append]
theorem enc_len (l : List Cf) : (enc l).length = l.length * 5 := by
  induction l with
  | nil => rfl
  | cons c l ih =>
    rw [show enc (c :: l) = cv (toZ c) ++ enc l from rfl, List.length_append, ih, List.length_cons]
    show 5 + _ = _
    omega
end Co
/-- What stands in memory behind the first t. -/
def OA (w wr : World) (v : Value) (t : Nat) : Prop := wr.ownsRow w.heap.size 23 5 v (Co.fr 0 t).length (Co.enc (Co.fr 0 t)) ∧ Below w.heap.size w wr
theorem OA.start (w : World) : OA w w (.slice none 0 0) 0 := ⟨⟨rfl, .inl ⟨rfl, rfl⟩⟩, Below.refl _ _⟩
theorem OA.skip {w wr : World} {v : Value} {t : Nat} (h : OA w wr v t) (ho : Co.ok (Co.cat t) = false) {w2 : World} (hb : Below wr.heap.size wr w2) : OA w w2 v (t + 1) := by
  refine ⟨?_, h.2.trans (hb.mono h.2.size)⟩
  rw [Co.fr_snoc, Nat.zero_add, ho]
  show w2.ownsRow _ _ _ _ (Co.fr 0 t ++ []).length (Co.enc (Co.fr 0 t ++ []))
  rw [List.append_nil]
  exact Ag.owns_keep h.1 hb
theorem OA.more {w w2 : World} {t g cap : Nat} (ho : Co.ok (Co.cat t) = true) (h : w2.ownsRow w.heap.size 23 5 (.slice (some ⟨g, 0, none⟩) ((Co.fr 0 t).length + 1) cap) ((Co.fr 0 t).length + 1) (Co.enc (Co.fr 0 t) ++ Co.cv (Co.toZ (Co.cat t)))) (hb : Below w.heap.size w w2) : OA w w2 (.slice (some ⟨g, 0, none⟩) ((Co.fr 0 t).length + 1) cap) (t + 1) := by
  refine ⟨?_, hb⟩
  rw [Co.fr_snoc, Nat.zero_add, ho]
  show w2.ownsRow _ _ _ _ (Co.fr 0 t ++ [Co.cat t]).length (Co.enc (Co.fr 0 t ++ [Co.cat t]))
  rw [Co.enc_app, List.length_append]
  exact h
set_option maxHeartbeats 8000000 in
theorem rall_c (w : World) : Calls Tryd.prog 17 #[] w fun e w' => ∃ v, e = .returned v ∧ OA w w' v 39936 := by
  have RC := hide rcheck_c
  obtain ⟨i0, hi, hz0, hz1, hz2⟩ := info_parts (show (Tryd.prog.info? 23).map (fun i => (i.zero, i.size, i.bytes)) = some (some (.agg #[.int .i64 0, .int .i64 0, .int .i64 0, .int .i64 0, .int .i64 0]), 5, 40) by kernel_rfl)
  have HI := hide (And.intro hi (And.intro hz0 (And.intro hz1 hz2)))
  clear hi hz0 hz1 hz2
  go_enter Tryd.func17, Tryd.ntmps17
  go_wp2
  go_loopw [1, 2] (fun vo vs wr => ∃ s : Nat, 1 ≤ s ∧ s ≤ 5 ∧ vs = .int .i64 (s : Nat) ∧ Hid (OA w wr vo (9984 * (s - 1)))) (fun _ vs _ => 5 - (intOf vs).toNat)
  case atStart => exact ⟨1, by omega, by omega, rfl, OA.start w⟩
  case round =>
    obtain ⟨s, hs1, hs, rfl, HO⟩ := hrel
    by_cases hs4 : s ≤ 4
    · have hsz : (s : Int) ≤ 4 := by omega
      obtain ⟨wa, rfl⟩ : ∃ wa, wa = wr := ⟨_, rfl⟩
      go_wp2
      go_loopw [1, 3] (fun vo vs wr => ∃ i : Nat, i ≤ 4 ∧ vs = .int .i64 (i : Nat) ∧ Hid (OA w wr vo (9984 * (s - 1) + 2496 * i))) (fun _ vs _ => 4 - (intOf vs).toNat)
      case atStart => exact ⟨0, by omega, rfl, HO⟩
      case round =>
        clear HO
        obtain ⟨i, hi4, rfl, HO⟩ := hrel
        by_cases hi3 : i ≤ 3
        · have hiz : (i : Int) ≤ 3 := by omega
          obtain ⟨wb, rfl⟩ : ∃ wb, wb = wr := ⟨_, rfl⟩
          go_wp2
          go_loopw [1, 4] (fun vo vs wr => ∃ l : Nat, l ≤ 13 ∧ vs = .int .i64 (l : Nat) ∧ Hid (OA w wr vo (9984 * (s - 1) + 2496 * i + 192 * l))) (fun _ vs _ => 13 - (intOf vs).toNat)
          case atStart => exact ⟨0, by omega, rfl, HO⟩
          case round =>
            clear HO
            obtain ⟨l, hl13, rfl, HO⟩ := hrel
            by_cases hl12 : l ≤ 12
            · have hlz : (l : Int) ≤ 12 := by omega
              obtain ⟨wc, rfl⟩ : ∃ wc, wc = wr := ⟨_, rfl⟩
              go_wp2
              go_loopw [1, 5] (fun vo vs wr => ∃ k : Nat, 1 ≤ k ∧ k ≤ 4 ∧ vs = .int .i64 (k : Nat) ∧ Hid (OA w wr vo (9984 * (s - 1) + 2496 * i + 192 * l + 64 * (k - 1)))) (fun _ vs _ => 4 - (intOf vs).toNat)
              case atStart => exact ⟨1, by omega, by omega, rfl, HO⟩
              case round =>
                clear HO
                obtain ⟨k, hk1, hk4, rfl, HO⟩ := hrel
                by_cases hk3 : k ≤ 3
                · have hkz : (k : Int) ≤ 3 := by omega
                  obtain ⟨wd, rfl⟩ : ∃ wd, wd = wr := ⟨_, rfl⟩
                  go_wp2
                  go_loopw [1, 6] (fun vo vs wr => ∃ m : Nat, 1 ≤ m ∧ m ≤ 65 ∧ vs = .int .i64 (m : Nat) ∧ Hid (OA w wr vo (9984 * (s - 1) + 2496 * i + 192 * l + 64 * (k - 1) + (m - 1)))) (fun _ vs _ => 65 - (intOf vs).toNat)
                  case atStart => exact ⟨1, by omega, by omega, rfl, HO⟩
                  case round =>
                    clear HO
                    obtain ⟨m, hm1, hm65, rfl, HO⟩ := hrel
                    by_cases hm64 : m ≤ 64
                    · have hmz : (m : Int) ≤ 64 := by omega
                      obtain ⟨tt, htt⟩ : ∃ tt, Hid (tt = 9984 * (s - 1) + 2496 * i + 192 * l + 64 * (k - 1) + (m - 1)) := ⟨_, rfl⟩
                      rw [← htt.out] at HO
                      have HCT : Hid (Co.cat tt = (s, i, l, k, m)) := by
                        have := Co.cat_at (s - 1) i l (k - 1) (m - 1) (by omega) (by omega) (by omega) (by omega)
                        rw [← htt.out] at this
                        rw [this]
                        refine Prod.ext ?_ (Prod.ext ?_ (Prod.ext ?_ (Prod.ext ?_ ?_))) <;> simp only <;> omega
                      have HOK : Hid (Co.okZ ((s : Int), (i : Int), (l : Int), (k : Int), (m : Int)) = Co.ok (Co.cat tt)) := by
                        have := Co.okZ_nat (Co.cat tt)
                        rw [← this, HCT.out]
                        exact (rfl : Co.okZ _ = Co.okZ _)
                      have HCV : Hid (Co.cv (Co.toZ (Co.cat tt)) = [.int .i64 (s : Nat), .int .i64 (i : Nat), .int .i64 (l : Nat), .int .i64 (k : Nat), .int .i64 (m : Nat)]) := by rw [HCT.out]; exact (rfl : Co.cv _ = _)
                      have HT1 : Hid (tt + 1 = 9984 * (s - 1) + 2496 * i + 192 * l + 64 * (k - 1) + (m + 1 - 1)) := by rw [htt.out]; show _ = _; omega
                      have htn : tt ≤ 39936 := by rw [htt.out]; omega
                      have HFL : Hid ((Co.fr 0 tt).length ≤ 39936) := Nat.le_trans (Co.fr_le tt 0) htn
                      have HA := hide (below_alloc wr (.cells #[.int .i64 (s : Nat), .int .i64 (i : Nat), .int .i64 (l : Nat), .int .i64 (k : Nat), .int .i64 (m : Nat)] 23))
                      have HX : Hid (Cel (wr.alloc (.cells #[.int .i64 (s : Nat), .int .i64 (i : Nat), .int .i64 (l : Nat), .int .i64 (k : Nat), .int .i64 (m : Nat)] 23)) wr.heap.size [.int .i64 (s : Nat), .int .i64 (i : Nat), .int .i64 (l : Nat), .int .i64 (k : Nat), .int .i64 (m : Nat)] 23) := Cel.new wr _ _
                      cases hok : Co.ok (Co.cat tt) with
                      | false =>
                        go_wp2_with fail
                        refine (RC.out s i l k m _).mono ?_
                        rintro e w1 ⟨rfl, hb⟩
                        have HN := hide (HO.out.skip hok (HA.out.trans (hb.mono HA.out.size)))
                        rw [HOK.out, hok]
                        clear hb HX HA
                        go_wp2
                        exact ⟨⟨m + 1, by omega, by omega, by go_num, by rw [← HT1.out]; exact HN⟩, by simp only [intOf]; omega⟩
                      | true =>
                        go_wp2_with fail
                        refine (RC.out s i l k m _).mono ?_
                        rintro e w1 ⟨rfl, hb⟩
                        rw [HOK.out, hok]
                        have HX1 := hide (HX.out.kept hb)
                        have HB1 := hide (HA.out.trans (hb.mono HA.out.size))
                        have HO1 := hide (Ag.owns_keep HO.out.1 HB1.out)
                        have HW1 := hide (HO.out.2.trans (HB1.out.mono HO.out.2.size))
                        have hws : w.heap.size ≤ w1.heap.size := HW1.out.size
                        obtain ⟨hi, hz0, hz1, hz2⟩ := HI.out
                        have q0 := HX1.out.cell 0 rfl
                        have q1 := HX1.out.cell 1 rfl
                        have q2 := HX1.out.cell 2 rfl
                        have q3 := HX1.out.cell 3 rfl
                        have q4 := HX1.out.cell 4 rfl
                        have hfl := HFL.out
                        clear hb HX HA HO
                        generalize wr.heap.size = gb at *
                        go_wp2_with (at_builtin; refine Ag.wpList_append (by rfl) _ _ _ (by rfl) w.heap.size 23 i0 (.agg #[.int .i64 0, .int .i64 0, .int .i64 0, .int .i64 0, .int .i64 0]) 5 40 Tryd.underlying33 hi hz0 hz1 hz2 rfl (by decide) u1 (Co.fr 0 tt).length (Co.enc (Co.fr 0 tt)) (by rfl) (HO1.out.alloc _) ⟨w1.heap.size, 0, none⟩ 1 1 [.int .i64 (s : Nat), .int .i64 (i : Nat), .int .i64 (l : Nat), .int .i64 (k : Nat), .int .i64 (m : Nat)] (by rfl) rfl (by decide) ?c1 ?c2 ?c3 ?c4 ?c5 ?_)
                        case c1 =>
                          intro j u hj
                          have := (Cel.new w1 [.int .i64 (s : Nat), .int .i64 (i : Nat), .int .i64 (l : Nat), .int .i64 (k : Nat), .int .i64 (m : Nat)] 23).cell j hj
                          match j, hj with
                          | 0, _ => exact this
                          | 1, _ => exact this
                          | 2, _ => exact this
                          | 3, _ => exact this
                          | 4, _ => exact this
                        case c2 => intro u hu; simp at hu; rcases hu with rfl | rfl | rfl | rfl | rfl <;> rfl
                        case c3 => unfold maxLen; omega
                        case c4 => omega
                        case c5 => simp; omega
                        intro g8 cap8 w8 own8 hb8 _ _ _ _
                        have HN : Hid (OA w w8 (.slice (some ⟨g8, 0, none⟩) ((Co.fr 0 tt).length + 1) cap8) (tt + 1)) := OA.more hok (by rw [HCV.out]; exact own8) ((HW1.out.alloc hws _).trans hb8)
                        clear own8 hb8 HO1 hi hz0 hz1 hz2 q0 q1 q2 q3 q4 HX1 HB1 HW1
                        go_wp2
                        exact ⟨⟨m + 1, by omega, by omega, by go_num, by rw [← HT1.out]; exact HN⟩, by simp only [intOf]; omega⟩
                    · have hmz : ¬ (m : Int) ≤ 64 := by omega
                      have hx : Hid (OA w wr u1 (9984 * (s - 1) + 2496 * i + 192 * l + 64 * (k + 1 - 1))) := by
                        have := HO.out
                        rwa [show 9984 * (s - 1) + 2496 * i + 192 * l + 64 * (k - 1) + (m - 1) = 9984 * (s - 1) + 2496 * i + 192 * l + 64 * (k + 1 - 1) by omega] at this
                      clear HO
                      go_wp2
                      exact ⟨⟨k + 1, by omega, by omega, by go_num, hx⟩, by simp only [intOf]; omega⟩
                · have hkz : ¬ (k : Int) ≤ 3 := by omega
                  have hx : Hid (OA w wr u1 (9984 * (s - 1) + 2496 * i + 192 * (l + 1))) := by
                    have := HO.out
                    rwa [show 9984 * (s - 1) + 2496 * i + 192 * l + 64 * (k - 1) = 9984 * (s - 1) + 2496 * i + 192 * (l + 1) by omega] at this
                  clear HO
                  go_wp2
                  exact ⟨⟨l + 1, by omega, by go_num, hx⟩, by simp only [intOf]; omega⟩
            · have hlz : ¬ (l : Int) ≤ 12 := by omega
              have hx : Hid (OA w wr u1 (9984 * (s - 1) + 2496 * (i + 1))) := by
                have := HO.out
                rwa [show 9984 * (s - 1) + 2496 * i + 192 * l = 9984 * (s - 1) + 2496 * (i + 1) by omega] at this
              clear HO
              go_wp2
              exact ⟨⟨i + 1, by omega, by go_num, hx⟩, by simp only [intOf]; omega⟩
        · have hiz : ¬ (i : Int) ≤ 3 := by omega
          have hx : Hid (OA w wr u1 (9984 * (s + 1 - 1))) := by
            have := HO.out
            rwa [show 9984 * (s - 1) + 2496 * i = 9984 * (s + 1 - 1) by omega] at this
          clear HO
          go_wp2
          exact ⟨⟨s + 1, by omega, by omega, by go_num, hx⟩, by simp only [intOf]; omega⟩
    · have hsz : ¬ (s : Int) ≤ 4 := by omega
      have hs0 : Hid (9984 * (s - 1) = 39936) := by show _ = _; omega
      go_wp2
      go_ret
      exact ⟨_, rfl, by rw [← hs0.out]; exact HO.out⟩
end Go.Proofs.YtadfnllfeoidhaaDoor
