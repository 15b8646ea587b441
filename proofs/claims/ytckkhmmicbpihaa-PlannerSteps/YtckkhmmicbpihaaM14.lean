/-
  An append to a row of the call's own, of elements of whatever size: where the new row lies, and what stays. The contract of the document's All. All, as a row; the contract of the document's Number. What configurations that may be are; the contracts of the document's shape and text.
-/
import Derived.Test.YtckkhmmicbpihaaM02
import Derived.Test.YtckkhmmicbpihaaM13
import Derived.Laws.StructEq
import Derived.Deep.QuietTactic
import Derived.BigQuiet
import Derived.Test.YtckkhmmicbpihaaM08
import Derived.Test.YtckkhmmicbpihaaM12
namespace Go.Proofs.Ytckkhmmicbpihaa
open Go.RowKit Go.Deep
set_option linter.unusedVariables false
set_option maxRecDepth 100000
namespace Ag

theorem wp_append {o : Oper} {a : Act} {w : World} {K : Act → World → Prop} {Q : Exit → Act → World → Prop} (s x : Operand) (t : TypeId)
    (ho : o.op = .call { callee := .builtin .append, args := #[s, x], argTypes := #[t, t] })
    (base : Nat) (e : TypeId) (i : TypeInfo) (z : Value) (size bytes : Nat) (ht : Try.prog.underlying t = some (.slice e)) (hi : Try.prog.info? e = some i) (hz : i.zero = some z)
    (hsize : i.size = size) (hby : i.bytes = bytes) (hzs : z.cells.size = size) (hsz : 0 < size)
    (v : Value) (n : Nat) (vs : List Value) (hs : a.eval s = v) (hown : w.ownsRow base e size v n vs)
    (ad : Addr) (m c : Nat) (news : List Value) (hx : a.eval x = .slice (some ad) m c) (hl : news.length = m * size) (hm : 0 < m) (hsrc : ∀ j u, news[j]? = some u → w.cell? (ad.add j) = some u) (h1 : ∀ u ∈ news, u.oneCell' = true)
    (h63 : n + m ≤ maxLen) (hbytes : (n + m) * bytes ≤ 140737488355328) (hbase : base ≤ w.heap.size)
    (h : ∀ g cap w', w'.ownsRow base e size (.slice (some ⟨g, 0, none⟩) (n + m) cap) (n + m) (vs ++ news) → Below base w w' → (v.ownBlock = some g ∨ g = w.heap.size) → g < w'.heap.size → (∀ k, k < w.heap.size → v.ownBlock ≠ some k → w'.heap[k]? = w.heap[k]?) → w.heap.size ≤ w'.heap.size → K (a.put o.dst (.slice (some ⟨g, 0, none⟩) (n + m) cap)) w') :
    Oper.wp Try.prog o a w K Q := by
  refine wp_append_lies w s x t ho base e i z size bytes ht hi hz hsize hby hzs hsz v n vs hs hown ad m c news hx hl hsrc h1 hm h63 hbytes hbase w.heap.size rfl ?_
  intro g cap w' o1 o2 o3 o4
  refine h g cap w' o1 ?_ o3 o4 ?_ o2.size
  · exact (Below.refl _ _).grown o2 hbase (fun k hk => (hown.lt k hk).1)
  · intro k hk hne
    exact o2.block k hk (fun q => hne q.symm)
theorem wpList_append {ops : Array Oper} {rest : List Oper} {o : Oper} {a : Act} {w : World} {Q : Exit → Act → World → Prop} (hgd : o.guard = none) (s x : Operand) (t : TypeId)
    (ho : o.op = .call { callee := .builtin .append, args := #[s, x], argTypes := #[t, t] })
    (base : Nat) (e : TypeId) (i : TypeInfo) (z : Value) (size bytes : Nat) (ht : Try.prog.underlying t = some (.slice e)) (hi : Try.prog.info? e = some i) (hz : i.zero = some z)
    (hsize : i.size = size) (hby : i.bytes = bytes) (hzs : z.cells.size = size) (hsz : 0 < size)
    (v : Value) (n : Nat) (vs : List Value) (hs : a.eval s = v) (hown : w.ownsRow base e size v n vs)
    (ad : Addr) (m c : Nat) (news : List Value) (hx : a.eval x = .slice (some ad) m c) (hl : news.length = m * size) (hm : 0 < m) (hsrc : ∀ j u, news[j]? = some u → w.cell? (ad.add j) = some u) (h1 : ∀ u ∈ news, u.oneCell' = true)
    (h63 : n + m ≤ maxLen) (hbytes : (n + m) * bytes ≤ 140737488355328) (hbase : base ≤ w.heap.size)
    (h : ∀ g cap w', w'.ownsRow base e size (.slice (some ⟨g, 0, none⟩) (n + m) cap) (n + m) (vs ++ news) → Below base w w' → (v.ownBlock = some g ∨ g = w.heap.size) → g < w'.heap.size → (∀ k, k < w.heap.size → v.ownBlock ≠ some k → w'.heap[k]? = w.heap[k]?) → w.heap.size ≤ w'.heap.size → wpList Try.prog ops Q rest (a.put o.dst (.slice (some ⟨g, 0, none⟩) (n + m) cap)) w') :
    wpList Try.prog ops Q (o :: rest) a w :=
  wpList_plain hgd fun K hK => wp_append s x t ho base e i z size bytes ht hi hz hsize hby hzs hsz v n vs hs hown ad m c news hx hl hm hsrc h1 h63 hbytes hbase fun g cap w' a1 a2 a3 a4 a5 a6 => hK _ _ (h g cap w' a1 a2 a3 a4 a5 a6)
theorem owns_of {w w' : World} {base e size n : Nat} {v : Value} {vs : List Value} (h : w.ownsRow base e size v n vs) (hb : ∀ k, v.ownBlock = some k → w'.heap[k]? = w.heap[k]?) : w'.ownsRow base e size v n vs := by
  obtain ⟨h1, h | ⟨g, cap, cur, rfl, a1, a2, a3⟩⟩ := h
  · exact ⟨h1, .inl h⟩
  · exact ⟨h1, .inr ⟨g, cap, cur, rfl, a1, (hb g rfl).trans a2, a3⟩⟩
theorem owns_keep {w w' : World} {base e size n : Nat} {v : Value} {vs : List Value} (h : w.ownsRow base e size v n vs) (hb : Below w.heap.size w w') : w'.ownsRow base e size v n vs := owns_of h fun k hk => hb.block k (h.lt k hk).2
theorem owns_cells {w : World} {base e size n g cap : Nat} {vs : List Value} (h : w.ownsRow base e size (.slice (some ⟨g, 0, none⟩) n cap) n vs) : g < w.heap.size ∧ ∀ j u, vs[j]? = some u → w.cell? ⟨g, j, none⟩ = some u := by
  obtain ⟨h1, ⟨h, _⟩ | ⟨g', cap', cur, e1, e2, hh, r1, r2, r3, r4⟩⟩ := h
  · cases h
  · simp only [Value.slice.injEq, Option.some.injEq, Addr.mk.injEq] at e1
    obtain ⟨⟨rfl, _, _⟩, _, rfl⟩ := e1
    refine ⟨(Array.getElem?_eq_some_iff.1 hh).1, fun j u hu => ?_⟩
    unfold World.cell?
    rw [show w.heap[({ block := g, off := j, spot := none } : Addr).block]? = _ from hh]
    rw [← r4] at hu
    have hj : j < n * size := by
      have := (List.getElem?_eq_some_iff.1 hu).1
      rw [List.length_take] at this
      omega
    rw [List.getElem?_take_of_lt hj] at hu
    simpa using hu
theorem owns_frozen {w : World} {base e size n g cap : Nat} {vs : List Value} (h : w.ownsRow base e size (.slice (some ⟨g, 0, none⟩) n cap) n vs) (j : Nat) : w.frozen? ⟨g, j, none⟩ = false := by
  obtain ⟨h1, ⟨h, _⟩ | ⟨g', cap', cur, e1, e2, hh, r1, r2, r3, r4⟩⟩ := h
  · cases h
  · simp only [Value.slice.injEq, Option.some.injEq, Addr.mk.injEq] at e1
    obtain ⟨⟨rfl, _, _⟩, _, rfl⟩ := e1
    unfold World.frozen?
    rw [show w.heap[({ block := g, off := j, spot := none } : Addr).block]? = _ from hh]
    simp
end Ag
end Go.Proofs.Ytckkhmmicbpihaa

namespace Go.Proofs.Ytckkhmmicbpihaa
open Go.RowKit
set_option linter.unusedVariables false
set_option linter.unusedSimpArgs false
set_option maxRecDepth 100000

namespace Co
def toZ (c : Cf) : Zf := ((c.1 : Int), (c.2.1 : Int), (c.2.2.1 : Int), (c.2.2.2.1 : Int), (c.2.2.2.2 : Int))
theorem inZ_nat (l : List Nat) (n : Nat) : inZ l (n : Int) = inB l n := by
  unfold inZ inB toI
  rw [Bool.eq_iff_iff, decide_eq_true_iff, List.any_eq_true, List.mem_map]
  constructor
  · rintro ⟨x, hx, e⟩
    exact ⟨x, hx, by rw [Nat.beq_eq]; omega⟩
  · rintro ⟨x, hx, e⟩
    rw [Nat.beq_eq] at e
    exact ⟨x, hx, by omega⟩
theorem ble_dec (a b : Nat) : Nat.ble a b = decide (a ≤ b) := by
  rw [Bool.eq_iff_iff, Nat.ble_eq, decide_eq_true_iff]
theorem beq_dec (a b : Nat) : Nat.beq a b = decide (a = b) := by
  rw [Bool.eq_iff_iff, Nat.beq_eq, decide_eq_true_iff]
theorem okZ_nat (c : Cf) : okZ (toZ c) = ok c := by
  obtain ⟨s, i, l, k, m⟩ := c
  unfold okZ ok toZ
  simp only [inZ_nat, ble_dec, beq_dec]
  congr 1
  · exact decide_eq_decide.2 (by omega)
  congr 1
  · exact decide_eq_decide.2 (by omega)
  congr 1
  · exact decide_eq_decide.2 (by omega)
  congr 1
  · exact decide_eq_decide.2 (by omega)
  congr 1
  congr 1
  · exact decide_eq_decide.2 (by omega)
  · congr 1
    · exact decide_eq_decide.2 (by omega)
    congr 1
    · exact decide_eq_decide.2 (by omega)
  · congr 1
    · exact decide_eq_decide.2 (by omega)
    · exact decide_eq_decide.2 (by omega)
theorem fr_snoc : ∀ (n a : Nat), fr a (n + 1) = fr a n ++ bif ok (cat (a + n)) then [cat (a + n)] else []
  | 0, a => by
    show (bif ok (cat a) then cat a :: fr (a + 1) 0 else fr (a + 1) 0) = _
    rw [Nat.add_zero]
    cases ok (cat a) <;> rfl
  | n + 1, a => by
    have ih := fr_snoc n (a + 1)
    rw [show a + 1 + n = a + (n + 1) by omega] at ih
    show (bif ok (cat a) then cat a :: fr (a + 1) (n + 1) else fr (a + 1) (n + 1)) = (bif ok (cat a) then cat a :: fr (a + 1) n else fr (a + 1) n) ++ _
    rw [ih]
    cases ok (cat a) <;> rfl
/-- How many there are so far. -/
theorem fr_le : ∀ n a, (fr a n).length ≤ n
  | 0, a => Nat.le_refl _
  | n + 1, a => by
    have := fr_le n (a + 1)
    show (bif ok (cat a) then cat a :: fr (a + 1) n else fr (a + 1) n).length ≤ _
    cases ok (cat a)
    · show (fr (a + 1) n).length ≤ n + 1
      omega
    · show (cat a :: fr (a + 1) n).length ≤ n + 1
      rw [List.length_cons]
      omega
theorem cat_at (s i l k m : Nat) (h1 : i < 4) (h2 : l < 13) (h3 : k < 3) (h4 : m < 64) : cat (9984 * s + 2496 * i + 192 * l + 64 * k + m) = (s + 1, i, l, k + 1, m + 1) := by
  unfold cat
  refine Prod.ext ?_ (Prod.ext ?_ (Prod.ext ?_ (Prod.ext ?_ ?_))) <;> simp only <;> omega
/-- Rows of configurations in memory. -/
def enc (l : List Cf) : List Value := l.flatMap fun c => cv (toZ c)
theorem enc_app (l m : List Cf) : enc (l ++ m) = enc l ++ enc m := by unfold enc; rw [List.flatMap_append]
theorem enc_len (l : List Cf) : (enc l).length = l.length * 5 := by
  induction l with
  | nil => rfl
  | cons c l ih =>
    rw [show enc (c :: l) = cv (toZ c) ++ enc l from rfl, List.length_append, ih, List.length_cons]
    show 5 + _ = _
    omega
end Co
/-- What stands in memory behind the first t. -/
def OA (w wr : World) (v : Value) (t : Nat) : Prop := wr.ownsRow w.heap.size 23 5 v (Co.fr 0 t).length (Co.enc (Co.fr 0 t)) ∧ Below w.heap.size w wr
theorem OA.start (w : World) : OA w w (.slice none 0 0) 0 := ⟨⟨rfl, .inl ⟨rfl, rfl⟩⟩, Below.refl _ _⟩
theorem OA.skip {w wr : World} {v : Value} {t : Nat} (h : OA w wr v t) (ho : Co.ok (Co.cat t) = false) {w2 : World} (hb : Below wr.heap.size wr w2) : OA w w2 v (t + 1) := by
  refine ⟨?_, h.2.trans (hb.mono h.2.size)⟩
  rw [Co.fr_snoc, Nat.zero_add, ho]
  show w2.ownsRow _ _ _ _ (Co.fr 0 t ++ []).length (Co.enc (Co.fr 0 t ++ []))
  rw [List.append_nil]
  exact Ag.owns_keep h.1 hb
theorem OA.more {w w2 : World} {t g cap : Nat} (ho : Co.ok (Co.cat t) = true) (h : w2.ownsRow w.heap.size 23 5 (.slice (some ⟨g, 0, none⟩) ((Co.fr 0 t).length + 1) cap) ((Co.fr 0 t).length + 1) (Co.enc (Co.fr 0 t) ++ Co.cv (Co.toZ (Co.cat t)))) (hb : Below w.heap.size w w2) : OA w w2 (.slice (some ⟨g, 0, none⟩) ((Co.fr 0 t).length + 1) cap) (t + 1) := by
  refine ⟨?_, hb⟩
  rw [Co.fr_snoc, Nat.zero_add, ho]
  show w2.ownsRow _ _ _ _ (Co.fr 0 t ++ [Co.cat t]).length (Co.enc (Co.fr 0 t ++ [Co.cat t]))
  rw [Co.enc_app, List.length_append]
  exact h
set_option maxHeartbeats 8000000 in
theorem rall_c (w : World) : Calls Try.prog 37 #[] w fun e w' => ∃ v, e = .returned v ∧ OA w w' v 39936 := by
  have RC := hide rcheck_c
  obtain ⟨i0, hi, hz0, hz1, hz2⟩ := info_parts (show (Try.prog.info? 23).map (fun i => (i.zero, i.size, i.bytes)) = some (some (.agg #[.int .i64 0, .int .i64 0, .int .i64 0, .int .i64 0, .int .i64 0]), 5, 40) by kernel_rfl)
  have HI := hide (And.intro hi (And.intro hz0 (And.intro hz1 hz2)))
  clear hi hz0 hz1 hz2
  go_enter Try.func37, Try.ntmps37
  go_wp2
  go_loopw [1, 2] (fun vo vs wr => ∃ s : Nat, 1 ≤ s ∧ s ≤ 5 ∧ vs = .int .i64 (s : Nat) ∧ Hid (OA w wr vo (9984 * (s - 1)))) (fun _ vs _ => 5 - (intOf vs).toNat)
  case atStart => exact ⟨1, by omega, by omega, rfl, OA.start w⟩
  case round =>
    obtain ⟨s, hs1, hs, rfl, HO⟩ := hrel
    by_cases hs4 : s ≤ 4
    · have hsz : (s : Int) ≤ 4 := by omega
      obtain ⟨wa, rfl⟩ : ∃ wa, wa = wr := ⟨_, rfl⟩
      go_wp2
      go_loopw [1, 3] (fun vo vs wr => ∃ i : Nat, i ≤ 4 ∧ vs = .int .i64 (i : Nat) ∧ Hid (OA w wr vo (9984 * (s - 1) + 2496 * i))) (fun _ vs _ => 4 - (intOf vs).toNat)
      case atStart => exact ⟨0, by omega, rfl, HO⟩
      case round =>
        clear HO
        obtain ⟨i, hi4, rfl, HO⟩ := hrel
        by_cases hi3 : i ≤ 3
        · have hiz : (i : Int) ≤ 3 := by omega
          obtain ⟨wb, rfl⟩ : ∃ wb, wb = wr := ⟨_, rfl⟩
          go_wp2
          go_loopw [1, 4] (fun vo vs wr => ∃ l : Nat, l ≤ 13 ∧ vs = .int .i64 (l : Nat) ∧ Hid (OA w wr vo (9984 * (s - 1) + 2496 * i + 192 * l))) (fun _ vs _ => 13 - (intOf vs).toNat)
          case atStart => exact ⟨0, by omega, rfl, HO⟩
          case round =>
            clear HO
            obtain ⟨l, hl13, rfl, HO⟩ := hrel
            by_cases hl12 : l ≤ 12
            · have hlz : (l : Int) ≤ 12 := by omega
              obtain ⟨wc, rfl⟩ : ∃ wc, wc = wr := ⟨_, rfl⟩
              go_wp2
              go_loopw [1, 5] (fun vo vs wr => ∃ k : Nat, 1 ≤ k ∧ k ≤ 4 ∧ vs = .int .i64 (k : Nat) ∧ Hid (OA w wr vo (9984 * (s - 1) + 2496 * i + 192 * l + 64 * (k - 1)))) (fun _ vs _ => 4 - (intOf vs).toNat)
              case atStart => exact ⟨1, by omega, by omega, rfl, HO⟩
              case round =>
                clear HO
                obtain ⟨k, hk1, hk4, rfl, HO⟩ := hrel
                by_cases hk3 : k ≤ 3
                · have hkz : (k : Int) ≤ 3 := by omega
                  obtain ⟨wd, rfl⟩ : ∃ wd, wd = wr := ⟨_, rfl⟩
                  go_wp2
                  go_loopw [1, 6] (fun vo vs wr => ∃ m : Nat, 1 ≤ m ∧ m ≤ 65 ∧ vs = .int .i64 (m : Nat) ∧ Hid (OA w wr vo (9984 * (s - 1) + 2496 * i + 192 * l + 64 * (k - 1) + (m - 1)))) (fun _ vs _ => 65 - (intOf vs).toNat)
                  case atStart => exact ⟨1, by omega, by omega, rfl, HO⟩
                  case round =>
                    clear HO
                    obtain ⟨m, hm1, hm65, rfl, HO⟩ := hrel
                    by_cases hm64 : m ≤ 64
                    · have hmz : (m : Int) ≤ 64 := by omega
                      obtain ⟨tt, htt⟩ : ∃ tt, Hid (tt = 9984 * (s - 1) + 2496 * i + 192 * l + 64 * (k - 1) + (m - 1)) := ⟨_, rfl⟩
                      rw [← htt.out] at HO
                      have HCT : Hid (Co.cat tt = (s, i, l, k, m)) := by
                        have := Co.cat_at (s - 1) i l (k - 1) (m - 1) (by omega) (by omega) (by omega) (by omega)
                        rw [← htt.out] at this
                        rw [this]
                        refine Prod.ext ?_ (Prod.ext ?_ (Prod.ext ?_ (Prod.ext ?_ ?_))) <;> simp only <;> omega
                      have HOK : Hid (Co.okZ ((s : Int), (i : Int), (l : Int), (k : Int), (m : Int)) = Co.ok (Co.cat tt)) := by
                        have := Co.okZ_nat (Co.cat tt)
                        rw [← this, HCT.out]
                        exact (rfl : Co.okZ _ = Co.okZ _)
                      have HCV : Hid (Co.cv (Co.toZ (Co.cat tt)) = [.int .i64 (s : Nat), .int .i64 (i : Nat), .int .i64 (l : Nat), .int .i64 (k : Nat), .int .i64 (m : Nat)]) := by rw [HCT.out]; exact (rfl : Co.cv _ = _)
                      have HT1 : Hid (tt + 1 = 9984 * (s - 1) + 2496 * i + 192 * l + 64 * (k - 1) + (m + 1 - 1)) := by rw [htt.out]; show _ = _; omega
                      have htn : tt ≤ 39936 := by rw [htt.out]; omega
                      have HFL : Hid ((Co.fr 0 tt).length ≤ 39936) := Nat.le_trans (Co.fr_le tt 0) htn
                      have HA := hide (below_alloc wr (.cells #[.int .i64 (s : Nat), .int .i64 (i : Nat), .int .i64 (l : Nat), .int .i64 (k : Nat), .int .i64 (m : Nat)] 23))
                      have HX : Hid (Cel (wr.alloc (.cells #[.int .i64 (s : Nat), .int .i64 (i : Nat), .int .i64 (l : Nat), .int .i64 (k : Nat), .int .i64 (m : Nat)] 23)) wr.heap.size [.int .i64 (s : Nat), .int .i64 (i : Nat), .int .i64 (l : Nat), .int .i64 (k : Nat), .int .i64 (m : Nat)] 23) := Cel.new wr _ _
                      cases hok : Co.ok (Co.cat tt) with
                      | false =>
                        go_wp2_with fail
                        refine (RC.out s i l k m _).mono ?_
                        rintro e w1 ⟨rfl, hb⟩
                        have HN := hide (HO.out.skip hok (HA.out.trans (hb.mono HA.out.size)))
                        rw [HOK.out, hok]
                        clear hb HX HA
                        go_wp2
                        exact ⟨⟨m + 1, by omega, by omega, by go_num, by rw [← HT1.out]; exact HN⟩, by simp only [intOf]; omega⟩
                      | true =>
                        go_wp2_with fail
                        refine (RC.out s i l k m _).mono ?_
                        rintro e w1 ⟨rfl, hb⟩
                        rw [HOK.out, hok]
                        have HX1 := hide (HX.out.kept hb)
                        have HB1 := hide (HA.out.trans (hb.mono HA.out.size))
                        have HO1 := hide (Ag.owns_keep HO.out.1 HB1.out)
                        have HW1 := hide (HO.out.2.trans (HB1.out.mono HO.out.2.size))
                        have hws : w.heap.size ≤ w1.heap.size := HW1.out.size
                        obtain ⟨hi, hz0, hz1, hz2⟩ := HI.out
                        have q0 := HX1.out.cell 0 rfl
                        have q1 := HX1.out.cell 1 rfl
                        have q2 := HX1.out.cell 2 rfl
                        have q3 := HX1.out.cell 3 rfl
                        have q4 := HX1.out.cell 4 rfl
                        have hfl := HFL.out
                        clear hb HX HA HO
                        generalize wr.heap.size = gb at *
                        go_wp2_with (at_builtin; refine Ag.wpList_append (by rfl) _ _ _ (by rfl) w.heap.size 23 i0 (.agg #[.int .i64 0, .int .i64 0, .int .i64 0, .int .i64 0, .int .i64 0]) 5 40 Try.underlying65 hi hz0 hz1 hz2 rfl (by decide) u1 (Co.fr 0 tt).length (Co.enc (Co.fr 0 tt)) (by rfl) (HO1.out.alloc _) ⟨w1.heap.size, 0, none⟩ 1 1 [.int .i64 (s : Nat), .int .i64 (i : Nat), .int .i64 (l : Nat), .int .i64 (k : Nat), .int .i64 (m : Nat)] (by rfl) rfl (by decide) ?c1 ?c2 ?c3 ?c4 ?c5 ?_)
                        case c1 =>
                          intro j u hj
                          have := (Cel.new w1 [.int .i64 (s : Nat), .int .i64 (i : Nat), .int .i64 (l : Nat), .int .i64 (k : Nat), .int .i64 (m : Nat)] 23).cell j hj
                          match j, hj with
                          | 0, _ => exact this
                          | 1, _ => exact this
                          | 2, _ => exact this
                          | 3, _ => exact this
                          | 4, _ => exact this
                        case c2 => intro u hu; simp at hu; rcases hu with rfl | rfl | rfl | rfl | rfl <;> rfl
                        case c3 => unfold maxLen; omega
                        case c4 => omega
                        case c5 => simp; omega
                        intro g8 cap8 w8 own8 hb8 _ _ _ _
                        have HN : Hid (OA w w8 (.slice (some ⟨g8, 0, none⟩) ((Co.fr 0 tt).length + 1) cap8) (tt + 1)) := OA.more hok (by rw [HCV.out]; exact own8) ((HW1.out.alloc hws _).trans hb8)
                        clear own8 hb8 HO1 hi hz0 hz1 hz2 q0 q1 q2 q3 q4 HX1 HB1 HW1
                        go_wp2
                        exact ⟨⟨m + 1, by omega, by omega, by go_num, by rw [← HT1.out]; exact HN⟩, by simp only [intOf]; omega⟩
                    · have hmz : ¬ (m : Int) ≤ 64 := by omega
                      have hx : Hid (OA w wr u1 (9984 * (s - 1) + 2496 * i + 192 * l + 64 * (k + 1 - 1))) := by
                        have := HO.out
                        rwa [show 9984 * (s - 1) + 2496 * i + 192 * l + 64 * (k - 1) + (m - 1) = 9984 * (s - 1) + 2496 * i + 192 * l + 64 * (k + 1 - 1) by omega] at this
                      clear HO
                      go_wp2
                      exact ⟨⟨k + 1, by omega, by omega, by go_num, hx⟩, by simp only [intOf]; omega⟩
                · have hkz : ¬ (k : Int) ≤ 3 := by omega
                  have hx : Hid (OA w wr u1 (9984 * (s - 1) + 2496 * i + 192 * (l + 1))) := by
                    have := HO.out
                    rwa [show 9984 * (s - 1) + 2496 * i + 192 * l + 64 * (k - 1) = 9984 * (s - 1) + 2496 * i + 192 * (l + 1) by omega] at this
                  clear HO
                  go_wp2
                  exact ⟨⟨l + 1, by omega, by go_num, hx⟩, by simp only [intOf]; omega⟩
            · have hlz : ¬ (l : Int) ≤ 12 := by omega
              have hx : Hid (OA w wr u1 (9984 * (s - 1) + 2496 * (i + 1))) := by
                have := HO.out
                rwa [show 9984 * (s - 1) + 2496 * i + 192 * l = 9984 * (s - 1) + 2496 * (i + 1) by omega] at this
              clear HO
              go_wp2
              exact ⟨⟨i + 1, by omega, by go_num, hx⟩, by simp only [intOf]; omega⟩
        · have hiz : ¬ (i : Int) ≤ 3 := by omega
          have hx : Hid (OA w wr u1 (9984 * (s + 1 - 1))) := by
            have := HO.out
            rwa [show 9984 * (s - 1) + 2496 * i = 9984 * (s + 1 - 1) by omega] at this
          clear HO
          go_wp2
          exact ⟨⟨s + 1, by omega, by omega, by go_num, hx⟩, by simp only [intOf]; omega⟩
    · have hsz : ¬ (s : Int) ≤ 4 := by omega
      have hs0 : Hid (9984 * (s - 1) = 39936) := by show _ = _; omega
      go_wp2
      go_ret
      exact ⟨_, rfl, by rw [← hs0.out]; exact HO.out⟩
end Go.Proofs.Ytckkhmmicbpihaa

namespace Go.Proofs.Ytckkhmmicbpihaa
open Go.RowKit
set_option linter.unusedVariables false
set_option linter.unusedSimpArgs false
set_option maxRecDepth 100000

namespace Co
theorem enc_get : ∀ (l : List Cf) (i : Nat) (c : Cf), l[i]? = some c → ∀ j u, (cv (toZ c))[j]? = some u → (enc l)[i * 5 + j]? = some u
  | d :: l, 0, c, h, j, u, hu => by
    simp only [List.getElem?_cons_zero, Option.some.injEq] at h
    subst h
    show (cv (toZ d) ++ enc l)[0 * 5 + j]? = _
    have hj := (List.getElem?_eq_some_iff.1 hu).1
    rw [Nat.zero_mul, Nat.zero_add, List.getElem?_append_left hj]
    exact hu
  | d :: l, i + 1, c, h, j, u, hu => by
    have := enc_get l i c (by simpa using h) j u hu
    show (cv (toZ d) ++ enc l)[(i + 1) * 5 + j]? = _
    rw [List.getElem?_append_right (by show 5 ≤ _; omega), show (i + 1) * 5 + j - (cv (toZ d)).length = i * 5 + j by show (i + 1) * 5 + j - 5 = _; omega]
    exact this
/-- All, as numbers. -/
def az : List Zf := all.map toZ
theorem az_len : az.length = 378 := by unfold az; rw [List.length_map, all_len]
def numI (z : Zf) : Nat := if z ∈ az then az.idxOf z else 0
theorem first_ix {z : Zf} : ∀ {l : List Zf} {k : Nat}, (∀ j, j < k → l[j]? ≠ some z) → l[k]? = some z → l.idxOf z = k
  | [], k, _, h => by simp at h
  | a :: l, 0, _, h => by
    simp only [List.getElem?_cons_zero, Option.some.injEq] at h
    subst h
    simp
  | a :: l, k + 1, h1, h2 => by
    have h0 := h1 0 (by omega)
    simp only [List.getElem?_cons_zero, ne_eq, Option.some.injEq] at h0
    rw [List.idxOf_cons, show (a == z) = false by simpa using h0]
    show l.idxOf z + 1 = k + 1
    rw [first_ix (l := l) (k := k) (fun j hj => by have := h1 (j + 1) (by omega); simpa using this) (by simpa using h2)]
end Co
/-- All stand in block g. -/
def AL (w : World) (g : Nat) : Prop := g < w.heap.size ∧ ∀ i c, Co.all[i]? = some c → ∀ j u, (Co.cv (Co.toZ c))[j]? = some u → w.cell? ⟨g, i * 5 + j, none⟩ = some u
theorem AL.keep {w w' : World} {g : Nat} (h : AL w g) (hb : Below w.heap.size w w') : AL w' g := ⟨Nat.lt_of_lt_of_le h.1 hb.size, fun i c hc j u hu => (hb.cell (p := ⟨g, i * 5 + j, none⟩) h.1).trans (h.2 i c hc j u hu)⟩
/-- What an All answers. -/
def AllQ (w : World) (e : Ending) (w' : World) : Prop := ∃ g cap, e = .returned (.slice (some ⟨g, 0, none⟩) 378 cap) ∧ AL w' g ∧ 378 ≤ cap ∧ w.heap.size ≤ g ∧ Below w.heap.size w w'
theorem rall_a (w : World) : Calls Try.prog 37 #[] w (AllQ w) := by
  refine (rall_c w).mono ?_
  rintro e w' ⟨v, rfl, hO, hB⟩
  rw [Co.fr_all, Co.all_len] at hO
  obtain ⟨h1, ⟨_, h⟩ | ⟨g, cap, cur, rfl, e2, hh, r⟩⟩ := id hO
  · exact absurd h (by decide)
  · exact ⟨g, cap, rfl, ⟨(Ag.owns_cells hO).1, fun i c hc j u hu => (Ag.owns_cells hO).2 _ _ (Co.enc_get _ i c hc j u hu)⟩, r.1, e2, hB⟩
theorem eq_cfg (w : World) (a b : Co.Zf) : (binOp .eql 23 (.agg (Co.cv a).toArray) (.agg (Co.cv b).toArray)).run Try.prog w = .ok (.bool (decide (a = b))) w := by
  obtain ⟨a1, a2, a3, a4, a5⟩ := a
  obtain ⟨b1, b2, b3, b4, b5⟩ := b
  have e3 := fun d a b => run_equalIn_int (P := Try.prog) w d 3 .i64 .i64 a b Try.underlying3
  rw [run_eql_struct, run_equalIn_agg w 9999 _ _ _ (by kernel_rfl) (by kernel_rfl)]
  simp only [Program.fieldsOf, Try.underlying23, Co.cv]
  have e4 : ∀ a b, (Op.equalIn 9999 3 (.int .i64 a) (.int .i64 b)).run Try.prog w = .ok (a == b) w := fun a b => e3 9998 a b
  cases h1 : (a1 == b1) <;> cases h2 : (a2 == b2) <;> cases h3 : (a3 == b3) <;> cases h4 : (a4 == b4) <;> cases h5 : (a5 == b5) <;> simp [Op.eqFields, part, Try.isAgg3, e4, h1, h2, h3, h4, h5] <;> simp_all
theorem guard_cfg : Try.prog.eqGuardType Try.prog.depth 23 = false := by kernel_rfl
/-- One of all, cell by cell. -/
theorem AL.at {w : World} {g : Nat} (h : AL w g) (i : Nat) (hi : i < 378) : ∃ x1 x2 x3 x4 x5 : Int, Co.az[i]? = some (x1, x2, x3, x4, x5) ∧ w.cell? ⟨g, i * 5, none⟩ = some (.int .i64 x1) ∧ w.cell? ⟨g, i * 5 + 1, none⟩ = some (.int .i64 x2) ∧ w.cell? ⟨g, i * 5 + 2, none⟩ = some (.int .i64 x3) ∧ w.cell? ⟨g, i * 5 + 3, none⟩ = some (.int .i64 x4) ∧ w.cell? ⟨g, i * 5 + 4, none⟩ = some (.int .i64 x5) := by
  obtain ⟨c, hc⟩ : ∃ c, Co.all[i]? = some c := ⟨_, List.getElem?_eq_getElem (by rw [Co.all_len]; exact hi)⟩
  have hz : Co.az[i]? = some (Co.toZ c) := by unfold Co.az; rw [List.getElem?_map, hc]; rfl
  exact ⟨_, _, _, _, _, hz, h.2 i c hc 0 _ rfl, h.2 i c hc 1 _ rfl, h.2 i c hc 2 _ rfl, h.2 i c hc 3 _ rfl, h.2 i c hc 4 _ rfl⟩
end Go.Proofs.Ytckkhmmicbpihaa

namespace Go.Proofs.Ytckkhmmicbpihaa
open Go.RowKit Num Hp
set_option linter.unusedVariables false
set_option linter.unusedSimpArgs false
set_option maxRecDepth 100000

namespace Pn
/-- The numbers of a configuration that may be. -/
structure CfI (s i g k m : Int) : Prop where
  k1 : 1 ≤ k
  k3 : k ≤ 3
  m1 : ∃ M : Nat, m = M ∧ 1 ≤ M ∧ M ≤ 64
  sh : (s = 1 ∨ s = 2 ∨ s = 3) ∨ (s = 4 ∧ 1 ≤ i ∧ i ≤ 3 ∧ ∃ G : Nat, g = G ∧ 4 ≤ G ∧ G ≤ 12)
theorem inZ_has {l : List Nat} {n : Int} (h : Co.inZ l n = true) : ∃ a, a ∈ l ∧ n = (a : Int) := by
  unfold Co.inZ at h
  have := of_decide_eq_true h
  unfold toI at this
  obtain ⟨a, h1, h2⟩ := List.mem_map.1 this
  exact ⟨a, h1, h2.symm⟩
theorem CfI.of {s i g k m : Int} (h : Co.okZ (s, i, g, k, m) = true) : CfI s i g k m := by
  unfold Co.okZ at h
  simp only [Bool.and_eq_true, decide_eq_true_eq] at h
  obtain ⟨h1, h2, h3, h4, h5, h6⟩ := h
  obtain ⟨M, hM, rfl⟩ := inZ_has h5
  refine ⟨h3, h4, ⟨M, rfl, ?_, ?_⟩, ?_⟩
  · unfold Co.sam at hM; simp at hM; omega
  · unfold Co.sam at hM; simp at hM; omega
  · by_cases c : s = 4
    · subst c
      simp only [decide_true, cond_true, Bool.and_eq_true, decide_eq_true_eq] at h6
      obtain ⟨h7, h8, h9⟩ := h6
      obtain ⟨G, hG, rfl⟩ := inZ_has h9
      refine .inr ⟨rfl, h7, h8, G, rfl, ?_, ?_⟩
      · unfold Co.lgs at hG; simp at hG; omega
      · unfold Co.lgs at hG; simp at hG; omega
    · exact .inl (by omega)
/-- What symbols cost by the codes of their counts. -/
def cst (l : List Int) : Nat := costv l (lst (hlen (cntOf l) 256))
theorem tot_le {f g : Nat → Nat} (h : ∀ i, f i ≤ g i) : ∀ q, Hv.tot f q ≤ Hv.tot g q
  | 0 => Nat.le_refl _
  | q + 1 => by
    have := tot_le h q
    have := h q
    rw [Hv.tot, Hv.tot]
    omega
theorem tot_mul (f : Nat → Nat) (c : Nat) : ∀ q, Hv.tot (fun i => f i * c) q = Hv.tot f q * c
  | 0 => by simp [Hv.tot]
  | q + 1 => by rw [Hv.tot, Hv.tot, tot_mul f c q, Nat.add_mul]
theorem cst_le {l : List Int} (hw : win l 8192 = true) (ht : Hv.tot (cntOf l) 256 ≤ 8192) : cst l ≤ 327680 := by
  unfold cst costv
  split
  · have hL := lok_hlen l (win_more hw)
    rw [cnt_lst hL.out]
    have := tot_le (f := fun i => cntOf l i * hlen (cntOf l) 256 i) (g := fun i => cntOf l i * 40) (fun i => Nat.mul_le_mul_left _ (hL.le i)) 256
    rw [tot_mul] at this
    omega
  · omega
def shp (s : Int) (l : List Int) (n : Nat) : Nat := if s = 2 then (if n = 0 then 1 else max 1 (up (cst l) n)) else 8
theorem shp_le (s : Int) {l : List Int} {n : Nat} (hw : win l 8192 = true) (ht : Hv.tot (cntOf l) 256 ≤ 8192) : shp s l n ≤ 327680 := by
  unfold shp
  split
  · split
    · omega
    · have := up_le (cst l) n (by omega)
      have := cst_le hw ht
      omega
  · omega
theorem shp_pos (s : Int) (l : List Int) (n : Nat) : 1 ≤ shp s l n := by
  unfold shp
  split
  · split <;> omega
  · omega
end Pn
set_option maxHeartbeats 2000000 in
theorem rshape_c (s : Int) (ao : Option Addr) (l : List Int) (cap n : Nat) (w : World) (hx : Nd w ao l) (hw : win l 8192 = true) (ht : Hv.tot (cntOf l) 256 ≤ 8192) (hn : n ≤ 8192) :
    Calls Try.prog 31 #[.int .i64 s, .slice ao l.length cap, .int .i64 (n : Nat)] w fun e w' => e = .returned (.int .i64 (Pn.shp s l n : Nat)) ∧ Below w.heap.size w w' := by
  obtain ⟨h256, hbd⟩ := win_len hw
  by_cases h1 : s = 2
  · subst h1
    have E : Hid (Pn.shp 2 l n = if n = 0 then 1 else max 1 (Pn.up (Pn.cst l) n)) := by show _ = _; unfold Pn.shp; rw [if_pos rfl]
    have A1 := hide (rlen_c ao l cap w hx (by omega) (win_more hw))
    unfold LO at A1
    have A2 : Hid (∀ g w0, Cel w0 g (ivh (hls l)) 3 → Below w.heap.size w w0 → Calls Try.prog 55 #[.slice ao l.length cap, .slice (some ⟨g, 0, none⟩) 256 256] w0 fun e w' => e = .returned (.int .i64 (Pn.cst l : Nat)) ∧ Below w0.heap.size w0 w') := fun g w0 h hb => by
      have := rcost_c ao l cap (some ⟨g, 0, none⟩) (lst (hlen (cntOf l) 256)) 256 w0 (hx.keep hb) (nd_hls h) (by omega) (by rw [length_lst]; omega)
      rw [length_lst] at this
      exact this
    have cle := Pn.cst_le hw ht
    generalize Pn.cst l = cs at *
    rw [h256] at A1 A2 ⊢
    clear hx hw ht hbd h256
    by_cases h0 : n = 0
    · subst h0
      rw [if_pos rfl] at E
      go_enter Try.func31, Try.ntmps31
      go_wp2_with fail
      refine (A1.out).mono ?_
      rintro e w1 ⟨gl, rfl, hl1, _, hb1⟩
      have HB1 := hide hb1
      clear hb1 hl1 A1 A2
      go_wp2
      go_ret
      rw [E.out]
      exact ⟨rfl, HB1.out⟩
    · have h0z : ((n : Int) == 0) = false := by simp; omega
      rw [if_neg h0] at E
      have U := hide fun w0 => rup_c cs n (by omega) (by omega) (by omega) w0
      have hu := Pn.up_le cs n (by omega)
      generalize Pn.up cs n = u at *
      by_cases hc : u ≤ 1
      · have hcz : (u : Int) ≤ 1 := by omega
        rw [show max 1 u = 1 by omega] at E
        go_enter Try.func31, Try.ntmps31
        go_wp2_with fail
        refine (A1.out).mono ?_
        rintro e w1 ⟨gl, rfl, hl1, _, hb1⟩
        have HB1 := hide hb1
        have HL1 := hide hl1
        clear hb1 hl1 A1
        go_wp2_with fail
        refine (A2.out gl w1 HL1.out HB1.out).mono ?_
        rintro e w2 ⟨rfl, hb2⟩
        replace HB1 := hide (HB1.out.trans (hb2.mono HB1.out.size))
        clear hb2 A2 HL1
        go_wp2_with fail
        refine (U.out _).mono ?_
        rintro e w3 ⟨rfl, rfl⟩
        go_wp2
        go_ret
        rw [E.out]
        exact ⟨rfl, HB1.out⟩
      · have hcz : ¬ (u : Int) ≤ 1 := by omega
        rw [show max 1 u = u by omega] at E
        go_enter Try.func31, Try.ntmps31
        go_wp2_with fail
        refine (A1.out).mono ?_
        rintro e w1 ⟨gl, rfl, hl1, _, hb1⟩
        have HB1 := hide hb1
        have HL1 := hide hl1
        clear hb1 hl1 A1
        go_wp2_with fail
        refine (A2.out gl w1 HL1.out HB1.out).mono ?_
        rintro e w2 ⟨rfl, hb2⟩
        replace HB1 := hide (HB1.out.trans (hb2.mono HB1.out.size))
        clear hb2 A2 HL1
        go_wp2_with fail
        refine (U.out _).mono ?_
        rintro e w3 ⟨rfl, rfl⟩
        go_wp2
        go_ret
        rw [E.out]
        exact ⟨rfl, HB1.out⟩
  · have h1z : (s != 2) = true := by simp; omega
    have E : Hid (Pn.shp s l n = 8) := by show _ = _; unfold Pn.shp; rw [if_neg h1]
    clear hx hw ht hbd h256
    go_enter Try.func31, Try.ntmps31
    go_wp2
    go_ret
    rw [E.out]
    exact ⟨rfl, Below.refl _ _⟩
end Go.Proofs.Ytckkhmmicbpihaa
