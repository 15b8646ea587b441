/-
  The document's things in memory; the contract of its least.
-/
import Derived.Test.YtbkagloonlddfaaUz
import Derived.Test.YtbkagloonlddfaaHo
namespace Go.Proofs.Ytbkagloonlddfaa
open Go.RowKit Num Hp
set_option linter.unusedVariables false
set_option linter.unusedSimpArgs false
set_option maxRecDepth 100000

/-- A thing of the document, and where its symbols lie. -/
structure TB where
  t : Hn.Tg
  g : Nat
  cap : Nat
instance : Inhabited TB := ⟨⟨⟨0, 0, []⟩, 0, 0⟩⟩
def tbc (x : TB) : List Value := [.int .i64 (x.t.id : Nat), .int .i64 (x.t.wt : Nat), .slice (some ⟨x.g, 0, none⟩) x.t.sy.length x.cap]
def tbs (L : List TB) : List Value := L.flatMap tbc
def tbi (L : List TB) (i : Nat) : TB := L.getD i default
theorem length_tbc (x : TB) : (tbc x).length = 3 := rfl
theorem length_tbs (L : List TB) : (tbs L).length = L.length * 3 := by
  induction L with
  | nil => rfl
  | cons x L ih => unfold tbs at *; rw [List.flatMap_cons, List.length_append, ih, length_tbc, List.length_cons]; omega
theorem tbs_append (L M : List TB) : tbs (L ++ M) = tbs L ++ tbs M := by unfold tbs; rw [List.flatMap_append]
theorem tbs_get : ∀ (L : List TB) (i k : Nat), i < L.length → k < 3 → (tbs L)[i * 3 + k]? = (tbc (tbi L i))[k]?
  | x :: L, 0, k, _, hk => by
    unfold tbs tbi
    rw [List.flatMap_cons, List.getElem?_append_left (by rw [length_tbc]; omega)]
    simp
  | x :: L, i + 1, k, h, hk => by
    have ih := tbs_get L i k (by simpa using h) hk
    have e1 : tbs (x :: L) = tbc x ++ tbs L := by unfold tbs; rw [List.flatMap_cons]
    rw [e1, List.getElem?_append_right (by rw [length_tbc]; omega), length_tbc, show (i + 1) * 3 + k - 3 = i * 3 + k by omega, ih]
    rfl
theorem tg_map (L : List TB) (i : Nat) : Ho.tg (L.map TB.t) i = (tbi L i).t := by
  unfold Ho.tg tbi
  rw [List.getD_eq_getElem?_getD, List.getD_eq_getElem?_getD, List.getElem?_map]
  cases L[i]? <;> rfl
/-- The first two cells of each. -/
def TR (w : World) (g : Nat) (L : List TB) : Prop := g < w.heap.size ∧ ∀ i, i < L.length → w.cell? ⟨g, i * 3, none⟩ = some (.int .i64 ((tbi L i).t.id : Nat)) ∧ w.cell? ⟨g, i * 3 + 1, none⟩ = some (.int .i64 ((tbi L i).t.wt : Nat))
theorem TR.keep {w w' : World} {g : Nat} {L : List TB} (h : TR w g L) (hb : Below w.heap.size w w') : TR w' g L :=
  ⟨Nat.lt_of_lt_of_le h.1 hb.size, fun i hi => ⟨(hb.cell (p := ⟨g, i * 3, none⟩) h.1).trans (h.2 i hi).1, (hb.cell (p := ⟨g, i * 3 + 1, none⟩) h.1).trans (h.2 i hi).2⟩⟩

set_option maxHeartbeats 8000000 in
theorem rleast_c (g cap : Nat) (L : List TB) (w : World) (hx : TR w g L) (h0 : 0 < L.length) (hl : L.length ≤ 256) :
    Calls Try.prog 28 #[.slice (some ⟨g, 0, none⟩) L.length cap] w fun e w' => e = .returned (.int .i64 (Ho.least (L.map TB.t) : Nat)) ∧ Below w.heap.size w w' := by
  obtain ⟨T, hT⟩ : ∃ T, Hid (T = L.map TB.t) := ⟨_, rfl⟩
  have HX := hide hx
  have HTL : Hid (T.length = L.length) := by show T.length = _; rw [hT.out, List.length_map]
  have HTG : Hid (∀ i, (tbi L i).t = Ho.tg T i) := fun i => by rw [hT.out, tg_map]
  rw [← hT.out]
  clear hx
  go_enter Try.func28, Try.ntmps28
  go_wp2
  go_loopw [3, 4] (fun va vi wr => ∃ (q at_ : Nat), q + 1 ≤ L.length ∧ at_ ≤ q ∧ vi = .int .i64 ((q + 1 : Nat) : Int) ∧ va = .int .i64 at_ ∧ Hid (at_ = Ho.leastQ T q) ∧ Hid (Below w.heap.size w wr)) (fun _ vi _ => L.length - (intOf vi).toNat)
  case atStart => exact ⟨0, 0, by omega, by omega, rfl, rfl, rfl, Below.refl _ _⟩
  case round =>
    obtain ⟨q, p, hq, hp, rfl, rfl, HI, HB⟩ := hrel
    by_cases hlt : q + 1 < L.length
    · have hltz : ((q + 1 : Nat) : Int) < (L.length : Int) := by omega
      have hpz : (p : Int) < (L.length : Int) := by omega
      have X := HX.out.keep HB.out
      obtain ⟨e0, e1⟩ := X.2 (q + 1) hlt
      obtain ⟨e2, e3⟩ := X.2 p (by omega)
      rw [HTG.out] at e0 e1 e2 e3
      have HN : Hid (Ho.leastQ T (q + 1) = if (decide ((Ho.tg T (q + 1)).wt < (Ho.tg T p).wt) || (decide ((Ho.tg T (q + 1)).wt = (Ho.tg T p).wt) && decide ((Ho.tg T (q + 1)).id < (Ho.tg T p).id))) = true then q + 1 else p) := by
        show Ho.leastQ T (q + 1) = _
        rw [Ho.leastQ, ← HI.out]
        rfl
      clear X HI HX
      generalize hi : q + 1 = i at *
      generalize (Ho.tg T i).wt = x1 at *
      generalize (Ho.tg T i).id = x0 at *
      generalize (Ho.tg T p).wt = y1 at *
      generalize (Ho.tg T p).id = y0 at *
      by_cases k1 : x1 < y1
      · have k1z : (x1 : Int) < (y1 : Int) := by omega
        have HN1 : Hid (i = Ho.leastQ T i) := by show i = _; rw [HN.out, if_pos (by simp [k1])]
        clear HN
        go_wp2
        go_quiet (fail)
        go_wp2
        exact ⟨⟨i, i, by omega, by omega, by go_num, rfl, HN1, below_drewN HB.out _⟩, by simp only [intOf]; omega⟩
      · have k1z : ¬ (x1 : Int) < (y1 : Int) := by omega
        by_cases k2 : x1 = y1
        · have k2z : ((x1 : Int) == (y1 : Int)) = true := by simp; omega
          by_cases k3 : x0 < y0
          · have k3z : (x0 : Int) < (y0 : Int) := by omega
            have HN1 : Hid (i = Ho.leastQ T i) := by show i = _; rw [HN.out, if_pos (by simp [k2, k3])]
            clear HN
            go_wp2
            go_quiet (fail)
            go_wp2
            exact ⟨⟨i, i, by omega, by omega, by go_num, rfl, HN1, below_drewN HB.out _⟩, by simp only [intOf]; omega⟩
          · have k3z : ¬ (x0 : Int) < (y0 : Int) := by omega
            have HN1 : Hid (p = Ho.leastQ T i) := by show p = _; rw [HN.out, if_neg (by simp [k1, k3])]
            clear HN
            go_wp2
            go_quiet (fail)
            go_wp2
            exact ⟨⟨i, p, by omega, by omega, by go_num, rfl, HN1, below_drewN HB.out _⟩, by simp only [intOf]; omega⟩
        · have k2z : ((x1 : Int) == (y1 : Int)) = false := by simp; omega
          have HN1 : Hid (p = Ho.leastQ T i) := by show p = _; rw [HN.out, if_neg (by simp [k1, k2])]
          clear HN
          go_wp2
          go_quiet (fail)
          go_wp2
          exact ⟨⟨i, p, by omega, by omega, by go_num, rfl, HN1, below_drewN HB.out _⟩, by simp only [intOf]; omega⟩
    · have HR : Hid (Ho.least T = p) := by show Ho.least T = p; unfold Ho.least; rw [HTL.out, HI.out]; congr 1; omega
      have hltz : ¬ ((q + 1 : Nat) : Int) < (L.length : Int) := by omega
      go_wp2
      go_ret
      rw [HR.out]
      exact ⟨rfl, HB.out⟩
end Go.Proofs.Ytbkagloonlddfaa
