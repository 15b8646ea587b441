/-
  Plain: how the program counts its codes: how many of each length, the first of each length; whether lengths fit. The contracts of the sort's exchange of two rows, and of its rotation.
-/
import Derived.Test.YtcjhiolginpgoaaM01
import Derived.Test.YtcjhiolginpgoaaM02
import Derived.Test.YtcjhiolginpgoaaM05
import Derived.Test.YtcjhiolginpgoaaM04
namespace Go.Proofs.Ytcjhiolginpgoaa.Ka
open Hr Ht Hp
set_option linter.unusedVariables false

/-- How many of the first q have length L. -/
def cl (l : Nat → Nat) (L : Nat) : Nat → Nat
  | 0 => 0
  | q + 1 => cl l L q + (if 0 < l q ∧ l q = L then 1 else 0)
/-- The first code of length L. -/
def fst (l : Nat → Nat) : Nat → Nat
  | 0 => 0
  | L + 1 => 2 * (fst l L + cl l L 256)
theorem cl_zero (l : Nat → Nat) (q : Nat) : cl l 0 q = 0 := by
  induction q with
  | zero => rfl
  | succ q ih => unfold cl; rw [ih, if_neg (by omega)]
theorem come_at (l : Nat → Nat) (L q k : Nat) (h : 0 < L) (hq : q ≤ k) : need l (come l L q) k = need l (come l L 0) k + cl l L q * 2 ^ (40 - L) := by
  induction q with
  | zero => unfold cl; rw [Nat.zero_mul]; rfl
  | succ q ih =>
    have e := ih (by omega)
    unfold cl
    by_cases c : l q = L
    · subst c
      rw [come_one l q k h (by omega), e, if_pos ⟨h, rfl⟩, Nat.add_mul, Nat.one_mul]
      omega
    · rw [come_same l L q k c, e, if_neg (fun x => c x.2)]
      rfl
theorem two_mul_comm (x y : Nat) : 2 * x * y = x * (y * 2) := by rw [Nat.mul_comm 2 x, Nat.mul_assoc, Nat.mul_comm 2 y]
theorem fst_need (l : Nat → Nat) : ∀ L, 0 < L → L ≤ 40 → fst l L * 2 ^ (40 - L) = need l (come l L 0) 256
  | 0, h, _ => absurd h (Nat.lt_irrefl _)
  | 1, _, _ => by
    rw [come_start]
    have e : fst l 1 = 0 := by
      show 2 * (0 + cl l 0 256) = 0
      rw [cl_zero]
    rw [e, Nat.zero_mul]
  | L + 2, _, h => by
    have ih := fst_need l (L + 1) (by omega) (by omega)
    rw [come_over, come_at l (L + 1) 256 256 (by omega) (Nat.le_refl _), ← ih]
    show 2 * (fst l (L + 1) + cl l (L + 1) 256) * 2 ^ (40 - (L + 2)) = _
    rw [show 40 - (L + 1) = (40 - (L + 2)) + 1 by omega, Nat.pow_succ, ← Nat.add_mul]
    exact two_mul_comm _ _
/-- The code of q is the first one of its length, and as many as come ahead. -/
theorem code_is (l : Nat → Nat) (q : Nat) (h : 0 < l q) (h40 : l q ≤ 40) (hq : q < 256) : fst l (l q) + cl l (l q) q = code l 256 q := by
  have e := code_eq l 256 q h40
  have e1 := come_at l (l q) q 256 h (by omega)
  rw [come_ahead, e, ← fst_need l (l q) h h40, ← Nat.add_mul] at e1
  exact (Nat.mul_right_cancel (Nat.two_pow_pos _) e1).symm
theorem fst_le (l : Nat → Nat) (hs : need l (fun _ => true) 256 ≤ 2 ^ 40) (L : Nat) (h40 : L ≤ 40) : fst l L + cl l L 256 ≤ 2 ^ 40 := by
  by_cases c : L = 0
  · subst c
    rw [cl_zero]
    unfold fst
    omega
  · have e1 := come_at l L 256 256 (by omega) (Nat.le_refl _)
    rw [← fst_need l L (by omega) h40, ← Nat.add_mul] at e1
    have m := need_mono (l := l) (P := come l L 256) (Q := fun _ => true) (fun _ _ => rfl) 256
    have t := Nat.two_pow_pos (40 - L)
    have : (fst l L + cl l L 256) * 1 ≤ (fst l L + cl l L 256) * 2 ^ (40 - L) := Nat.mul_le_mul_left _ t
    omega
theorem cl_mono (l : Nat → Nat) (L : Nat) : ∀ {a b : Nat}, a ≤ b → cl l L a ≤ cl l L b := by
  intro a b h
  obtain ⟨k, rfl⟩ : ∃ k, b = a + k := ⟨b - a, by omega⟩
  clear h
  induction k with
  | zero => exact Nat.le_refl _
  | succ k ih => exact Nat.le_trans ih (by show _ ≤ cl l L (a + k) + _; omega)
theorem cl_le (l : Nat → Nat) (L q : Nat) : cl l L q ≤ q := by
  induction q with
  | zero => exact Nat.le_refl _
  | succ q ih => unfold cl; split <;> omega
theorem pow39 (L : Nat) (h : 0 < L) : 2 ^ (40 - L) ≤ 549755813888 := by
  have e : (2 : Nat) ^ 39 = 549755813888 := by decide
  rw [← e]
  exact Nat.pow_le_pow_right (by decide) (by omega)
theorem need_le (l : Nat → Nat) (k : Nat) : need l (fun _ => true) k ≤ k * 549755813888 := by
  induction k with
  | zero => exact Nat.zero_le _
  | succ k ih =>
    rw [Nat.add_mul, Nat.one_mul]
    unfold need
    refine Nat.add_le_add ih ?_
    split
    · rename_i h
      exact pow39 (l k) h.1
    · exact Nat.zero_le _
/-- Do lengths fit? -/
def fitb (l : Nat → Nat) : Bool := decide (need l (fun _ => true) 256 = 1099511627776) || (decide ((used l 256).length = 1) && decide (need l (fun _ => true) 256 = 549755813888)) || decide ((used l 256).length = 0)
theorem need_none (l : Nat → Nat) (k : Nat) (h : (used l k).length = 0) : need l (fun _ => true) k = 0 := by
  have h2 := List.eq_nil_of_length_eq_zero h
  have : ∀ c, c < k → l c = 0 := fun c hc => by
    refine Nat.eq_zero_of_not_pos fun hp => ?_
    have := mem_used.2 ⟨hc, hp⟩
    rw [h2] at this
    cases this
  clear h h2
  induction k with
  | zero => rfl
  | succ k ih =>
    unfold need
    rw [ih (fun c hc => this c (by omega)), if_neg (by rw [this k (by omega)]; omega)]
theorem fit_need {l : Nat → Nat} (h : fitb l = true) : need l (fun _ => true) 256 ≤ 2 ^ 40 := by
  unfold fitb at h
  simp only [Bool.or_eq_true, Bool.and_eq_true, decide_eq_true_eq] at h
  rcases h with (h | h) | h
  · omega
  · omega
  · rw [need_none l 256 h]; omega
theorem used_more (l : Nat → Nat) (q : Nat) : (used l (q + 1)).length = (used l q).length + (if 0 < l q then 1 else 0) := by
  rw [Hv.used_succ, List.length_append]
  split <;> rfl
/-- The lengths of counts fit. -/
theorem hlen_fit (cnt : Nat → Nat) (hB : ∀ c, cnt c ≤ 1048576) : fitb (hlen cnt 256) = true ∧ (∀ c, hlen cnt 256 c ≤ 40) ∧ (∀ c, c < 256 → (0 < hlen cnt 256 c ↔ 0 < cnt c)) := by
  by_cases h2 : 2 ≤ (used cnt 256).length
  · have F := fine cnt 256 (by omega) hB h2
    refine ⟨?_, fun c => ?_, fun c hc => ?_⟩
    · unfold fitb
      rw [Hv.need_fine F]
      simp
    · by_cases g : c ∈ used cnt 256
      · exact (F.some c g).2
      · rw [F.none c g]; omega
    · constructor
      · intro h
        refine Nat.pos_of_ne_zero fun e => ?_
        have := F.none c (fun g => by have := (mem_used.1 g).2; omega)
        omega
      · intro h
        exact (F.some c (mem_used.2 ⟨hc, h⟩)).1
  · have iff : ∀ c, c < 256 → (0 < hlen cnt 256 c ↔ 0 < cnt c) := fun c hc => by
      constructor
      · intro h
        refine Nat.pos_of_ne_zero fun e => ?_
        have := Ji.hlen_none cnt c (fun g => by have := (mem_used.1 g).2; omega)
        omega
      · intro h
        have hm := mem_used.2 ⟨hc, h⟩
        have := List.length_pos_of_mem hm
        unfold hlen
        rw [if_pos (by omega), if_pos hm]
        omega
    have le1 : ∀ c, hlen cnt 256 c ≤ 1 := fun c => by
      by_cases g : c ∈ used cnt 256
      · have := List.length_pos_of_mem g
        unfold hlen
        rw [if_pos (by omega), if_pos g]
        omega
      · rw [Ji.hlen_none cnt c g]; omega
    have ul : used (hlen cnt 256) 256 = used cnt 256 := by
      unfold used
      refine List.filter_congr fun c hc => ?_
      have := iff c (List.mem_range.1 hc)
      rw [decide_eq_decide]
      exact this
    refine ⟨?_, fun c => by have := le1 c; omega, iff⟩
    unfold fitb
    rw [ul]
    by_cases h0 : (used cnt 256).length = 0
    · simp [h0]
    · have h1 : (used cnt 256).length = 1 := by omega
      have nn : need (hlen cnt 256) (fun _ => true) 256 = 549755813888 := by
        rw [Hv.need_used cnt (hlen cnt 256) 256 iff]
        obtain ⟨c, hc⟩ : ∃ c, used cnt 256 = [c] := List.length_eq_one_iff.1 h1
        rw [hc]
        have hm : c ∈ used cnt 256 := by rw [hc]; simp
        have e1 : hlen cnt 256 c = 1 := by
          unfold hlen
          rw [if_pos h1, if_pos hm]
        simp [e1]
      simp [nn, h1]
end Go.Proofs.Ytcjhiolginpgoaa.Ka

namespace Go.Proofs.Ytcjhiolginpgoaa
open Go.RowKit
set_option linter.unusedVariables false
set_option linter.unusedSimpArgs false
set_option maxRecDepth 100000

set_option maxHeartbeats 8000000 in
theorem jswr_c (g L cap a b n : Nat) (f : Nat → T4) (w : World) (hT : TH w g f) (h1 : a + n ≤ b) (h2 : b + n ≤ L) (h3 : L ≤ 511) :
    Calls Try.prog 58 #[.slice (some ⟨g, 0, none⟩) L cap, .int .i64 a, .int .i64 b, .int .i64 n, .func (.func 40) #[] #[]] w fun e w' => e = .returned (.tuple #[]) ∧ SO g w (fun f' => f' = Sx.swr f a b n) w' := by
  have HT : Hid (TH w g (Sx.swr f a b 0)) := by show TH w g (Sx.swr f a b 0); rw [Sx.swr_start]; exact hT
  clear hT
  go_enter Try.func58, Try.ntmps58
  go_wp2
  go_loopw [10] (fun i wr => ∃ t : Nat, t ≤ n ∧ i = .int .i64 t ∧ Hid (TH wr g (Sx.swr f a b t)) ∧ Hid (Bar g w wr)) (fun i _ => n - (intOf i).toNat)
  case atStart => exact ⟨0, Nat.zero_le _, rfl, HT, Bar.refl _ _⟩
  case round =>
    obtain ⟨t, ht, rfl, HH, HB⟩ := hrel
    by_cases hlt : t < n
    · have hlt2 : (t : Int) < (n : Int) := by omega
      have k1 : (a : Int) + (t : Int) < (L : Int) := by omega
      have k2 : (b : Int) + (t : Int) < (L : Int) := by omega
      have k3 : a + t < L := by omega
      have k4 : b + t < L := by omega
      obtain ⟨F, hF⟩ : ∃ F, Hid (F = Sx.swr f a b t) := ⟨_, rfl⟩
      have HE := hide (Sx.swr_step f a b t (by omega))
      replace HH : Hid (TH wr g F) := by show TH wr g F; rw [hF.out]; exact HH.out
      replace HE : Hid (Sx.swp F (a + t) (b + t) = Sx.swr f a b (t + 1)) := by show _ = _; rw [hF.out]; exact HE.out
      have p1 : 0 ≤ (a : Int) + (t : Int) := by omega
      have p2 : 0 ≤ (b : Int) + (t : Int) := by omega
      have e1 : ((a : Int) + (t : Int)).toNat = a + t := by omega
      have e2 : ((b : Int) + (t : Int)).toNat = b + t := by omega
      have sl1 : IntKind.i64.wrap ((a : Int) + (t : Int)) = (a : Int) + (t : Int) := by rw [IntKind.wrap_i64]; omega
      have sl2 : IntKind.i64.wrap ((b : Int) + (t : Int)) = (b : Int) + (t : Int) := by rw [IntKind.wrap_i64]; omega
      go_wp2
      refine region_g [21, 23] (fun w' => TH w' g F) (by kernel_rfl) ?_
      have hS : TH wr.drew g F := HH.out.drew
      have HB2 : Hid (Bar g w wr.drew) := HB.out.drew
      generalize wr.drew = Y at *
      refine AnyG.take 0 (v := ?vv1) rfl (by kernel_rfl) (by kernel_rfl) (by kernel_rfl) (by kernel_rfl) (fun _ _ _ h => h) hS ?hy1 (by rfl) ?rest1
      case hy1 =>
        intro w0 h0
        go_simp
        try with_reducible rfl
      simp only [Act.put, List.getElem_toArray, List.getElem_cons_zero, List.getElem_cons_succ, List.setIfInBounds_toArray, List.set_cons_zero, List.set_cons_succ]
      refine AnyG.take 1 (v := ?vv2) rfl (by kernel_rfl) (by kernel_rfl) (by kernel_rfl) (by kernel_rfl) (fun _ _ _ h => h) hS ?hy2 (by rfl) ?rest2
      case hy2 =>
        intro w0 h0
        go_simp
        try with_reducible rfl
      simp only [Act.put, List.getElem_toArray, List.getElem_cons_zero, List.getElem_cons_succ, List.setIfInBounds_toArray, List.set_cons_zero, List.set_cons_succ]
      refine AnyG.take 2 (v := ?vv3) rfl (by kernel_rfl) (by kernel_rfl) (by kernel_rfl) (by kernel_rfl) (fun _ _ _ h => h) hS ?hy3 (by rfl) ?rest3
      case hy3 =>
        intro w0 h0
        go_simp
        try with_reducible rfl
      simp only [Act.put, List.getElem_toArray, List.getElem_cons_zero, List.getElem_cons_succ, List.setIfInBounds_toArray, List.set_cons_zero, List.set_cons_succ]
      refine AnyG.take 3 (v := ?vv4) rfl (by kernel_rfl) (by kernel_rfl) (by kernel_rfl) (by kernel_rfl) (fun _ _ _ h => h) hS ?hy4 (by rfl) ?rest4
      case hy4 =>
        intro w0 h0
        go_simp
        try with_reducible rfl
      simp only [Act.put, List.getElem_toArray, List.getElem_cons_zero, List.getElem_cons_succ, List.setIfInBounds_toArray, List.set_cons_zero, List.set_cons_succ]
      refine AnyG.take 8 (v := ?vv5) rfl (by kernel_rfl) (by kernel_rfl) (by kernel_rfl) (by kernel_rfl) (fun _ _ _ h => h) hS ?hy5 (by rfl) ?rest5
      case hy5 =>
        intro w0 h0
        go_simp
        try with_reducible rfl
      simp only [Act.put, List.getElem_toArray, List.getElem_cons_zero, List.getElem_cons_succ, List.setIfInBounds_toArray, List.set_cons_zero, List.set_cons_succ]
      refine AnyG.take 9 (v := ?vv6) rfl (by kernel_rfl) (by kernel_rfl) (by kernel_rfl) (by kernel_rfl) (fun _ _ _ h => h) hS ?hy6 (by rfl) ?rest6
      case hy6 =>
        intro w0 h0
        go_simp
        try with_reducible rfl
      simp only [Act.put, List.getElem_toArray, List.getElem_cons_zero, List.getElem_cons_succ, List.setIfInBounds_toArray, List.set_cons_zero, List.set_cons_succ]
      refine AnyG.take 10 (v := ?vv7) rfl (by kernel_rfl) (by kernel_rfl) (by kernel_rfl) (by kernel_rfl) (fun _ _ _ h => h) hS ?hy7 (by rfl) ?rest7
      case hy7 =>
        intro w0 h0
        go_simp
        try with_reducible rfl
      simp only [Act.put, List.getElem_toArray, List.getElem_cons_zero, List.getElem_cons_succ, List.setIfInBounds_toArray, List.set_cons_zero, List.set_cons_succ]
      refine AnyG.take 11 (v := ?vv8) rfl (by kernel_rfl) (by kernel_rfl) (by kernel_rfl) (by kernel_rfl) (fun _ _ _ h => h) hS ?hy8 (by rfl) ?rest8
      case hy8 =>
        intro w0 h0
        go_simp
        try with_reducible rfl
      simp only [Act.put, List.getElem_toArray, List.getElem_cons_zero, List.getElem_cons_succ, List.setIfInBounds_toArray, List.set_cons_zero, List.set_cons_succ]
      refine AnyG.take 12 (v := ?vv9) rfl (by kernel_rfl) (by kernel_rfl) (by kernel_rfl) (by kernel_rfl) (fun _ _ _ h => h) hS ?hy9 (by rfl) ?rest9
      case hy9 =>
        intro w0 h0
        go_simp
        try with_reducible rfl
      simp only [Act.put, List.getElem_toArray, List.getElem_cons_zero, List.getElem_cons_succ, List.setIfInBounds_toArray, List.set_cons_zero, List.set_cons_succ]
      refine AnyG.take 13 (v := .agg (tc (F (b + t))).toArray) rfl (by kernel_rfl) (by kernel_rfl) (by kernel_rfl) (by kernel_rfl) (fun _ _ _ h => h) hS (fun w0 h0 => run_load_th g F (b + t) _ (by omega) (by omega) rfl h0) (by rfl) ?rest10
      simp only [Act.put, List.getElem_toArray, List.getElem_cons_zero, List.getElem_cons_succ, List.setIfInBounds_toArray, List.set_cons_zero, List.set_cons_succ]
      refine AnyG.takeW 14 (v := ?vv11) rfl (by kernel_rfl) (by kernel_rfl) (by kernel_rfl) (fun _ _ _ h => h) ?hy11 (by rfl) ?rest11
      case hy11 =>
        intro w0
        go_simp
        try with_reducible rfl
      simp only [Act.put, List.getElem_toArray, List.getElem_cons_zero, List.getElem_cons_succ, List.setIfInBounds_toArray, List.set_cons_zero, List.set_cons_succ]
      refine AnyG.takeW 15 (v := ?vv12) rfl (by kernel_rfl) (by kernel_rfl) (by kernel_rfl) (fun _ _ _ h => h) ?hy12 (by rfl) ?rest12
      case hy12 =>
        intro w0
        go_simp
        try with_reducible rfl
      simp only [Act.put, List.getElem_toArray, List.getElem_cons_zero, List.getElem_cons_succ, List.setIfInBounds_toArray, List.set_cons_zero, List.set_cons_succ]
      refine AnyG.takeW 16 (v := ?vv13) rfl (by kernel_rfl) (by kernel_rfl) (by kernel_rfl) (fun _ _ _ h => h) ?hy13 (by rfl) ?rest13
      case hy13 =>
        intro w0
        go_simp
        try with_reducible rfl
      simp only [Act.put, List.getElem_toArray, List.getElem_cons_zero, List.getElem_cons_succ, List.setIfInBounds_toArray, List.set_cons_zero, List.set_cons_succ]
      refine AnyG.takeW 17 (v := ?vv14) rfl (by kernel_rfl) (by kernel_rfl) (by kernel_rfl) (fun _ _ _ h => h) ?hy14 (by rfl) ?rest14
      case hy14 =>
        intro w0
        go_simp
        try with_reducible rfl
      simp only [Act.put, List.getElem_toArray, List.getElem_cons_zero, List.getElem_cons_succ, List.setIfInBounds_toArray, List.set_cons_zero, List.set_cons_succ]
      refine AnyG.takeW 18 (v := ?vv15) rfl (by kernel_rfl) (by kernel_rfl) (by kernel_rfl) (fun _ _ _ h => h) ?hy15 (by rfl) ?rest15
      case hy15 =>
        intro w0
        go_simp
        try with_reducible rfl
      simp only [Act.put, List.getElem_toArray, List.getElem_cons_zero, List.getElem_cons_succ, List.setIfInBounds_toArray, List.set_cons_zero, List.set_cons_succ]
      refine AnyG.take 19 (v := .agg (tc (F (a + t))).toArray) rfl (by kernel_rfl) (by kernel_rfl) (by kernel_rfl) (by kernel_rfl) (fun _ _ _ h => h) hS (fun w0 h0 => run_load_th g F (a + t) _ (by omega) (by omega) rfl h0) (by rfl) ?rest16
      simp only [Act.put, List.getElem_toArray, List.getElem_cons_zero, List.getElem_cons_succ, List.setIfInBounds_toArray, List.set_cons_zero, List.set_cons_succ]
      refine AnyG.takeW 4 (v := ?vv17) rfl (by kernel_rfl) (by kernel_rfl) (by kernel_rfl) (fun _ _ _ h => h) ?hy17 (by rfl) ?rest17
      case hy17 =>
        intro w0
        go_simp
        try with_reducible rfl
      simp only [Act.put, List.getElem_toArray, List.getElem_cons_zero, List.getElem_cons_succ, List.setIfInBounds_toArray, List.set_cons_zero, List.set_cons_succ]
      refine AnyG.takeW 5 (v := ?vv18) rfl (by kernel_rfl) (by kernel_rfl) (by kernel_rfl) (fun _ _ _ h => h) ?hy18 (by rfl) ?rest18
      case hy18 =>
        intro w0
        go_simp
        try with_reducible rfl
      simp only [Act.put, List.getElem_toArray, List.getElem_cons_zero, List.getElem_cons_succ, List.setIfInBounds_toArray, List.set_cons_zero, List.set_cons_succ]
      refine AnyG.takeW 6 (v := ?vv19) rfl (by kernel_rfl) (by kernel_rfl) (by kernel_rfl) (fun _ _ _ h => h) ?hy19 (by rfl) ?rest19
      case hy19 =>
        intro w0
        go_simp
        try with_reducible rfl
      simp only [Act.put, List.getElem_toArray, List.getElem_cons_zero, List.getElem_cons_succ, List.setIfInBounds_toArray, List.set_cons_zero, List.set_cons_succ]
      refine AnyG.takeW 7 (v := ?vv20) rfl (by kernel_rfl) (by kernel_rfl) (by kernel_rfl) (fun _ _ _ h => h) ?hy20 (by rfl) ?rest20
      case hy20 =>
        intro w0
        go_simp
        try with_reducible rfl
      simp only [Act.put, List.getElem_toArray, List.getElem_cons_zero, List.getElem_cons_succ, List.setIfInBounds_toArray, List.set_cons_zero, List.set_cons_succ]
      refine AnyG.takeW 20 (v := ?vv21) rfl (by kernel_rfl) (by kernel_rfl) (by kernel_rfl) (fun _ _ _ h => h) ?hy21 (by rfl) ?rest21
      case hy21 =>
        intro w0
        go_simp
        try with_reducible rfl
      simp only [Act.put, List.getElem_toArray, List.getElem_cons_zero, List.getElem_cons_succ, List.setIfInBounds_toArray, List.set_cons_zero, List.set_cons_succ]
      refine AnyG.one 21 (by kernel_rfl) rfl ?_
      intro K hK
      refine wp_store_th _ _ rfl g F (a + t) _ (F (b + t)) (by omega) (by omega) rfl rfl hS ?_
      intro w1 hT1 hB1
      refine hK.out _ _ (fun h => absurd (by decide) h) ?_
      clear hK K
      try simp only [Act.put, List.getElem_toArray, List.getElem_cons_zero, List.getElem_cons_succ, List.setIfInBounds_toArray, List.set_cons_zero, List.set_cons_succ]
      have HB3 : Hid (Bar g w w1) := HB2.out.trans hB1
      clear hB1 HB2 hS HH HB
      refine AnyG.takeW 22 (v := ?vv22) rfl (by kernel_rfl) (by kernel_rfl) (by kernel_rfl) (fun _ _ _ h => h) ?hy22 (by rfl) ?rest22
      case hy22 =>
        intro w0
        go_simp
        try with_reducible rfl
      simp only [Act.put, List.getElem_toArray, List.getElem_cons_zero, List.getElem_cons_succ, List.setIfInBounds_toArray, List.set_cons_zero, List.set_cons_succ]
      refine AnyG.one 23 (by kernel_rfl) rfl ?_
      intro K hK
      refine wp_store_th _ _ rfl g _ (b + t) _ (F (a + t)) (by omega) (by omega) rfl rfl hT1 ?_
      intro w2 hT2 hB2
      refine hK.out _ _ (fun h => absurd (by decide) h) ?_
      clear hK K
      try simp only [Act.put, List.getElem_toArray, List.getElem_cons_zero, List.getElem_cons_succ, List.setIfInBounds_toArray, List.set_cons_zero, List.set_cons_succ]
      refine AnyG.done (by kernel_rfl) ?_ _
      have HB4 : Hid (Bar g w w2) := HB3.out.trans hB2
      rw [upd_swp F (a + t) (b + t) (by omega), HE.out] at hT2
      have HT2 := hide hT2
      clear hB2 HB3 hT2 hT1 HE hF
      go_wp2
      exact ⟨⟨t + 1, by omega, by go_num, HT2, HB4⟩, by simp only [intOf]; omega⟩
    · obtain rfl : t = n := by omega
      go_wp2
      refine bodyPost_end (results_none rfl _ _ _) rfl ?_
      exact ⟨rfl, SO.mk _ HH.out rfl HB.out⟩

theorem jswr_l (g L cap : Nat) (f : Nat → T4) (w : World) (hT : TH w g f) (x y z : Int) (a b n : Nat) (hx : x = (a : Nat)) (hy : y = (b : Nat)) (hz : z = (n : Nat)) (h1 : a + n ≤ b) (h2 : b + n ≤ L) (h3 : L ≤ 511) :
    Calls Try.prog 58 #[.slice (some ⟨g, 0, none⟩) L cap, .int .i64 x, .int .i64 y, .int .i64 z, .func (.func 40) #[] #[]] w fun e w' => e = .returned (.tuple #[]) ∧ SO g w (fun f' => f' = Sx.swr f a b n) w' := by
  subst hx hy hz
  exact jswr_c g L cap a b n f w hT h1 h2 h3

set_option maxHeartbeats 8000000 in
theorem jrot_c (g L cap a m b : Nat) (f : Nat → T4) (w : World) (hT : TH w g f) (h1 : a < m) (h2 : m < b) (h3 : b ≤ L) (h4 : L ≤ 511) :
    Calls Try.prog 57 #[.slice (some ⟨g, 0, none⟩) L cap, .int .i64 a, .int .i64 m, .int .i64 b, .func (.func 40) #[] #[]] w fun e w' => e = .returned (.tuple #[]) ∧ SO g w (fun f' => f' = Sx.rot f a m b) w' := by
  have HT := hide hT
  have H0 : Hid (Sx.rot f (m - (m - a)) m (m + (b - m)) = Sx.rot f a m b) := by
    show _ = _
    rw [show m - (m - a) = a by omega, show m + (b - m) = b by omega]
  have C : Hid (∀ (F : Nat → T4) (w0 : World), TH w0 g F → ∀ (x y z : Int) (p q n : Nat), x = (p : Nat) → y = (q : Nat) → z = (n : Nat) → p + n ≤ q → q + n ≤ L → Calls Try.prog 58 #[.slice (some ⟨g, 0, none⟩) L cap, .int .i64 x, .int .i64 y, .int .i64 z, .func (.func 40) #[] #[]] w0 fun e w' => e = .returned (.tuple #[]) ∧ SO g w0 (fun f' => f' = Sx.swr F p q n) w') := fun F w0 hF x y z p q n e1 e2 e3 g1 g2 => jswr_l g L cap F w0 hF x y z p q n e1 e2 e3 g1 g2 h4
  clear hT
  have i0 : (m : Int) - (a : Int) = ((m - a : Nat) : Int) := by omega
  have j0 : (b : Int) - (m : Int) = ((b - m : Nat) : Int) := by omega
  go_enter Try.func57, Try.ntmps57
  go_wp2
  go_loopw [10, 11] (fun vi vj wr => ∃ (i j : Nat) (F : Nat → T4), 0 < i ∧ i ≤ m ∧ 0 < j ∧ m + j ≤ L ∧ vi = .int .i64 i ∧ vj = .int .i64 j ∧ Hid (TH wr g F) ∧ Hid (Bar g w wr) ∧ Hid (Sx.rot F (m - i) m (m + j) = Sx.rot f a m b)) (fun vi vj _ => (intOf vi).toNat + (intOf vj).toNat)
  case atStart => exact ⟨m - a, b - m, f, by omega, by omega, by omega, by omega, by go_num, by go_num, HT, Bar.refl _ _, H0⟩
  case round =>
    obtain ⟨i, j, F, hi0, him, hj0, hjL, rfl, rfl, HH, HB, HR⟩ := hrel
    clear i0 j0 HT H0
    by_cases hij : i = j
    · have hne : ((i : Int) != (j : Int)) = false := by simp [hij]
      have HRn : Hid (Sx.swr F (m - i) m i = Sx.rot f a m b) := by
        show _ = _
        rw [Sx.rot_same F m i him, ← HR.out, hij]
      have HIJ := hide hij
      clear hij
      go_wp2_with fail
      refine (C.out F _ HH.out _ _ _ (m - i) m i (by omega) (by omega) (by omega) (by omega) (by have := HIJ.out; omega)).mono ?_
      rintro e w1 ⟨rfl, f', hT', rfl, hB⟩
      have HB1 := hide (HB.out.trans hB)
      rw [HRn.out] at hT'
      have HT1 := hide hT'
      clear hB hT' HB HH
      go_wp2
      refine bodyPost_end (results_none rfl _ _ _) rfl ?_
      exact ⟨rfl, SO.mk _ HT1.out rfl HB1.out⟩
    · have hne : ((i : Int) != (j : Int)) = true := by simp; omega
      by_cases hgt : j < i
      · have hgt2 : (j : Int) < (i : Int) := by omega
        have HRn := hide (Sx.rot_left F m i j him hj0 hgt)
        go_wp2_with fail
        refine (C.out F _ HH.out _ _ _ (m - i) m j (by omega) (by omega) (by omega) (by omega) (by omega)).mono ?_
        rintro e w1 ⟨rfl, f', hT', rfl, hB⟩
        have HB1 := hide (HB.out.trans hB)
        have HT1 := hide hT'
        have HR1 : Hid (Sx.rot (Sx.swr F (m - i) m j) (m - (i - j)) m (m + j) = Sx.rot f a m b) := HRn.out.trans HR.out
        clear hB hT' HB HH HRn HR
        go_wp2
        exact ⟨⟨i - j, j, _, by omega, by omega, by omega, by omega, by go_num, rfl, HT1, HB1, HR1⟩, by simp only [intOf]; omega⟩
      · have hgt2 : ¬ (j : Int) < (i : Int) := by omega
        have HRn := hide (Sx.rot_right F m i j him hi0 (by omega))
        go_wp2_with fail
        refine (C.out F _ HH.out _ _ _ (m - i) (m + j - i) i (by omega) (by omega) (by omega) (by omega) (by omega)).mono ?_
        rintro e w1 ⟨rfl, f', hT', rfl, hB⟩
        have HB1 := hide (HB.out.trans hB)
        have HT1 := hide hT'
        have HR1 : Hid (Sx.rot (Sx.swr F (m - i) (m + j - i) i) (m - i) m (m + (j - i)) = Sx.rot f a m b) := HRn.out.trans HR.out
        clear hB hT' HB HH HRn HR
        go_wp2
        exact ⟨⟨i, j - i, _, by omega, by omega, by omega, by omega, rfl, by go_num, HT1, HB1, HR1⟩, by simp only [intOf]; omega⟩
end Go.Proofs.Ytcjhiolginpgoaa
