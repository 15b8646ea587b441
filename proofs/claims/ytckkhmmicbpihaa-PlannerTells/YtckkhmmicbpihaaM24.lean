/-
  The contract of the stable sort. Plain: the way to lengths does not hang on the order in which things lie: the two least are told by weights, then numbers. Plain: a symbol that stands more often has no longer code.
-/
import Derived.Test.YtckkhmmicbpihaaM23
import Derived.Test.YtckkhmmicbpihaaM05
namespace Go.Proofs.Ytckkhmmicbpihaa
open Go.RowKit
set_option linter.unusedVariables false
set_option linter.unusedSimpArgs false
set_option maxRecDepth 100000

set_option maxHeartbeats 8000000 in
theorem jstab_c (g L cap : Nat) (f : Nat → T4) (w : World) (hT : TH w g f) (h4 : L ≤ 511) (cr : ∀ p q, p < q → q < L → Sx.Cr cT ltT (f p) (f q)) :
    Calls Try.prog 86 #[.slice (some ⟨g, 0, none⟩) L cap, .int .i64 L, .func (.func 80) #[] #[]] w fun e w' => e = .returned (.tuple #[]) ∧ SO g w (fun f' => Sx.Im 0 L f f' ∧ Sx.Up ltT 0 L f') w' := by
  have HT := hide hT
  have CR := hide cr
  have CI : Hid (∀ (F : Nat → T4) (w0 : World) (x y : Int) (p q : Nat), x = (p : Nat) → y = (q : Nat) → TH w0 g F → p ≤ q → q ≤ L → (∀ i j, p ≤ i → i < j → j < q → Sx.Cr cT ltT (F i) (F j)) → Calls Try.prog 89 #[.slice (some ⟨g, 0, none⟩) L cap, .int .i64 x, .int .i64 y, .func (.func 80) #[] #[]] w0 fun e w' => e = .returned (.tuple #[]) ∧ SO g w0 (fun f' => Sx.Im p q F f' ∧ Sx.Up ltT p q f') w') := fun F w0 x y p q e1 e2 hF g1 g2 c => by
    subst e1 e2
    exact jins_c g L cap p q F w0 hF g1 g2 h4 c
  have CS : Hid (∀ (F : Nat → T4) (w0 : World) (x y z : Int) (p q t : Nat), x = (p : Nat) → y = (q : Nat) → z = (t : Nat) → TH w0 g F → p < q → q < t → t ≤ L → Sx.Mg cT ltT p q t F → Calls Try.prog 90 #[.slice (some ⟨g, 0, none⟩) L cap, .int .i64 x, .int .i64 y, .int .i64 z, .func (.func 80) #[] #[]] w0 fun e w' => e = .returned (.tuple #[]) ∧ SO g w0 (fun f' => Sx.Im p t F f' ∧ Sx.Up ltT p t f') w') := fun F w0 x y z p q t e1 e2 e3 hF g1 g2 g3 M => jsym_k g L cap h4 (t - p) F w0 x y z p q t e1 e2 e3 (Nat.le_refl _) hF g1 g2 g3 M
  clear hT cr
  go_enter Try.func86, Try.ntmps86
  go_wp2
  go_loopw [7, 8] (fun va vb wr => ∃ (a b : Nat) (F : Nat → T4), a ≤ L ∧ Hid (b = a + 20) ∧ b ≤ 531 ∧ va = .int .i64 a ∧ vb = .int .i64 b ∧ Hid (TH wr g F) ∧ Hid (Bar g w wr) ∧ Hid (Sx.Bf ltT 20 L a f F)) (fun va _ _ => L - (intOf va).toNat)
  case atStart => exact ⟨0, 20, f, by omega, rfl, by omega, rfl, rfl, HT, Bar.refl _ _, Sx.Bf.start _ _ _ _⟩
  case round =>
    obtain ⟨a, b, F, haL, Hb, hb5, rfl, rfl, HH, HB, HI⟩ := hrel
    clear HT
    by_cases hlt : b ≤ L
    · have hltz : (b : Int) ≤ (L : Int) := by omega
      have Hcr : Hid (∀ i j, a ≤ i → i < j → j < b → Sx.Cr cT ltT (F i) (F j)) := fun i j g1 g2 g3 => by
        rw [HI.out.out i g1, HI.out.out j (by omega)]
        exact CR.out i j g2 (by omega)
      go_wp2_with fail
      refine (CI.out F _ _ _ a b rfl rfl HH.out (by have := Hb.out; omega) hlt Hcr.out).mono ?_
      rintro e w1 ⟨rfl, f', hT', hP, hB⟩
      have HT1 := hide hT'
      have HB1 := hide (HB.out.trans hB)
      have HI1 : Hid (Sx.Bf ltT 20 L b f f') := by
        have e := Hb.out
        rw [e] at hP hlt ⊢
        exact HI.out.step (by omega) hlt hP.1 hP.2
      have hab : a < b := by have := Hb.out; omega
      clear hT' hB hP HI Hcr
      go_wp2
      exact ⟨⟨b, b + 20, f', by omega, rfl, by omega, rfl, by go_num, HT1, HB1, HI1⟩, by simp only [intOf]; omega⟩
    · have hltz : ¬ (b : Int) ≤ (L : Int) := by omega
      have Hcr : Hid (∀ i j, a ≤ i → i < j → j < L → Sx.Cr cT ltT (F i) (F j)) := fun i j g1 g2 g3 => by
        rw [HI.out.out i g1, HI.out.out j (by omega)]
        exact CR.out i j g2 (by omega)
      go_wp2_with fail
      refine (CI.out F _ _ _ a L rfl rfl HH.out haL (Nat.le_refl _) Hcr.out).mono ?_
      rintro e w1 ⟨rfl, f', hT', hP, hB⟩
      have HT1 := hide hT'
      have HB1 := hide (HB.out.trans hB)
      have HI1 : Hid (Sx.Bk ltT 20 L f f') := HI.out.last (by omega) (by have := Hb.out; omega) haL hP.1 hP.2
      clear hT' hB hP HI Hcr Hb HH HB
      go_wp2
      go_loopw [6] (fun vs wr => ∃ (s : Nat) (F : Nat → T4), 0 < s ∧ s ≤ 1100 ∧ vs = .int .i64 s ∧ Hid (TH wr g F) ∧ Hid (Bar g w wr) ∧ Hid (Sx.Bk ltT s L f F)) (fun vs _ => 2048 - (intOf vs).toNat)
      case atStart => exact ⟨20, f', by omega, by omega, rfl, HT1, HB1, HI1⟩
      case round =>
        clear HT1 HB1 HI1
        obtain ⟨s, F, hs0, hs1, rfl, HH, HB, HI⟩ := hrel
        by_cases hsL : s < L
        · have hsz : (s : Int) < (L : Int) := by omega
          have HI0 := hide HI.out.round
          clear HI
          go_wp2
          go_loopw [7, 8] (fun va vb wr => ∃ (a b : Nat) (F : Nat → T4), a ≤ L ∧ Hid (b = a + 2 * s) ∧ b ≤ 2000 ∧ va = .int .i64 a ∧ vb = .int .i64 b ∧ Hid (TH wr g F) ∧ Hid (Bar g w wr) ∧ Hid (Sx.Br ltT s L a f F)) (fun va _ _ => L - (intOf va).toNat)
          case atStart => exact ⟨0, 2 * s, F, by omega, by show _ = _; omega, by omega, rfl, by go_num, HH, HB, HI0⟩
          case round =>
            clear HI0 HH HB
            obtain ⟨a, b, F, haL, Hb, hb5, rfl, rfl, HH, HB, HI⟩ := hrel
            have hb6 := Hb.out
            by_cases hlt : b ≤ L
            · have hltz : (b : Int) ≤ (L : Int) := by omega
              have HM := hide (HI.out.mg (b := b) hs0 (by omega) (by omega) CR.out)
              have k1 : a < a + s := by omega
              have k2 : a + s < b := by omega
              have k3 : a < b := by omega
              clear hb6
              go_wp2_with fail
              refine (CS.out F _ _ _ _ a (a + s) b (by omega) (by omega) (by omega) HH.out k1 k2 hlt HM.out).mono ?_
              rintro e w1 ⟨rfl, f', hT', hP, hB⟩
              have HT1 := hide hT'
              have HB1 := hide (HB.out.trans hB)
              have HI1 : Hid (Sx.Br ltT s L b f f') := by
                have e := Hb.out
                rw [e] at hP hlt ⊢
                exact HI.out.step hs0 hlt hP.1 hP.2
              clear hT' hB hP HI HM
              go_wp2
              exact ⟨⟨b, b + 2 * s, f', by omega, rfl, by omega, rfl, by go_num, HT1, HB1, HI1⟩, by simp only [intOf]; omega⟩
            · have hltz : ¬ (b : Int) ≤ (L : Int) := by omega
              by_cases hm : a + s < L
              · have hmz : (a : Int) + (s : Int) < (L : Int) := by omega
                have HM := hide (HI.out.mg (b := L) hs0 hm (by omega) CR.out)
                have k1 : a < a + s := by omega
                clear hb6
                go_wp2_with fail
                refine (CS.out F _ _ _ _ a (a + s) L (by omega) (by omega) (by omega) HH.out k1 hm (Nat.le_refl _) HM.out).mono ?_
                rintro e w1 ⟨rfl, f', hT', hP, hB⟩
                have HT1 := hide hT'
                have HB1 := hide (HB.out.trans hB)
                have HI1 : Hid (Sx.Bk ltT (2 * s) L f f') := HI.out.last hs0 (by have := Hb.out; omega) hm hP.1 hP.2
                clear hT' hB hP HI HM
                go_wp2
                exact ⟨⟨2 * s, f', by omega, by omega, by go_num, HT1, HB1, HI1⟩, by simp only [intOf]; omega⟩
              · have hmz : ¬ (a : Int) + (s : Int) < (L : Int) := by omega
                have HI1 : Hid (Sx.Bk ltT (2 * s) L f F) := HI.out.none hs0 (by omega) (by omega)
                clear hb6
                go_wp2
                exact ⟨⟨2 * s, F, by omega, by omega, by go_num, HH, HB, HI1⟩, by simp only [intOf]; omega⟩
        · have hsz : ¬ (s : Int) < (L : Int) := by omega
          have HE := hide (HI.out.done (by omega))
          go_wp2
          refine bodyPost_end (results_none rfl _ _ _) rfl ?_
          exact ⟨rfl, SO.mk _ HH.out HE.out HB.out⟩
theorem jsort_c (g L cap : Nat) (f : Nat → T4) (w : World) (hT : TH w g f) (h4 : L ≤ 511) (cr : ∀ p q, p < q → q < L → Sx.Cr cT ltT (f p) (f q)) :
    Calls Try.prog 79 #[.slice (some ⟨g, 0, none⟩) L cap, .func (.func 80) #[] #[]] w fun e w' => e = .returned (.tuple #[]) ∧ SO g w (fun f' => Sx.Im 0 L f f' ∧ Sx.Up ltT 0 L f') w' := by
  have C := hide (jstab_c g L cap f w hT h4 cr)
  clear hT cr
  go_enter Try.func79, Try.ntmps79
  go_wp2_with fail
  refine (C.out).mono ?_
  rintro e w1 ⟨rfl, hS⟩
  have HS := hide hS
  clear hS
  go_wp2
  refine bodyPost_end (results_none rfl _ _ _) rfl ?_
  exact ⟨rfl, HS.out⟩
end Go.Proofs.Ytckkhmmicbpihaa

namespace Go.Proofs.Ytckkhmmicbpihaa.Hu
open Hm Hn Ho

theorem less_iff {a b : Tg} : less a b = true ↔ a.wt < b.wt ∨ (a.wt = b.wt ∧ a.id < b.id) := by
  unfold less
  simp only [Bool.or_eq_true, Bool.and_eq_true, decide_eq_true_eq]
theorem leastQ_min (l : List Tg) (q : Nat) : ∀ j, j ≤ q → less (tg l j) (tg l (leastQ l q)) = false := by
  induction q with
  | zero =>
    intro j hj
    obtain rfl : j = 0 := by omega
    refine Bool.eq_false_iff.2 fun e => ?_
    have := less_iff.1 e
    unfold leastQ at this
    omega
  | succ q ih =>
    intro j hj
    unfold leastQ
    split
    · rename_i c
      have c := less_iff.1 c
      refine Bool.eq_false_iff.2 fun e => ?_
      have e := less_iff.1 e
      by_cases g : j = q + 1
      · subst g; omega
      · have h := ih j (by omega)
        have h : ¬ _ := fun x => by rw [less_iff.2 x] at h; cases h
        exact h (by omega)
    · rename_i c
      by_cases g : j = q + 1
      · subst g
        exact Bool.eq_false_iff.2 c
      · exact ih j (by omega)
theorem fst_mem {l : List Tg} (h : 0 < l.length) : fstT l ∈ l := (perm_erase l _ (least_lt h)).subset List.mem_cons_self
theorem fst_min {l : List Tg} : ∀ x ∈ l, less x (fstT l) = false := by
  intro x hx
  obtain ⟨j, hj, rfl⟩ := List.mem_iff_getElem.1 hx
  have := leastQ_min l (l.length - 1) j (by omega)
  have e : tg l j = l[j] := by unfold tg; rw [List.getD_eq_getElem?_getD, List.getElem?_eq_getElem hj]; rfl
  rw [e] at this
  exact this
/-- Numbers tell things apart. -/
def Ids (l : List Tg) : Prop := (l.map Tg.id).Nodup
theorem ids_eq : ∀ {l : List Tg}, Ids l → ∀ x ∈ l, ∀ y ∈ l, x.id = y.id → x = y
  | [], _, _, hx, _, _, _ => absurd hx List.not_mem_nil
  | z :: l, h, x, hx, y, hy, e => by
    have h := List.nodup_cons.1 (show (z.id :: l.map Tg.id).Nodup from h)
    rcases List.mem_cons.1 hx with g1 | g1
    · rcases List.mem_cons.1 hy with g2 | g2
      · rw [g1, g2]
      · exact absurd (show z.id ∈ l.map Tg.id by rw [← g1, e]; exact List.mem_map_of_mem g2) h.1
    · rcases List.mem_cons.1 hy with g2 | g2
      · exact absurd (show z.id ∈ l.map Tg.id by rw [← g2, ← e]; exact List.mem_map_of_mem g1) h.1
      · exact ids_eq (l := l) h.2 x g1 y g2 e
/-- What is least is told. -/
theorem fst_of {l : List Tg} (hi : Ids l) {x : Tg} (hx : x ∈ l) (h : ∀ y ∈ l, less y x = false) : x = fstT l := by
  have h0 : 0 < l.length := List.length_pos_of_mem hx
  have h1 := h _ (fst_mem h0)
  have h2 := fst_min x hx
  refine ids_eq hi x hx _ (fst_mem h0) ?_
  have n1 : ¬ _ := fun e => by rw [less_iff.2 e] at h1; cases h1
  have n2 : ¬ _ := fun e => by rw [less_iff.2 e] at h2; cases h2
  omega
theorem Ids.perm {l m : List Tg} (p : l.Perm m) (h : Ids l) : Ids m := (p.map Tg.id).nodup h
theorem fst_perm {l m : List Tg} (p : l.Perm m) (h : Ids l) (h0 : 0 < l.length) : fstT l = fstT m :=
  fst_of (h.perm p) (p.subset (fst_mem h0)) (fun y hy => fst_min y (p.symm.subset hy))
theorem lst1_perm {l m : List Tg} (p : l.Perm m) (h : Ids l) (h0 : 0 < l.length) : (lst1 l).Perm (lst1 m) := by
  have p1 : (fstT l :: lst1 l).Perm l := perm_erase l _ (least_lt h0)
  have p2 : (fstT m :: lst1 m).Perm m := perm_erase m _ (least_lt (by rw [← p.length_eq]; exact h0))
  have := (p1.trans p).trans p2.symm
  rw [fst_perm p h h0] at this
  exact this.cons_inv
theorem lst1_ids {l : List Tg} (h : Ids l) (h0 : 0 < l.length) : Ids (lst1 l) := by
  have p1 : (fstT l :: lst1 l).Perm l := perm_erase l _ (least_lt h0)
  exact (List.nodup_cons.1 (show (_ :: (lst1 l).map Tg.id).Nodup from h.perm p1.symm)).2
theorem next_ids {l : List Tg} {n : Nat} (h : Ids l) (hn : ∀ x ∈ l, x.id < n) (h2 : 2 ≤ l.length) : Ids (next n l) ∧ ∀ x ∈ next n l, x.id < n + 1 := by
  obtain ⟨p, _, _⟩ := parts h2
  have l1 := lst1_len (l := l) (by omega)
  have i2 := lst1_ids (lst1_ids h (by omega)) (by omega)
  have sub : ∀ x ∈ lst2 l, x.id < n := fun x hx => hn x (p.subset (List.mem_cons_of_mem _ (List.mem_cons_of_mem _ hx)))
  constructor
  · unfold Ids next
    rw [List.map_append, List.nodup_append]
    refine ⟨i2, by simp [joint], ?_⟩
    intro a ha b hb e
    obtain ⟨x, hx, rfl⟩ := List.mem_map.1 ha
    have : b = n := by simpa [joint] using hb
    have := sub x hx
    omega
  · intro x hx
    unfold next at hx
    rcases List.mem_append.1 hx with hx | hx
    · have := sub x hx; omega
    · obtain rfl := List.mem_singleton.1 hx
      show n < n + 1
      omega
theorem next_perm {l m : List Tg} (n : Nat) (p : l.Perm m) (h : Ids l) (h2 : 2 ≤ l.length) : fstT l = fstT m ∧ sndT l = sndT m ∧ (next n l).Perm (next n m) := by
  have l1 := lst1_len (l := l) (by omega)
  have f1 := fst_perm p h (by omega)
  have q1 := lst1_perm p h (by omega)
  have i1 := lst1_ids h (by omega)
  have f2 : sndT l = sndT m := fst_perm q1 i1 (by omega)
  have q2 : (lst2 l).Perm (lst2 m) := lst1_perm q1 i1 (by omega)
  refine ⟨f1, f2, ?_⟩
  unfold next joint
  rw [f1, f2]
  exact q2.append_right _
/-- The order does not matter. -/
theorem run_perm : ∀ (f n : Nat) (l m : List Tg) (d : Nat → Nat), l.Perm m → Ids l → (∀ x ∈ l, x.id < n) → run f n l d = run f n m d := by
  intro f
  induction f with
  | zero => intro n l m d _ _ _; rfl
  | succ f ih =>
    intro n l m d p h hn
    unfold run
    rw [p.length_eq]
    by_cases c : m.length ≤ 1
    · rw [if_pos c, if_pos c]
    · rw [if_neg c, if_neg c]
      have h2 : 2 ≤ l.length := by rw [p.length_eq]; omega
      obtain ⟨e1, e2, q⟩ := next_perm n p h h2
      obtain ⟨i1, i2⟩ := next_ids h hn h2
      rw [← e1, ← e2]
      exact ih (n + 1) (next n l) (next n m) _ q i1 i2
end Go.Proofs.Ytckkhmmicbpihaa.Hu

namespace Go.Proofs.Ytckkhmmicbpihaa.Hq
open Hm Hn Ho Hp

def swp (D : Nat → Nat) (a b c : Nat) : Nat := if c = a then D b else if c = b then D a else D c
theorem two_perm {l : List Nat} {a b : Nat} (nd : l.Nodup) (ha : a ∈ l) (hb : b ∈ l) (hne : a ≠ b) : ∃ r, l.Perm (a :: b :: r) ∧ a ∉ r ∧ b ∉ r := by
  have p1 := List.perm_cons_erase ha
  have nd1 := p1.nodup nd
  have hb1 : b ∈ l.erase a := by
    rcases List.mem_cons.1 (p1.subset hb) with e | e
    · exact absurd e.symm hne
    · exact e
  have p2 := List.perm_cons_erase hb1
  have p := p1.trans (List.Perm.cons a p2)
  have nd2 := p.nodup nd
  refine ⟨(l.erase a).erase b, p, ?_, ?_⟩
  · intro h
    exact (List.nodup_cons.1 nd2).1 (List.mem_cons_of_mem _ h)
  · exact (List.nodup_cons.1 (List.nodup_cons.1 nd2).2).1
theorem order (cnt : Nat → Nat) (k : Nat) (hk : k ≤ 256) (hB : ∀ c, cnt c ≤ 1048576) {a b : Nat} (ha : a ∈ used cnt k) (hb : b ∈ used cnt k) (h : cnt b < cnt a) : hlen cnt k a ≤ hlen cnt k b := by
  refine Nat.le_of_not_lt fun hlt => ?_
  have hne : a ≠ b := fun e => by rw [e] at h; omega
  obtain ⟨r, p, nar, nbr⟩ := two_perm (used_nodup cnt k) ha hb hne
  have h2 : 2 ≤ (used cnt k).length := by rw [p.length_eq]; simp
  have F := fine cnt k hk hB h2
  obtain ⟨D, hD⟩ : ∃ D, D = hlen cnt k := ⟨_, rfl⟩
  rw [← hD] at hlt F
  have sa : swp D a b a = D b := if_pos rfl
  have sb : swp D a b b = D a := by unfold swp; rw [if_neg (fun e => hne e.symm), if_pos rfl]
  have sr : ∀ c ∈ r, swp D a b c = D c := fun c hc => by
    unfold swp
    rw [if_neg (fun e => nar (by rw [← e]; exact hc)), if_neg (fun e => nbr (by rw [← e]; exact hc))]
  have key := no_less cnt k hk hB (swp D a b) (fun c hc => by
    unfold swp
    split
    · exact F.some b hb
    · split
      · exact F.some a ha
      · exact F.some c hc) (by
    rw [(p.map _).sum_nat]
    have s := F.sum
    rw [(p.map _).sum_nat] at s
    simp only [List.map_cons, List.sum_cons] at s ⊢
    rw [sa, sb, sum_cong (g := fun c => 2 ^ (40 - D c)) (fun c hc => by rw [sr c hc])]
    omega)
  rw [← hD, (p.map _).sum_nat, (p.map _).sum_nat] at key
  simp only [List.map_cons, List.sum_cons] at key
  rw [sa, sb, sum_cong (g := fun c => cnt c * D c) (s := r) (f := fun c => cnt c * swp D a b c) (fun c hc => by rw [sr c hc])] at key
  obtain ⟨x, hx⟩ : ∃ x, cnt a = cnt b + 1 + x := ⟨cnt a - cnt b - 1, by omega⟩
  obtain ⟨y, hy⟩ : ∃ y, D a = D b + 1 + y := ⟨D a - D b - 1, by omega⟩
  rw [hx, hy] at key
  simp only [Nat.add_mul, Nat.mul_add, Nat.one_mul, Nat.mul_one] at key
  omega
end Go.Proofs.Ytckkhmmicbpihaa.Hq
