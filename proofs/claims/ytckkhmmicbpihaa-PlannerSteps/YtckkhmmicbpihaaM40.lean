/-
  The contract of the program's All. Plain: all that may be are there (out of config's Cj).
-/
import Derived.Test.YtckkhmmicbpihaaM39
import Derived.Test.YtckkhmmicbpihaaM14
namespace Go.Proofs.Ytckkhmmicbpihaa
open Go.RowKit
set_option linter.unusedVariables false
set_option linter.unusedSimpArgs false
set_option maxRecDepth 100000

namespace Co
theorem all_sh : ((List.range 378).all fun t => decide (all[t]? = (shS[t / 21]?).map fun c => (c.1, c.2.1, c.2.2.1, t / 7 % 3 + 1, 2 ^ (t % 7)))) = true := by decide +kernel
theorem all_at {j k q p s i l : Nat} (hj : j < 18) (h : shS[j]? = some (s, i, l, 0, 0)) (h1 : 1 ≤ k) (h2 : k ≤ 3) (hq : q ≤ 6) (hp : p = 2 ^ q) : all[21 * j + 7 * (k - 1) + q]? = some (s, i, l, k, p) := by
  have := List.all_eq_true.1 all_sh (21 * j + 7 * (k - 1) + q) (List.mem_range.2 (by omega))
  rw [decide_eq_true_iff, show (21 * j + 7 * (k - 1) + q) / 21 = j by omega, h, show (21 * j + 7 * (k - 1) + q) / 7 % 3 + 1 = k by omega, show (21 * j + 7 * (k - 1) + q) % 7 = q by omega] at this
  rw [this, hp]
  rfl
theorem shS_ex (j : Nat) (hj : j < 18) : ∃ s i l, shS[j]? = some (s, i, l, 0, 0) ∧ s ≤ 4 ∧ i ≤ 3 ∧ l ≤ 12 := by
  have key : (shS.all fun c => decide (c.2.2.2 = (0, 0) ∧ c.1 ≤ 4 ∧ c.2.1 ≤ 3 ∧ c.2.2.1 ≤ 12)) = true := by decide
  obtain ⟨⟨s, i, l, k, m⟩, hc⟩ : ∃ c, shS[j]? = some c := ⟨_, List.getElem?_eq_getElem (by rw [shS_len]; exact hj)⟩
  have := List.all_eq_true.1 key _ (List.mem_of_getElem? hc)
  rw [decide_eq_true_iff] at this
  simp only [Prod.mk.injEq] at this
  obtain ⟨⟨rfl, rfl⟩, h1, h2, h3⟩ := this
  exact ⟨s, i, l, hc, h1, h2, h3⟩
theorem pow_le {q p : Nat} (h : p = 2 ^ q) (hp : p ≤ 64) : q ≤ 6 := by
  by_cases c : q ≤ 6
  · exact c
  · have := Nat.pow_le_pow_right (n := 2) (by decide) (show 7 ≤ q by omega)
    omega
end Co
/-- The loop's own configuration. -/
def CC (w : World) (gc s i l : Nat) (v : Value) : Prop := (∃ x y : Int, Cel w gc [.int .i64 (s : Nat), .int .i64 (i : Nat), .int .i64 (l : Nat), .int .i64 x, .int .i64 y] 23) ∧ v.ownBlock ≠ some gc
set_option maxHeartbeats 8000000 in
theorem kall_c (w : World) : Calls Try.prog 57 #[] w (AllQ w) := by
  have KA := hide kallsh_c
  obtain ⟨i0, hi, hz0, hz1, hz2⟩ := info_parts (show (Try.prog.info? 23).map (fun i => (i.zero, i.size, i.bytes)) = some (some (.agg #[.int .i64 0, .int .i64 0, .int .i64 0, .int .i64 0, .int .i64 0]), 5, 40) by kernel_rfl)
  have HI := hide (And.intro hi (And.intro hz0 (And.intro hz1 hz2)))
  clear hi hz0 hz1 hz2
  go_enter Try.func57, Try.ntmps57
  go_wp2_with fail
  refine (KA.out _).mono ?_
  rintro e w1 ⟨v, rfl, hO, hB⟩
  obtain ⟨h1, ⟨_, h⟩ | ⟨g0, cap0, cur, rfl, e2, hh, r⟩⟩ := id hO
  · exact absurd h (by decide)
  have hlt0 := (Ag.owns_cells hO).1
  have HS0 := hide (fun i c (hc : Co.shS[i]? = some c) j u hu => (Ag.owns_cells hO).2 _ _ (Co.enc_get _ i c (show (Co.shS.take 18)[i]? = some c by rw [List.take_of_length_le (by rw [Co.shS_len]; exact Nat.le_refl _)]; exact hc) j u hu))
  have hc18 := r.1
  have HB1 := hide hB
  obtain ⟨B, hBe⟩ : ∃ B, Hid (B = w1.heap.size) := ⟨_, rfl⟩
  rw [← hBe.out] at hlt0
  clear h1 hh r hO hB KA e2
  go_wp2
  go_loopw [1, 8] (fun vo vs wr => ∃ j : Nat, j ≤ 18 ∧ vs = .int .i64 (j : Nat) ∧ Hid (OL B w1 wr Co.all vo (21 * j))) (fun _ vs _ => 18 - (intOf vs).toNat)
  case atStart => exact ⟨0, by omega, rfl, by have := OL.start w1 Co.all; rw [← hBe.out] at this; exact this⟩
  case round =>
    obtain ⟨j, hj18, rfl, HO⟩ := hrel
    by_cases hj : j < 18
    · have hjz : (j : Int) < 18 := by omega
      obtain ⟨s, i, l, hs, hs4, hi3, hl12⟩ := Co.shS_ex j hj
      have HS := hide hs
      have e1 := (HO.out.2.cell (p := ⟨g0, j * 5 + 0, none⟩) hlt0).trans (HS0.out j _ hs 0 _ rfl)
      have e2 := (HO.out.2.cell (p := ⟨g0, j * 5 + 1, none⟩) hlt0).trans (HS0.out j _ hs 1 _ rfl)
      have e3 := (HO.out.2.cell (p := ⟨g0, j * 5 + 2, none⟩) hlt0).trans (HS0.out j _ hs 2 _ rfl)
      have e4 := (HO.out.2.cell (p := ⟨g0, j * 5 + 3, none⟩) hlt0).trans (HS0.out j _ hs 3 _ rfl)
      have e5 := (HO.out.2.cell (p := ⟨g0, j * 5 + 4, none⟩) hlt0).trans (HS0.out j _ hs 4 _ rfl)
      simp only [Nat.add_zero] at e1
      have HSW : Hid (B ≤ wr.heap.size) := by have := HO.out.2.size; rw [hBe.out]; exact this
      have HOW : Hid (∀ k, u1.ownBlock = some k → k < wr.heap.size) := fun k hk => (HO.out.1.lt k hk).2
      clear hs
      obtain ⟨gc, hgc⟩ : ∃ gc, Hid (gc = wr.heap.size) := ⟨_, rfl⟩
      have B3 : Cel (wr.alloc (.cells #[.int .i64 0, .int .i64 0, .int .i64 0, .int .i64 0, .int .i64 0] 23)) gc [.int .i64 0, .int .i64 0, .int .i64 0, .int .i64 0, .int .i64 0] 23 := by rw [hgc.out]; exact Cel.new wr _ _
      go_wp2_with (refine store_cel gc [.int .i64 0, .int .i64 0, .int .i64 0, .int .i64 0, .int .i64 0] [.int .i64 (s : Nat), .int .i64 (i : Nat), .int .i64 (l : Nat), .int .i64 0, .int .i64 0] (by rw [hgc.out]; rfl) rfl B3 rfl (by kernel_rfl) (by simp [Value.oneCell']) ?_)
      intro w3 hc3 ho3
      have HO3 : Hid (OL B w1 w3 Co.all u1 (21 * j)) := by
        have hbw : Below wr.heap.size wr w3 := (below_alloc wr _).trans (ho3.below (by rw [hgc.out]; exact Nat.le_refl _))
        exact ⟨Ag.owns_keep HO.out.1 hbw, HO.out.2.trans (hbw.mono HSW.out)⟩
      have HC3 : Hid (CC w3 gc s i l u1) := ⟨⟨0, 0, hc3⟩, fun q => by have := HOW.out gc q; rw [hgc.out] at this; exact Nat.lt_irrefl _ this⟩
      have HGC : Hid (B ≤ gc) := by rw [hgc.out]; exact HSW.out
      rw [← hgc.out]
      clear hc3 ho3 B3 HO e1 e2 e3 e4 e5 HOW HSW hgc
      go_wp2
      go_loopw [1, 4] (fun vo vs wr => ∃ k : Nat, 1 ≤ k ∧ k ≤ 4 ∧ vs = .int .i64 (k : Nat) ∧ Hid (OL B w1 wr Co.all vo (21 * j + 7 * (k - 1))) ∧ Hid (CC wr gc s i l vo)) (fun _ vs _ => 4 - (intOf vs).toNat)
      case atStart => exact ⟨1, by omega, by omega, rfl, HO3, HC3⟩
      case round =>
        clear HO3 HC3
        obtain ⟨k, hk1, hk4, rfl, HO, HC⟩ := hrel
        by_cases hk3 : k ≤ 3
        · have hkz : (k : Int) ≤ 3 := by omega
          obtain ⟨wb, rfl⟩ : ∃ wb, wb = wr := ⟨_, rfl⟩
          go_wp2
          go_loopw [1, 5] (fun vo vs wr => ∃ q p : Nat, p ≤ 128 ∧ Hid (p = 2 ^ q) ∧ vs = .int .i64 (p : Nat) ∧ Hid (OL B w1 wr Co.all vo (21 * j + 7 * (k - 1) + q)) ∧ Hid (CC wr gc s i l vo)) (fun _ vs _ => 128 - (intOf vs).toNat)
          case atStart => exact ⟨0, 1, by omega, rfl, rfl, HO, HC⟩
          case round =>
            clear HO HC
            obtain ⟨q, p, hp128, HP, rfl, HO, HC⟩ := hrel
            by_cases hp : p ≤ 64
            · have hpz : (p : Int) ≤ 64 := by omega
              have hq6 := Co.pow_le HP.out hp
              have hp1 : 1 ≤ p := by rw [HP.out]; exact Nat.one_le_two_pow
              have H0 := hide (Co.all_at hj HS.out hk1 hk3 hq6 HP.out)
              have HP2 : Hid (p * 2 = 2 ^ (q + 1)) := by show p * 2 = _; rw [HP.out, Nat.pow_succ]
              obtain ⟨t, ht⟩ : ∃ t, Hid (t = 21 * j + 7 * (k - 1) + q) := ⟨_, rfl⟩
              rw [← ht.out] at HO H0
              have ht378 : t < 378 := by have := ht.out; omega
              have HT : Hid (t + 1 = 21 * j + 7 * (k - 1) + (q + 1)) := by have := ht.out; show _ = _; omega
              have HCV : Hid (Co.cv (Co.toZ (s, i, l, k, p)) = [.int .i64 (s : Nat), .int .i64 (i : Nat), .int .i64 (l : Nat), .int .i64 (k : Nat), .int .i64 (p : Nat)]) := (rfl : Co.cv _ = _)
              obtain ⟨⟨x, y, hcel⟩, hown⟩ := HC.out
              have c3 := hcel.cell 3 rfl
              have c4 := hcel.cell 4 rfl
              have f3 := hcel.frozen 3
              have f4 := hcel.frozen 4
              have HX : Hid (Cel ((wr.setCell ⟨gc, 3, none⟩ (.int .i64 (k : Nat))).setCell ⟨gc, 4, none⟩ (.int .i64 (p : Nat))) gc [.int .i64 (s : Nat), .int .i64 (i : Nat), .int .i64 (l : Nat), .int .i64 (k : Nat), .int .i64 (p : Nat)] 23) := (hcel.set 3 (.int .i64 (k : Nat))).set 4 (.int .i64 (p : Nat))
              have HON : Hid (Only gc wr ((wr.setCell ⟨gc, 3, none⟩ (.int .i64 (k : Nat))).setCell ⟨gc, 4, none⟩ (.int .i64 (p : Nat)))) := ((Only.refl gc wr).set 3 _).set 4 _
              have d0 := HX.out.cell 0 rfl
              have d1 := HX.out.cell 1 rfl
              have d2 := HX.out.cell 2 rfl
              have d3 := HX.out.cell 3 rfl
              have d4 := HX.out.cell 4 rfl
              have HO2 : Hid (OL B w1 ((wr.setCell ⟨gc, 3, none⟩ (.int .i64 (k : Nat))).setCell ⟨gc, 4, none⟩ (.int .i64 (p : Nat))) Co.all u1 t) := ⟨Ag.owns_of HO.out.1 (fun b hb => HON.out.block b (fun q => hown (q ▸ hb))), HO.out.2.trans (HON.out.below HGC.out)⟩
              have HSZ : Hid (B ≤ ((wr.setCell ⟨gc, 3, none⟩ (.int .i64 (k : Nat))).setCell ⟨gc, 4, none⟩ (.int .i64 (p : Nat))).heap.size) := by have := HO2.out.2.size; rw [hBe.out]; exact this
              have hgl : Hid (gc < ((wr.setCell ⟨gc, 3, none⟩ (.int .i64 (k : Nat))).setCell ⟨gc, 4, none⟩ (.int .i64 (p : Nat))).heap.size) := HX.out.lt
              obtain ⟨hi, hz0, hz1, hz2⟩ := HI.out
              have HOWN := hide hown
              have hsz : Hid (((wr.setCell ⟨gc, 3, none⟩ (.int .i64 (k : Nat))).setCell ⟨gc, 4, none⟩ (.int .i64 (p : Nat))).heap.size = wr.heap.size) := HON.out.size
              clear HP HC HO hcel hown
              go_wp2_with (at_builtin; refine Ag.wpList_append (by rfl) _ _ _ (by rfl) B 23 i0 (.agg #[.int .i64 0, .int .i64 0, .int .i64 0, .int .i64 0, .int .i64 0]) 5 40 Try.underlying65 hi hz0 hz1 hz2 rfl (by decide) u1 t (Co.enc (Co.all.take t)) (by rfl) (Ag.owns_keep HO2.out.1 (below_alloc ((wr.setCell ⟨gc, 3, none⟩ (.int .i64 (k : Nat))).setCell ⟨gc, 4, none⟩ (.int .i64 (p : Nat))) _)) ⟨wr.heap.size, 0, none⟩ 1 1 [.int .i64 (s : Nat), .int .i64 (i : Nat), .int .i64 (l : Nat), .int .i64 (k : Nat), .int .i64 (p : Nat)] (by rfl) rfl (by decide) ?c1 ?c2 ?c3 ?c4 ?c5 ?_)
              case c1 =>
                intro j u hj
                have := (Cel.new ((wr.setCell ⟨gc, 3, none⟩ (.int .i64 (k : Nat))).setCell ⟨gc, 4, none⟩ (.int .i64 (p : Nat))) [.int .i64 (s : Nat), .int .i64 (i : Nat), .int .i64 (l : Nat), .int .i64 (k : Nat), .int .i64 (p : Nat)] 23).cell j hj
                rw [hsz.out] at this
                match j, hj with
                | 0, _ => exact this
                | 1, _ => exact this
                | 2, _ => exact this
                | 3, _ => exact this
                | 4, _ => exact this
              case c2 => intro u hu; simp at hu; rcases hu with rfl | rfl | rfl | rfl | rfl <;> rfl
              case c3 => unfold maxLen; omega
              case c4 => omega
              case c5 => have := HSZ.out; simp at this ⊢; omega
              intro g8 cap8 w8 own8 hb8 hg8 _ hk8 _
              have HN : Hid (OL B w1 w8 Co.all (.slice (some ⟨g8, 0, none⟩) (t + 1) cap8) (t + 1)) := OL.more H0.out (by rw [HCV.out]; exact own8) ((HO2.out.2.alloc HSZ.out _).trans hb8)
              have HN2 : Hid (CC w8 gc s i l (.slice (some ⟨g8, 0, none⟩) (t + 1) cap8)) := by
                refine ⟨⟨_, _, (hk8 gc (by have := hgl.out; simp at this ⊢; omega) HOWN.out).trans (HX.out.alloc _)⟩, fun q => ?_⟩
                simp only [Value.ownBlock, Option.some.injEq] at q
                subst q
                rcases hg8 with q | q
                · exact HOWN.out q
                · have := hgl.out
                  simp at this q
                  omega
              clear own8 hb8 hg8 hk8 HO2 hi hz0 hz1 hz2 d0 d1 d2 d3 d4 c3 c4 f3 f4 HX HON HSZ hgl HOWN
              go_wp2
              exact ⟨⟨q + 1, p * 2, by omega, HP2, by go_num, by rw [← HT.out]; exact HN, HN2⟩, by simp only [intOf]; omega⟩
            · have hpz : ¬ (p : Int) ≤ 64 := by omega
              have HX : Hid (OL B w1 wr Co.all u1 (21 * j + 7 * (k + 1 - 1))) := by
                have := HO.out
                have hq : q = 7 := by
                  have h1 := HP.out
                  by_cases c : q ≤ 6
                  · have := Nat.pow_le_pow_right (n := 2) (by decide) c
                    omega
                  · by_cases c2 : q ≤ 7
                    · omega
                    · have := Nat.pow_le_pow_right (n := 2) (by decide) (show 8 ≤ q by omega)
                      omega
                rwa [show 21 * j + 7 * (k - 1) + q = 21 * j + 7 * (k + 1 - 1) by omega] at this
              clear HO
              go_wp2
              exact ⟨⟨k + 1, by omega, by omega, by go_num, HX, HC⟩, by simp only [intOf]; omega⟩
        · have hkz : ¬ (k : Int) ≤ 3 := by omega
          have HX : Hid (OL B w1 wr Co.all u1 (21 * (j + 1))) := by
            have := HO.out
            rwa [show 21 * j + 7 * (k - 1) = 21 * (j + 1) by omega] at this
          clear HO
          go_wp2
          exact ⟨⟨j + 1, by omega, by go_num, HX⟩, by simp only [intOf]; omega⟩
    · have hjz : ¬ (j : Int) < 18 := by omega
      have HX : Hid (OL B w1 wr Co.all u1 378) := by
        have := HO.out
        rwa [show 21 * j = 378 by omega] at this
      clear HO
      go_wp2
      go_ret
      obtain ⟨hO, hBw⟩ := HX.out
      rw [List.take_of_length_le (by rw [Co.all_len]; exact Nat.le_refl _)] at hO
      obtain ⟨h1, ⟨_, h⟩ | ⟨g, cap, cur, rfl, e2, hh, r⟩⟩ := id hO
      · exact absurd h (by decide)
      · exact ⟨g, cap, rfl, ⟨(Ag.owns_cells hO).1, fun i c hc j u hu => (Ag.owns_cells hO).2 _ _ (Co.enc_get _ i c hc j u hu)⟩, r.1, Nat.le_trans (by rw [hBe.out]; exact HB1.out.size) e2, HB1.out.trans (hBw.mono (by rw [hBe.out]; exact HB1.out.size))⟩
end Go.Proofs.Ytckkhmmicbpihaa

namespace Go.Proofs.Ytckkhmmicbpihaa
set_option linter.unusedVariables false

namespace Co
theorem mem_fr : ∀ (n a t : Nat), a ≤ t → t < a + n → ok (cat t) = true → cat t ∈ fr a n
  | 0, a, t, h1, h2, _ => absurd h2 (by omega)
  | n + 1, a, t, h1, h2, h3 => by
    unfold fr
    by_cases e : a = t
    · subst e
      rw [h3]
      exact List.mem_cons_self ..
    · have := mem_fr n (a + 1) t (by omega) (by omega) h3
      cases ok (cat a)
      · exact this
      · exact List.mem_cons_of_mem _ this
theorem ok_bounds {c : Cf} (h : ok c = true) : 1 ≤ c.1 ∧ c.1 ≤ 4 ∧ c.2.1 ≤ 3 ∧ c.2.2.1 ≤ 12 ∧ 1 ≤ c.2.2.2.1 ∧ c.2.2.2.1 ≤ 3 ∧ 1 ≤ c.2.2.2.2 ∧ c.2.2.2.2 ≤ 64 := by
  obtain ⟨s, i, l, k, m⟩ := c
  unfold ok at h
  simp only [Bool.and_eq_true, ble_dec, beq_dec, decide_eq_true_eq] at h
  obtain ⟨h1, h2, h3, h4, h5, h6⟩ := h
  have inm : ∀ (L : List Nat) (n lo hi : Nat), inB L n = true → (∀ y ∈ L, lo ≤ y ∧ y ≤ hi) → lo ≤ n ∧ n ≤ hi := fun L n lo hi h q => by
    unfold inB at h
    rw [List.any_eq_true] at h
    obtain ⟨x, hx, e⟩ := h
    rw [Nat.beq_eq] at e
    subst e
    exact q x hx
  have hm := inm sam m 1 64 h5 (by decide)
  have hil : i ≤ 3 ∧ l ≤ 12 := by
    by_cases c : s = 4
    · rw [decide_eq_true c] at h6
      simp only [cond_true, Bool.and_eq_true, decide_eq_true_eq] at h6
      exact ⟨h6.2.1, (inm lgs l 4 12 h6.2.2 (by decide)).2⟩
    · rw [decide_eq_false c] at h6
      simp only [cond_false, Bool.and_eq_true, decide_eq_true_eq] at h6
      omega
  exact ⟨h1, h2, hil.1, hil.2, h3, h4, hm.1, hm.2⟩
theorem mem_all {c : Cf} (h : ok c = true) : c ∈ all := by
  obtain ⟨b1, b2, b3, b4, b5, b6, b7, b8⟩ := ok_bounds h
  obtain ⟨s, i, l, k, m⟩ := c
  simp only at b1 b2 b3 b4 b5 b6 b7 b8
  have e := cat_at (s - 1) i l (k - 1) (m - 1) (by omega) (by omega) (by omega) (by omega)
  rw [show s - 1 + 1 = s by omega, show k - 1 + 1 = k by omega, show m - 1 + 1 = m by omega] at e
  rw [← e] at h ⊢
  rw [← fr_all]
  exact mem_fr 39936 0 _ (by omega) (by omega) h
def nat (z : Zf) : Cf := (z.1.toNat, z.2.1.toNat, z.2.2.1.toNat, z.2.2.2.1.toNat, z.2.2.2.2.toNat)
theorem toI_nn (l : List Nat) (n : Int) (h : n ∈ toI l) : 0 ≤ n := by
  unfold toI at h
  obtain ⟨x, _, rfl⟩ := List.mem_map.1 h
  omega
theorem okZ_nn {z : Zf} (h : okZ z = true) : toZ (nat z) = z := by
  obtain ⟨s, i, l, k, m⟩ := z
  unfold okZ at h
  simp only [Bool.and_eq_true, decide_eq_true_eq] at h
  obtain ⟨h1, h2, h3, h4, h5, h6⟩ := h
  have hm : 0 ≤ m := toI_nn sam m (of_decide_eq_true h5)
  have hil : 0 ≤ i ∧ 0 ≤ l := by
    by_cases c : s = 4
    · rw [decide_eq_true c] at h6
      simp only [cond_true, Bool.and_eq_true, decide_eq_true_eq] at h6
      exact ⟨by omega, toI_nn lgs l (of_decide_eq_true h6.2.2)⟩
    · rw [decide_eq_false c] at h6
      simp only [cond_false, Bool.and_eq_true, decide_eq_true_eq] at h6
      omega
  unfold toZ nat
  refine Prod.ext ?_ (Prod.ext ?_ (Prod.ext ?_ (Prod.ext ?_ ?_))) <;> simp only <;> omega
theorem okZ_mem {z : Zf} (h : okZ z = true) : z ∈ az := by
  unfold az
  rw [List.mem_map]
  have e := okZ_nn h
  have h2 := okZ_nat (nat z)
  rw [e, h] at h2
  exact ⟨nat z, mem_all h2.symm, e⟩
end Co
end Go.Proofs.Ytckkhmmicbpihaa
