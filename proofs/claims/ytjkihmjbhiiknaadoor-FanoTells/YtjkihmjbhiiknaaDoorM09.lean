/-
  The contract of the program's lowOf. Plain: when a row by places may be: it fits, and its places rise below N; what it is then, field by field. Rows by places as values (KI): what is handed in, and what stays of it; and plain: places and counts of a row that may be. The contract of Ones.
-/
import Derived.Test.YtjkihmjbhiiknaaDoorM08
import Derived.Test.YtjkihmjbhiiknaaDoorM04
import Derived.Test.YtjkihmjbhiiknaaDoorM06
import Derived.Test.YtjkihmjbhiiknaaDoorM07
import Derived.Test.YtjkihmjbhiiknaaDoorM02
import Derived.Test.YtjkihmjbhiiknaaDoorM00
namespace Go.Proofs.YtjkihmjbhiiknaaDoor
open Go.RowKit Go.Shelf Num Bit
set_option linter.unusedVariables false
set_option linter.unusedSimpArgs false
set_option maxRecDepth 100000
attribute [local go_sem] Oper.semAt_some

theorem gt_rmap9 (m : Nat) (f : Nat → Nat) (i : Nat) (h : i < m) : gt ((List.range m).map f) i = f i := by
  unfold gt
  rw [List.getD_eq_getElem?_getD, List.getElem?_map, List.getElem?_range h]
  rfl
/-- The numbers, the first q of them laid. -/
def nlq (L : List Nat) (v q : Nat) : List Nat := (List.range L.length).map fun j => if j < q then gt L j % 2 ^ v else 0
theorem length_nlq (L : List Nat) (v q : Nat) : (nlq L v q).length = L.length := by simp [nlq]
theorem nlq_zero (L : List Nat) (v : Nat) : nlq L v 0 = List.replicate L.length 0 := by
  unfold nlq
  rw [List.eq_replicate_iff]
  refine ⟨by simp, fun b hb => ?_⟩
  rw [List.mem_map] at hb
  obtain ⟨j, _, rfl⟩ := hb
  simp
theorem nlq_all (L : List Nat) (v : Nat) (hv : 0 < v) : nlq L v L.length = loP L v := by
  refine Bit.list_ext _ _ (by rw [length_nlq, length_loP L v hv]) fun i hi => ?_
  rw [length_nlq] at hi
  rw [gt_loP L v i hv hi]
  unfold nlq
  rw [gt_rmap9 _ _ _ hi, if_pos hi]
theorem nlq_set (L : List Nat) (v q : Nat) (h : q < L.length) : (nlq L v q).set q (gt L q % 2 ^ v) = nlq L v (q + 1) := by
  refine List.ext_getElem? fun i => ?_
  rw [List.getElem?_set, length_nlq]
  unfold nlq
  by_cases c : i < L.length
  · rw [List.getElem?_map, List.getElem?_map, List.getElem?_range c]
    by_cases d : q = i
    · subst d
      simp [c]
    · rw [if_neg d]
      simp only [Option.map_some]
      congr 1
      by_cases e : i < q
      · rw [if_pos e, if_pos (by omega)]
      · rw [if_neg e, if_neg (by omega)]
  · rw [if_neg (by omega), List.getElem?_eq_none (by simp; omega), List.getElem?_eq_none (by simp; omega)]

theorem lo_imE (n : Nat) (L : List Nat) (v : Nat) (hn : n ≤ 3000) (hl : L.length ≤ n) (hv : v ≤ 20) : imE ((max v 1 : Nat) : Int) (loP L v) = 0 := by
  unfold imE
  rw [if_neg]
  have h1 := length_lo_le L v
  have h2 : (loP L v).length * max v 1 ≤ 3000 * 20 := Nat.mul_le_mul (by omega) (by omega)
  rintro (h | h | h | h)
  · omega
  · omega
  · rw [← Int.natCast_mul] at h; omega
  · exact h fun j hj => (lenI_fit _ _).2 (loP_lt L v j)

theorem ginfo_i : (Tryd.prog.info? 28).map (·.size) = some 4 := by kernel_rfl

set_option maxHeartbeats 16000000 in
theorem glowOf_0 (n : Nat) (ao : Option Addr) (xs : List Nat) (cap : Nat) (w : World) (m : Nat) (hn : n ≤ 3000) (mn : m ≤ n) (h0 : wdF n m = 0) :
    Calls Tryd.prog 32 #[.agg #[.int .i64 (n : Nat), .slice ao xs.length cap], .int .i64 (m : Nat)] w fun e w' => ∃ bo bc, e = .returned (.tuple #[.agg #[.int .i64 0, .int .i64 1, .int .i64 0, .slice bo 0 bc], .int .i64 0]) ∧ Below w.heap.size w w' := by
  obtain ⟨i6, hi6, za6, zb6, zc6⟩ := info_parts Tryd.info54
  have SZ : Hid (∀ w0, Calls Tryd.prog 51 #[.int .i64 (n : Nat), .int .i64 (m : Nat)] w0 fun e w' => e = .returned (.tuple #[.int .i64 0, .int .i64 1]) ∧ w' = w0) := fun w0 => by
    have := glowSize_c n m (by omega) mn w0
    unfold loN at this
    rw [h0, if_pos rfl] at this
    exact this
  have MC : Hid (∀ w0 g, Calls Tryd.prog 54 #[.int .i64 1, .slice (some ⟨g, 0, none⟩) 0 0] w0 fun e w' => ∃ bo bc, e = .returned (.tuple #[.agg #[.int .i64 0, .int .i64 1, .int .i64 0, .slice bo 0 bc], .int .i64 0]) ∧ Below w0.heap.size w0 w') := fun w0 g => by
    refine (make_ok 1 (some ⟨g, 0, none⟩) [] 0 0 w0 (wd0' _ _) (fun i => by unfold gt; simp) (by decide) (by decide)).mono ?_
    rintro e w' ⟨g', rfl, _, _, hb⟩
    exact ⟨_, _, rfl, hb⟩
  clear h0
  refine (callsIn_wide (n := 0)).1 (callsIn_of_wp_marks Tryd.func32 rfl trivial ?_)
  simp only [Tryd.ntmps32, List.size_toArray, List.length_cons, List.length_nil, Nat.reduceAdd, Nat.reduceSub, Array.replicate_succ, Array.replicate_zero, List.push_toArray, List.append_toArray, List.nil_append, List.cons_append]
  refine wpIn_wide.2 ?_
  obtain ⟨W1, hW1⟩ : ∃ W1, W1 = (w.alloc (.cells #[.int .i64 (n : Nat), .slice ao xs.length cap] 24)).alloc (.cells #[.int .i64 0, .int .i64 0, .int .i64 0, .slice none 0 0] 28) := ⟨_, rfl⟩
  have b1 : Below w.heap.size w W1 := by rw [hW1]; exact ((below_alloc w _).alloc (by simp only [World.size_alloc]; omega) _)
  have z1 : W1.heap.size = w.heap.size + 2 := by rw [hW1]; simp
  have c1 : Cel W1 (w.heap.size + 1) [.int .i64 0, .int .i64 0, .int .i64 0, .slice none 0 0] 28 := by rw [hW1]; exact Cel.new2 w _ _ _
  go_wp2_with fail
  rw [← hW1]
  clear hW1
  refine (SZ.out _).mono ?_
  rintro e ws ⟨rfl, hs⟩
  rw [hs]
  clear hs ws SZ
  obtain ⟨W2, hW2⟩ : ∃ W2, W2 = W1.alloc (.cells #[.int .i64 1] 3) := ⟨_, rfl⟩
  have b2 : Below W1.heap.size W1 W2 := by rw [hW2]; exact below_alloc W1 _
  have z2 : W2.heap.size = w.heap.size + 3 := by rw [hW2]; simp [z1]
  have c2 : Cel W2 (w.heap.size + 2) [.int .i64 1] 3 := by rw [hW2, ← z1]; exact Cel.new W1 _ _
  go_wp2_with (at_make; rw [← hW2]; refine wpList_make_full _ rfl _ _ 22 rfl W2.heap.size 54 i6 (.int .u64 0) 1 Tryd.underlying22 hi6 za6 zb6 .i64 .i64 _ _ 0 rfl rfl rfl rfl ?b2 ?b3 ?b4 ?_)
  case b2 => rw [zc6]; omega
  case b3 => unfold maxLen; omega
  case b4 => exact Nat.le_refl _
  intro w3 hown hgr
  have b3 : Below W2.heap.size W2 w3 := by rw [hW2]; exact (Below.refl _ _).grown hgr (Nat.le_refl _) (fun k h => by cases h)
  have bb : Below w.heap.size w w3 := b1.trans ((b2.mono (by omega)).trans (b3.mono (by omega)))
  replace c1 := (c1.kept b2).kept b3
  replace c2 := c2.kept b3
  clear hown hgr b1 b2 b3 hW2
  have bA := below_alloc w3 (.cells #[.slice (some ⟨w.heap.size + 2 + 1, 0, none⟩) 0 0] 22)
  have d2 := c2.kept bA
  have d1 := c1.kept bA
  have q0 := d2.cell 0 rfl
  go_wp2_with fail
  refine (MC.out _ _).mono ?_
  rintro e w4 ⟨bo, bc, rfl, hb⟩
  have b5 := (bb.trans (bA.mono bb.size)).trans (hb.mono (Nat.le_trans bb.size bA.size))
  replace d1 := d1.kept hb
  clear hb q0 d2 c1 c2 bA bb
  go_wp2_with (refine store_cel (w.heap.size + 1) [.int .i64 0, .int .i64 0, .int .i64 0, .slice none 0 0] _ rfl rfl d1 rfl ginfo_i (by simp [Value.oneCell']) ?_)
  intro w5 B3 O3
  have HZ := hide9' (And.intro B3 (b5.trans (O3.below (Nat.le_succ _))))
  clear B3 O3 b5 d1
  go_wp2
  exact ⟨_, result_cel rfl (w.heap.size + 1) _ rfl HZ.out.1 Tryd.underlying28 ginfo_i, bo, bc, rfl, HZ.out.2⟩

set_option maxHeartbeats 16000000 in
theorem glowOf_v (n : Nat) (ao : Option Addr) (xs : List Nat) (cap : Nat) (w : World) (hx : Wd w ao xs) (fx : Fit xs) (ck : chk (n : Int) xs = true) (hn : n ≤ 3000) (L : List Nat) (hL : L = plc (bitAt xs) n) (m v : Nat) (hm : m = L.length) (hv : v = wdF n m) (hv0 : 0 < v) :
    Calls Tryd.prog 32 #[.agg #[.int .i64 (n : Nat), .slice ao xs.length cap], .int .i64 (m : Nat)] w fun e w' => ∃ g k, e = .returned (.tuple #[.agg #[.int .i64 (m : Nat), .int .i64 (v : Nat), .int .i64 ((m : Int) * (v : Int)), .slice (some ⟨g, 0, none⟩) k k], .int .i64 0]) ∧ k = (mkS (loP L v) v m).length ∧ Own w' g (mkS (loP L v) v m) ∧ Below w.heap.size w w' := by
  have RS : Rise L n := by rw [hL]; exact plc_rise _ _
  have mn : m ≤ n := by rw [hm]; exact RS.len
  have v20 : v ≤ 20 := by rw [hv]; exact wdF_le n m (by omega)
  have m0 : 0 < m := by
    refine Nat.pos_of_ne_zero fun c => ?_
    rw [c] at hv
    unfold wdF at hv
    rw [if_pos rfl] at hv
    omega
  have m0i : (0 : Int) < (m : Int) := by omega
  obtain ⟨i6, hi6, za6, zb6, zc6⟩ := info_parts Tryd.info54
  have OC : Hid (∀ w0, Calls Tryd.prog 52 #[.agg #[.int .i64 (n : Nat), .slice ao xs.length cap]] w0 fun e w' => e = .returned (.func (.func 65) #[] #[.pointer (some ⟨w0.heap.size, 0, none⟩)]) ∧ w' = w0.alloc (.cells #[.int .i64 (n : Nat), .slice ao xs.length cap] 24)) := fun w0 => ofOnes_c n ao xs cap w0
  have SZ : Hid (∀ w0, Calls Tryd.prog 51 #[.int .i64 (n : Nat), .int .i64 (m : Nat)] w0 fun e w' => e = .returned (.tuple #[.int .i64 (m : Nat), .int .i64 (v : Nat)]) ∧ w' = w0) := fun w0 => by
    have := glowSize_c n m (by omega) mn w0
    unfold loN at this
    rw [← hv, if_neg (by omega), show max v 1 = v by omega] at this
    exact this
  have MK : Hid (∀ w0, Calls Tryd.prog 53 #[.int .i64 (v : Nat)] w0 fun e w' => e = .returned (.int .u64 (maskI v)) ∧ w' = w0) := fun w0 => mask_c v w0
  have MC : Hid (∀ w0 g, Own w0 g (loP L v) → Calls Tryd.prog 54 #[.int .i64 (v : Nat), .slice (some ⟨g, 0, none⟩) m m] w0 fun e w' => ∃ g k, e = .returned (.tuple #[.agg #[.int .i64 (m : Nat), .int .i64 (v : Nat), .int .i64 ((m : Int) * (v : Int)), .slice (some ⟨g, 0, none⟩) k k], .int .i64 0]) ∧ k = (mkS (loP L v) v m).length ∧ Own w' g (mkS (loP L v) v m) ∧ Below w0.heap.size w0 w') := fun w0 g hO => by
    have e1 := lo_imE n L v hn (by omega) v20
    rw [show max v 1 = v by omega] at e1
    have e2 : (loP L v).length = m := by rw [length_loP L v hv0, hm]
    have := make_ok v (some ⟨g, 0, none⟩) (loP L v) m ((m * v + 63) / 64) w0 hO.wd (fun i => Nat.lt_of_lt_of_le (loP_lt L v i) (Nat.pow_le_pow_right (show 0 < 2 by decide) (show max v 1 ≤ 64 by omega))) e1 (by rw [e2])
    rw [e2] at this
    refine this.mono ?_
    rintro e w' ⟨g', rfl, _, h1, h2⟩
    exact ⟨g', _, rfl, by rw [length_mkS, e2], h1, h2⟩
  have GO : Hid (∀ (w0 : World) (B : Nat) (K : Nat → Prop), Wd w0 ao xs → Cel w0 B [.int .i64 (n : Nat), .slice ao xs.length cap] 24 → K B → (∀ p, ao = some p → 0 < xs.length → K p.block) → Goes Tryd.prog 65 #[.pointer (some ⟨B, 0, none⟩)] m (fun q => #[.int .i64 q, .int .i64 (gt L q : Nat)]) K w0) := fun w0 B K h1 h2 h3 h4 => by
    have := ofOnes1_goes B n ao xs cap K w0 h1 fx h2 h3 h4 ck
    rw [← hL, ← hm] at this
    exact this
  have HM := hide9' hm
  clear hL hm hv
  refine (callsIn_wide (n := 0)).1 (callsIn_of_wp_marks Tryd.func32 rfl trivial ?_)
  simp only [Tryd.ntmps32, List.size_toArray, List.length_cons, List.length_nil, Nat.reduceAdd, Nat.reduceSub, Array.replicate_succ, Array.replicate_zero, List.push_toArray, List.append_toArray, List.nil_append, List.cons_append]
  refine wpIn_wide.2 ?_
  obtain ⟨W1, hW1⟩ : ∃ W1, W1 = (w.alloc (.cells #[.int .i64 (n : Nat), .slice ao xs.length cap] 24)).alloc (.cells #[.int .i64 0, .int .i64 0, .int .i64 0, .slice none 0 0] 28) := ⟨_, rfl⟩
  have b1 : Below w.heap.size w W1 := by rw [hW1]; exact ((below_alloc w _).alloc (by simp only [World.size_alloc]; omega) _)
  have z1 : W1.heap.size = w.heap.size + 2 := by rw [hW1]; simp
  have c0 : Cel W1 w.heap.size [.int .i64 (n : Nat), .slice ao xs.length cap] 24 := by rw [hW1]; exact (Cel.new w _ _).alloc _
  have c1 : Cel W1 (w.heap.size + 1) [.int .i64 0, .int .i64 0, .int .i64 0, .slice none 0 0] 28 := by rw [hW1]; exact Cel.new2 w _ _ _
  go_wp2_with fail
  rw [← hW1]
  clear hW1
  refine (SZ.out _).mono ?_
  rintro e ws ⟨rfl, hs⟩
  rw [hs]
  clear hs ws SZ
  obtain ⟨W2, hW2⟩ : ∃ W2, W2 = W1.alloc (.cells #[.int .i64 (v : Nat)] 3) := ⟨_, rfl⟩
  have b2 : Below W1.heap.size W1 W2 := by rw [hW2]; exact below_alloc W1 _
  have z2 : W2.heap.size = w.heap.size + 3 := by rw [hW2]; simp [z1]
  have c2 : Cel W2 (w.heap.size + 2) [.int .i64 (v : Nat)] 3 := by rw [hW2, ← z1]; exact Cel.new W1 _ _
  go_wp2_with (at_make; rw [← hW2]; refine wpList_make_full _ rfl _ _ 22 rfl W2.heap.size 54 i6 (.int .u64 0) 1 Tryd.underlying22 hi6 za6 zb6 .i64 .i64 _ _ m rfl rfl rfl rfl ?b2 ?b3 ?b4 ?_)
  case b2 => rw [zc6]; omega
  case b3 => unfold maxLen; omega
  case b4 => exact Nat.le_refl _
  intro w3 hown hgr
  have b3 : Below W2.heap.size W2 w3 := by rw [hW2]; exact (Below.refl _ _).grown hgr (Nat.le_refl _) (fun k h => by cases h)
  have bb : Below w.heap.size w w3 := b1.trans ((b2.mono (by omega)).trans (b3.mono (by omega)))
  have hO : Own w3 (w.heap.size + 3) (List.replicate m 0) := own_made hown
  have z3 : w.heap.size + 4 ≤ w3.heap.size := hO.lt
  replace c0 := (c0.kept b2).kept b3
  replace c1 := (c1.kept b2).kept b3
  replace c2 := c2.kept b3
  obtain ⟨g4, zh⟩ : ∃ g, w3.heap.size = g := ⟨_, rfl⟩
  rw [zh] at z3
  clear hown hgr b1 b2 b3 hW2
  obtain ⟨W4, hW4⟩ : ∃ W4, W4 = w3.alloc (.cells #[.slice (some ⟨w.heap.size + 2 + 1, 0, none⟩) m m] 22) := ⟨_, rfl⟩
  have bA : Below w3.heap.size w3 W4 := by rw [hW4]; exact below_alloc w3 _
  have z4 : W4.heap.size = g4 + 1 := by rw [hW4]; simp [zh]
  have c4 : Cel W4 g4 [.slice (some ⟨w.heap.size + 3, 0, none⟩) m m] 22 := by rw [hW4, ← zh]; exact Cel.new w3 _ _
  have d0 : Cel (w3.alloc (.cells #[.slice (some ⟨w.heap.size + 2 + 1, 0, none⟩) m m] 22)) w.heap.size [.int .i64 (n : Nat), .slice ao xs.length cap] 24 := c0.alloc _
  have q0 := d0.cell 0 rfl
  have q1 := d0.cell 1 rfl
  have HW4 := hide9' hW4
  have HZH := hide9' zh
  clear hW4 zh
  go_wp2_with fail
  rw [← HW4.out, HZH.out]
  refine (OC.out _).mono ?_
  rintro e w' ⟨rfl, hw'⟩
  have zh := HZH.out
  have bC : Below W4.heap.size W4 w' := by rw [hw']; exact below_alloc W4 _
  have z5 : w'.heap.size = g4 + 2 := by rw [hw']; simp [z4]
  have c5 : Cel w' (g4 + 1) [.int .i64 (n : Nat), .slice ao xs.length cap] 24 := by rw [hw', ← z4]; exact Cel.new W4 _ _
  rw [z4]
  have bD : Below w3.heap.size w3 w' := bA.trans (bC.mono (by omega))
  have b4 : Below w.heap.size w w' := bb.trans (bD.mono (by omega))
  replace c0 := c0.kept bD
  replace c1 := c1.kept bD
  replace c2 := c2.kept bD
  replace c4 := c4.kept bC
  replace hO := hO.keep bD
  clear bA bb bC bD OC HW4 HZH hw' d0 q0 q1 z1 z2 zh z4
  go_wp2
  have G := GO.out w' (g4 + 1) (fun b => b ≠ w.heap.size + 3 ∧ b ≠ w'.heap.size + 1) (hx.keep b4) c5 (by omega) (fun p hp h0 => by have := hx.blk hp h0; omega)
  have I0 : Own w' (w.heap.size + 3) (nlq L v 0) := by
    rw [nlq_zero, ← HM.out]
    exact hO
  clear hO GO
  refine range_law (gf := 65) (lb := #[.pointer (some ⟨g4 + 1, 0, none⟩)]) (K := fun b => b ≠ w.heap.size + 3) rfl (enters_of Tryd.func65 (by kernel_rfl) rfl) (fun _ => rfl) G (fun b hb => by omega)
    (fun q Wc => Kept (fun b => b ≠ w.heap.size + 3) w' Wc ∧ Own Wc (w.heap.size + 3) (nlq L v q)) (fun q Wc => False) (fun q A B h hb => ⟨h.1.more hb (Nat.le_refl _), (hb.block (w.heap.size + 3) (by omega)).trans h.2⟩) (fun q A B h hb => h) ⟨Kept.refl _ _, I0⟩
    (fun q => { tmps := #[.agg #[.int .i64 (n : Nat), .slice ao xs.length cap], .int .i64 (m : Nat), .pointer (some ⟨w.heap.size, 0, none⟩), undef, .pointer (some ⟨w.heap.size + 1, 0, none⟩), .int .i64 0, .int .i64 (m : Nat), .pointer (some ⟨w.heap.size + 2, 0, none⟩), .pointer (some ⟨g4, 0, none⟩), .int .i64 (q : Nat), .int .i64 (gt L q : Nat), .tuple #[.int .i64 (m : Nat), .int .i64 (v : Nat)], .pointer (some ⟨w.heap.size, 0, none⟩), .int .i64 (n : Nat), .int .i64 (m : Nat), .tuple #[.int .i64 (m : Nat), .int .i64 (v : Nat)], .int .i64 (m : Nat), .int .i64 (v : Nat), .int .i64 (m : Nat), .slice (some ⟨w.heap.size + 3, 0, none⟩) m m, .int .i64 (m : Nat), .bool true, .agg #[.int .i64 (n : Nat), .slice ao xs.length cap], .func (.func 65) #[] #[.pointer (some ⟨g4 + 1, 0, none⟩)], .int .i64 (q : Nat), .int .i64 (gt L q : Nat), undef, undef, undef, undef, undef, undef, undef, undef, undef, undef, undef, undef, undef], defers := [] }) ?assign ?body ?done ?stop
  case assign =>
    intro l1 q Wc K1 hK1
    gi_wp2
    exact hK1
  case body =>
    rintro l1 q Wc hq ⟨hk, hO⟩ hz
    have cS := hk.cel c4 (by omega)
    have cV := hk.cel c2 (by omega)
    have qL : q < L.length := by rw [← HM.out]; exact hq
    have hlt := RS.1 q qL
    have NS := hide9' (nlq_set L v q qL)
    have r0 := hO.cell q (by rw [length_nlq]; exact qL)
    have r1 := hO.frozen q
    have hO2 := hide9' hO
    clear hO
    generalize gt L q = x at *
    have hq2 : (q : Int) < (m : Int) := by omega
    have xu : IntKind.u64.wrap (x : Int) = (x : Int) := by rw [IntKind.wrap_u64]; omega
    have AM : bits BinOp.and IntKind.u64 (x : Int) (maskI (v : Int)) = ((x % 2 ^ v : Nat) : Int) := by
      rw [and_mask _ _ (by omega) (by omega), Int.toNat_natCast, Int.toNat_natCast, show min v 64 = v by omega]
    generalize x % 2 ^ v = y at *
    generalize maskI (v : Int) = mk at *
    clear G
    gi_wp2_with fail
    refine region_i [8] (fun w0 => Cel w0 g4 [.slice (some ⟨w.heap.size + 3, 0, none⟩) m m] 22 ∧ Cel w0 (w.heap.size + 2) [.int .i64 (v : Nat)] 3) (by kernel_rfl) ?_
    have hS : (fun w0 : World => Cel w0 g4 [.slice (some ⟨w.heap.size + 3, 0, none⟩) m m] 22 ∧ Cel w0 (w.heap.size + 2) [.int .i64 (v : Nat)] 3) Wc.drew := ⟨cS, cV⟩
    refine AnyI.take 0 (v := ?vv1) (inRound_any _) rfl (by kernel_rfl) (by kernel_rfl) (by kernel_rfl) (by kernel_rfl) (by kernel_rfl) (fun _ _ _ h => h) hS ?hy1 (by rfl) ?rest1
    case hy1 =>
      intro w0 h0
      have := h0.1.cell 0 rfl
      go_simp
      try with_reducible rfl
    simp only [Act.put, List.getElem_toArray, List.getElem_cons_zero, List.getElem_cons_succ, List.setIfInBounds_toArray, List.set_cons_zero, List.set_cons_succ]
    refine AnyI.take 1 (v := ?vv2) (inRound_any _) rfl (by kernel_rfl) (by kernel_rfl) (by kernel_rfl) (by kernel_rfl) (by kernel_rfl) (fun _ _ _ h => h) hS ?hy2 (by rfl) ?rest2
    case hy2 =>
      intro w0 h0
      go_simp
      try with_reducible rfl
    simp only [Act.put, List.getElem_toArray, List.getElem_cons_zero, List.getElem_cons_succ, List.setIfInBounds_toArray, List.set_cons_zero, List.set_cons_succ]
    refine AnyI.take 2 (v := ?vv3) (inRound_any _) rfl (by kernel_rfl) (by kernel_rfl) (by kernel_rfl) (by kernel_rfl) (by kernel_rfl) (fun _ _ _ h => h) hS ?hy3 (by rfl) ?rest3
    case hy3 =>
      intro w0 h0
      go_simp
      try with_reducible rfl
    simp only [Act.put, List.getElem_toArray, List.getElem_cons_zero, List.getElem_cons_succ, List.setIfInBounds_toArray, List.set_cons_zero, List.set_cons_succ]
    refine AnyI.take 3 (v := ?vv4) (inRound_any _) rfl (by kernel_rfl) (by kernel_rfl) (by kernel_rfl) (by kernel_rfl) (by kernel_rfl) (fun _ _ _ h => h) hS ?hy4 (by rfl) ?rest4
    case hy4 =>
      intro w0 h0
      go_simp
      try with_reducible rfl
    simp only [Act.put, List.getElem_toArray, List.getElem_cons_zero, List.getElem_cons_succ, List.setIfInBounds_toArray, List.set_cons_zero, List.set_cons_succ]
    refine AnyI.take 4 (v := ?vv5) (inRound_any _) rfl (by kernel_rfl) (by kernel_rfl) (by kernel_rfl) (by kernel_rfl) (by kernel_rfl) (fun _ _ _ h => h) hS ?hy5 (by rfl) ?rest5
    case hy5 =>
      intro w0 h0
      have := h0.2.cell 0 rfl
      go_simp
      try with_reducible rfl
    simp only [Act.put, List.getElem_toArray, List.getElem_cons_zero, List.getElem_cons_succ, List.setIfInBounds_toArray, List.set_cons_zero, List.set_cons_succ]
    refine AnyI.one 5 (inRound_any _) (by kernel_rfl) rfl (fun _ h => by cases h) (by rfl) ?_
    intro K2 hK2
    go_simp
    refine ⟨rfl, ?_⟩
    refine (CallsIn.inRound l1 (callsIn_wide.2 (MK.out _))).mono ?_
    rintro e W3 ⟨rfl, h3⟩
    rw [h3]
    clear h3 W3
    refine hK2.out _ _ (fun _ => hS) ?_
    clear hK2 K2
    try simp only [Act.put, List.getElem_toArray, List.getElem_cons_zero, List.getElem_cons_succ, List.setIfInBounds_toArray, List.set_cons_zero, List.set_cons_succ]
    refine AnyI.take 6 (v := ?vv51) (inRound_any _) rfl (by kernel_rfl) (by kernel_rfl) (by kernel_rfl) (by kernel_rfl) (by kernel_rfl) (fun _ _ _ h => h) hS ?hy51 (by rfl) ?rest51
    case hy51 =>
      intro w0 h0
      go_simp
      try with_reducible rfl
    simp only [Act.put, List.getElem_toArray, List.getElem_cons_zero, List.getElem_cons_succ, List.setIfInBounds_toArray, List.set_cons_zero, List.set_cons_succ]
    refine AnyI.take 7 (v := ?vv52) (inRound_any _) rfl (by kernel_rfl) (by kernel_rfl) (by kernel_rfl) (by kernel_rfl) (by kernel_rfl) (fun _ _ _ h => h) hS ?hy52 (by rfl) ?rest52
    case hy52 =>
      intro w0 h0
      go_simp
      try with_reducible rfl
    simp only [Act.put, List.getElem_toArray, List.getElem_cons_zero, List.getElem_cons_succ, List.setIfInBounds_toArray, List.set_cons_zero, List.set_cons_succ]
    refine AnyI.one 8 (inRound_any _) (by kernel_rfl) rfl (fun _ h => by cases h) (by rfl) ?_
    intro K2 hK2
    go_simp
    have kT : Kept (fun b => b ≠ w.heap.size + 3) Wc (Wc.setCell ⟨w.heap.size + 3, q, none⟩ (.int .u64 (y : Nat))).drew := by
      have h := (Kept.refl (fun b => b ≠ w.heap.size + 3) Wc).setCell (p := ⟨w.heap.size + 3, q, none⟩) (fun h => h rfl) (.int .u64 (y : Nat))
      exact ⟨h.os, h.tape, h.output, h.size, h.same⟩
    have hO3 : Own (Wc.setCell ⟨w.heap.size + 3, q, none⟩ (.int .u64 (y : Nat))).drew (w.heap.size + 3) (nlq L v (q + 1)) := by
      rw [← NS.out]
      exact (hO2.out.set q y).drew'
    have HE := hide9' (And.intro kT (And.intro (hk.trans kT) hO3))
    clear kT hO3
    refine hK2.out _ _ (fun h => absurd (by decide) h) ?_
    clear hK2 K2
    refine AnyI.done (by kernel_rfl) ?_ _
    gi_wp2
    exact HE.out
  case done =>
    rintro D Wc hD ⟨hk, hO⟩ hd
    rw [HM.out, nlq_all L v hv0] at hO
    have cR := hk.cel c1 (by omega)
    have cS := hk.cel c4 (by omega)
    have cV := hk.cel c2 (by omega)
    have hb := b4.trans (hk.below (B := w.heap.size) (fun x h => by omega) (by omega))
    have DN : D ≠ w.heap.size + 1 ∧ w.heap.size ≤ D := ⟨by omega, by omega⟩
    have gN : w.heap.size + 1 < Wc.heap.size := cR.lt
    have M1 := hide9' (MC.out Wc (w.heap.size + 3) hO)
    have q0 := cV.cell 0 rfl
    have q1 := cS.cell 0 rfl
    clear hk c0 c1 c2 c4 c5 G hO MC
    go_wp2_with fail
    refine M1.out.mono ?_
    rintro e w4 ⟨g, k, rfl, hk2, hO4, hb4⟩
    replace cR := cR.kept hb4
    have hd4 : w4.heap[D]? = some (.deferred (some [])) := (hb4.block D (Array.getElem?_eq_some_iff.1 hd).1).trans hd
    have hgN : g ≠ w.heap.size + 1 := fun e => by
      rw [e] at hO4
      have h1 : w4.heap[w.heap.size + 1]? = _ := hO4
      rw [show w4.heap[w.heap.size + 1]? = _ from cR] at h1
      simp only [Option.some.injEq, Obj.cells.injEq] at h1
      exact absurd h1.2.1 (by decide)
    have hgD : g ≠ D := fun e => by
      rw [e] at hO4
      have h1 : w4.heap[D]? = _ := hO4
      rw [hd4] at h1
      cases h1
    have b5 := hb.trans (hb4.mono hb.size)
    clear hb4 q0 q1 cS cV hd
    go_wp2_with (refine store_cel (w.heap.size + 1) [.int .i64 0, .int .i64 0, .int .i64 0, .slice none 0 0] _ rfl rfl cR rfl ginfo_i (by simp [Value.oneCell']) ?_)
    intro w5 B3 O3
    have b6 := b5.trans (O3.below (Nat.le_succ _))
    have hO5 : Own w5 g (mkS (loP L v) v m) := (O3.block g hgN).trans hO4
    have hd5 : w5.heap[D]? = some (.deferred (some [])) := (O3.block D DN.1).trans hd4
    have HZ := hide9' (And.intro B3 (And.intro hO5 (And.intro hd5 (And.intro b6 hk2))))
    clear B3 O3 hO5 hd5 b5 b6 hd4 hO4 cR hk2
    go_wp2
    obtain ⟨B3, hO5, hd5, b6, hk2⟩ := HZ.out
    have cR2 := B3.put (.deferred none) (show w.heap.size + 1 ≠ D from fun e => DN.1 e.symm)
    have hO6 : Own (w5.putObj D (.deferred none)) g (mkS (loP L v) v m) := (World.putObj_heap_other hgD).trans hO5
    exact marks_ret hd5 (result_cel rfl (w.heap.size + 1) _ rfl cR2 Tryd.underlying28 ginfo_i) ⟨g, _, rfl, rfl, hO6, b6.trans (below_putObj DN.2 _)⟩
  case stop =>
    rintro D q Wc hD hq h hd
    exact h.elim
end Go.Proofs.YtjkihmjbhiiknaaDoor

namespace Go.Proofs.YtjkihmjbhiiknaaDoor
open Num Bit
set_option linter.unusedVariables false

abbrev RA := FA
def fSame (a b : FA) : Bool := decide (a.N = b.N) && decide (a.M = b.M) && (decide (a.k = b.k) && decide (a.V = b.V) && (decide (a.LM = b.LM) && decide (a.xs = b.xs))) && (decide (a.H = b.H) && decide (a.ys = b.ys))
theorem fSame_iff (a b : FA) : fSame a b = true ↔ a = b := by
  obtain ⟨a1, a2, a3, a4, a5, a6, a7, a8⟩ := a
  obtain ⟨b1, b2, b3, b4, b5, b6, b7, b8⟩ := b
  unfold fSame
  simp only [Bool.and_eq_true, decide_eq_true_eq, FA.mk.injEq]
  constructor
  · rintro ⟨⟨⟨rfl, rfl⟩, ⟨rfl, rfl⟩, rfl, rfl⟩, rfl, rfl⟩
    exact ⟨rfl, rfl, rfl, rfl, rfl, rfl, rfl, rfl⟩
  · rintro ⟨rfl, rfl, rfl, rfl, rfl, rfl, rfl, rfl⟩
    exact ⟨⟨⟨rfl, rfl⟩, ⟨rfl, rfl⟩, rfl, rfl⟩, rfl, rfl⟩
def kOk (a : RA) : Bool :=
  match fRow a with
  | some l => fSame a (fOf a.N.toNat l)
  | none => false
def kRow (a : RA) : List Nat := (fRow a).getD []
def kBN (a : RA) : Int := if kOk a = true then a.N else 0
def kBX (a : RA) : List Nat := if kOk a = true then rowOf a.N.toNat (isIn (kRow a)) else []
def kZ (a : RA) : Int := if kOk a = true then a.LM + a.H + 64 else 0
def kB (N : Int) (xs : List Nat) : RA := if chk N xs = true then fOf N.toNat (plc (bitAt xs) N.toNat) else ⟨0, 0, 0, 0, 0, [], 0, []⟩
def kE (N : Int) (xs : List Nat) : Int := if chk N xs = true then 0 else 2
theorem kOk_row (a : RA) (h : kOk a = true) : fRow a = some (kRow a) ∧ a = fOf a.N.toNat (kRow a) := by
  unfold kOk at h
  unfold kRow
  cases e : fRow a with
  | none => rw [e] at h; cases h
  | some l =>
    rw [e] at h
    exact ⟨rfl, (fSame_iff _ _).1 h⟩

theorem fdec_get (n w : Nat) (lo hi : List Nat) : ∀ q out, fdec n w lo hi q = some out → ∀ j, j < q → gt out j = fpl w lo hi j := by
  intro q
  induction q with
  | zero => intro out _ j hj; omega
  | succ q ih =>
    intro out h j hj
    rw [fdec] at h
    cases hq : fdec n w lo hi q with
    | none => rw [hq] at h; cases h
    | some o =>
      rw [hq] at h
      have hlen := (fdec_len n w lo hi q o hq).1
      simp only at h
      split at h
      · cases h
      · obtain rfl := Option.some.inj h
        by_cases c : j < q
        · rw [gt_app_l o _ j (by omega)]; exact ih o hq j c
        · obtain rfl : j = o.length := by omega
          rw [gt_app_r, hlen]
theorem gt_rmap (m : Nat) (f : Nat → Nat) (i : Nat) (h : i < m) : gt ((List.range m).map f) i = f i := by
  unfold gt
  rw [List.getD_eq_getElem?_getD, List.getElem?_map, List.getElem?_range h]
  rfl
theorem fdec_some (n w : Nat) (lo hi : List Nat) : ∀ m, (∀ q, q < m → fpl w lo hi q < n ∧ (0 < q → fpl w lo hi (q - 1) < fpl w lo hi q)) → fdec n w lo hi m = some ((List.range m).map (fpl w lo hi)) := by
  intro m
  induction m with
  | zero => intro _; rfl
  | succ m ih =>
    intro h
    rw [fdec, ih (fun q hq => h q (by omega))]
    simp only
    obtain ⟨h1, h2⟩ := h m (by omega)
    rw [if_neg, List.range_succ, List.map_append]
    · rfl
    · rintro (c | ⟨c1, c2⟩)
      · omega
      · rw [gt_rmap m _ _ (by omega)] at c2
        have := h2 c1
        omega

/-- Its places rise below N. -/
def Good (n mm : Nat) (p : Nat → Nat) : Prop := ∀ q, q < mm → p q < n ∧ (0 < q → p (q - 1) < p q)
/-- What may be fits, and its places are those of its row. -/
theorem ok_fits (n mm kn vn hh : Nat) (LM : Int) (xs ys : List Nat) (h : kOk ⟨n, mm, kn, vn, LM, xs, hh, ys⟩ = true) :
    Fits n mm kn vn LM xs hh ys ∧ (kRow ⟨n, mm, kn, vn, LM, xs, hh, ys⟩).length = mm ∧ (∀ q, q < mm → plq n mm xs hh ys q = gt (kRow ⟨n, mm, kn, vn, LM, xs, hh, ys⟩) q) ∧ Rise (kRow ⟨n, mm, kn, vn, LM, xs, hh, ys⟩) n := by
  obtain ⟨h1, h2⟩ := kOk_row _ h
  generalize kRow ⟨n, mm, kn, vn, LM, xs, hh, ys⟩ = l at *
  unfold fRow at h1
  simp only [Int.toNat_natCast] at h1
  split at h1
  · rename_i c
    obtain ⟨⟨c1, c2, c3, c4⟩, c5, c6, c7, c8⟩ := c
    have c7 : (plc (bitAt ys) hh).length = mm := by omega
    obtain ⟨l1, l2⟩ := fdec_len _ _ _ _ _ _ h1
    rw [c7] at l1
    have l3 := fdec_get _ _ _ _ _ _ h1
    rw [c7] at l3
    simp only [Int.toNat_natCast, fOf, FA.mk.injEq, l1] at h2
    obtain ⟨-, -, e3, e4, -, -, e7, -⟩ := h2
    have F : Fits n mm kn vn LM xs hh ys := by
      refine ⟨by omega, by omega, c5, c6, c7, by omega, ?_, ?_⟩
      · unfold loN
        by_cases c : wdF n mm = 0
        · rw [if_pos c]
          rw [c] at e3
          have : loP l 0 = [] := rfl
          rw [this] at e3
          simp at e3
          omega
        · rw [if_neg c]
          rw [length_loP l _ (by omega)] at e3
          omega
      · unfold hiN at e7
        rw [l1] at e7
        omega
    exact ⟨F, l1, fun q hq => by rw [l3 q hq, fpl_plq F q hq], l2⟩
  · cases h1
theorem plq_parts (n mm : Nat) (xs : List Nat) (hh : Nat) (ys : List Nat) (q : Nat) : plq n mm xs hh ys q / 2 ^ wdF n mm = gt (plc (bitAt ys) hh) q - q ∧ plq n mm xs hh ys q % 2 ^ wdF n mm = numAt (wdF n mm) xs q := by
  unfold plq
  have h : numAt (wdF n mm) xs q < 2 ^ wdF n mm := numOf_lt _ _
  have hp := Nat.two_pow_pos (wdF n mm)
  rw [Nat.mul_comm, Nat.mul_add_div hp, Nat.mul_add_mod, Nat.mod_eq_of_lt h, Nat.div_eq_of_lt h]
  exact ⟨rfl, rfl⟩
theorem isIn_plc (f : Nat → Bool) (n j : Nat) : isIn (plc f n) j = (decide (j < n) && f j) := by
  rw [Bool.eq_iff_iff, mem_isIn, mem_plc, Bool.and_eq_true, decide_eq_true_eq]
/-- What fits, and whose places rise below N, may be. -/
theorem fits_ok (n mm kn vn hh : Nat) (LM : Int) (xs ys : List Nat) (fx : Fit xs) (fy : Fit ys) (F : Fits n mm kn vn LM xs hh ys) (G : Good n mm (plq n mm xs hh ys)) : kOk ⟨n, mm, kn, vn, LM, xs, hh, ys⟩ = true := by
  have hd : fdec n (wdF n mm) ((List.range kn).map (numAt vn xs)) (plc (bitAt ys) hh) mm = some ((List.range mm).map (plq n mm xs hh ys)) := by
    rw [fdec_some _ _ _ _ mm]
    · congr 1
      refine List.map_congr_left fun q hq => ?_
      exact fpl_plq F q (List.mem_range.1 hq)
    · intro q hq
      rw [fpl_plq F q hq]
      obtain ⟨g1, g2⟩ := G q hq
      refine ⟨g1, fun h0 => ?_⟩
      rw [fpl_plq F (q - 1) (by omega)]
      exact g2 h0
  have hrow : fRow ⟨n, mm, kn, vn, LM, xs, hh, ys⟩ = some ((List.range mm).map (plq n mm xs hh ys)) := by
    unfold fRow
    simp only [Int.toNat_natCast, F.on]
    rw [if_pos]
    · exact hd
    · refine ⟨⟨by omega, by have := F.hn; omega, by omega, by have := F.hm; omega⟩, F.ik, F.ck, trivial, ?_⟩
      by_cases c : wdF n mm = 0
      · exact .inl c
      · right
        rw [List.length_map, List.length_range, F.hk]
        unfold loN
        rw [if_neg c]
  unfold kOk
  rw [hrow]
  simp only [Int.toNat_natCast]
  rw [fSame_iff]
  obtain ⟨l, hl⟩ : ∃ l, l = (List.range mm).map (plq n mm xs hh ys) := ⟨_, rfl⟩
  have ll : l.length = mm := by rw [hl]; simp
  have lg : ∀ q, q < mm → gt l q = plq n mm xs hh ys q := fun q hq => by rw [hl]; exact gt_rmap mm _ q hq
  rw [← hl]
  have RS := plc_rise (bitAt ys) hh
  have e_hi : hiP l (wdF n mm) = plc (bitAt ys) hh := by
    refine Bit.list_ext _ _ (by rw [length_hiP, ll, F.on]) fun i hi => ?_
    rw [length_hiP, ll] at hi
    rw [gt_hiP l _ i (by omega), lg i hi, (plq_parts n mm xs hh ys i).1]
    have := RS.step i 0 (by rw [F.on]; omega)
    rw [Nat.zero_add] at this
    omega
  obtain ⟨v1, v2, v3, v4, v5, v6, v7, v8⟩ := ichk_out _ _ _ _ F.ik
  have e_lo : (loP l (wdF n mm)).length = kn := by
    rw [F.hk]
    unfold loN
    by_cases c : wdF n mm = 0
    · rw [if_pos c, c]; rfl
    · rw [if_neg c, length_loP l _ (by omega), ll]
  have e_xs : mkS (loP l (wdF n mm)) vn kn = xs := by
    have hx := chk_row LM xs fx v5
    rw [hx]
    unfold mkS
    rw [e_lo, show LM.toNat = kn * vn by rw [← v4, ← Int.natCast_mul, Int.toNat_natCast]]
    refine rowOf_congr _ _ _ fun j hj => ?_
    rw [decide_eq_true hj, Bool.true_and]
    have hw : ¬ wdF n mm = 0 := fun c => by
      have h0 : kn = 0 := by rw [F.hk]; unfold loN; rw [if_pos c]
      rw [h0, Nat.zero_mul] at hj
      omega
    have e1 : vn = wdF n mm := by rw [F.hv]; omega
    have e2 : kn = mm := by rw [F.hk]; unfold loN; rw [if_neg hw]
    have hv0 : 0 < vn := by omega
    have hq : j / vn < mm := by rw [← e2]; exact (Nat.div_lt_iff_lt_mul hv0).2 hj
    have hmod : j % vn < vn := Nat.mod_lt _ hv0
    rw [gt_loP l _ _ (by omega) (by omega), lg _ hq, (plq_parts n mm xs hh ys _).2, ← e1]
    unfold numAt
    rw [testBit_numOf, decide_eq_true hmod, Bool.true_and, Nat.mul_comm, Nat.div_add_mod]
  unfold fOf
  simp only [FA.mk.injEq, ll]
  have hv : ((max (wdF n mm) 1 : Nat) : Int) = (vn : Int) := by rw [F.hv]
  have hv2 : max (wdF n mm) 1 = vn := F.hv.symm
  refine ⟨trivial, trivial, by rw [e_lo], hv.symm, ?_, ?_, ?_, ?_⟩
  · rw [e_lo, hv, v4]
  · rw [hv2, e_lo, e_xs]
  · unfold hiN
    rw [ll, F.hh]
  · rw [e_hi]
    have e3 : hiN l n (wdF n mm) = hh := by unfold hiN; rw [ll, F.hh]
    rw [e3]
    have hy := chk_row (hh : Int) ys fy F.ck
    rw [Int.toNat_natCast] at hy
    rw [rowOf_congr hh _ (bitAt ys) fun j hj => by rw [isIn_plc, decide_eq_true hj, Bool.true_and]]
    exact hy
end Go.Proofs.YtjkihmjbhiiknaaDoor

namespace Go.Proofs.YtjkihmjbhiiknaaDoor
open Go.RowKit Num Bit
set_option linter.unusedVariables false
set_option maxRecDepth 100000

def I64 (n : Int) : Prop := -9223372036854775808 ≤ n ∧ n ≤ 9223372036854775807
/-- These cells hold this row by places. -/
def KArg (w : World) (cs : List Value) (a : RA) : Prop := ∃ ao cap qo dap, cs = [.int .i64 a.N, .int .i64 a.M, .int .i64 a.k, .int .i64 a.V, .int .i64 a.LM, .slice ao a.xs.length cap, .int .i64 a.H, .slice qo a.ys.length dap] ∧ (I64 a.N ∧ I64 a.M ∧ I64 a.k ∧ I64 a.V ∧ I64 a.LM ∧ I64 a.H) ∧ Wd w ao a.xs ∧ Fit a.xs ∧ a.xs.length ≤ cap ∧ Wd w qo a.ys ∧ Fit a.ys ∧ a.ys.length ≤ dap
structure KI (w : World) (cs : List Value) (a : RA) : Prop where
  arg : KArg w cs a
  n3 : a.N ≤ 3000
  xl : a.xs.length ≤ 1048576
  yl : a.ys.length ≤ 1048576
theorem KArg.keep {w w' : World} {cs : List Value} {a : RA} (h : KArg w cs a) (hb : Below w.heap.size w w') : KArg w' cs a := by
  obtain ⟨ao, cap, qo, dap, e, r, a1, a2, a3, a4, a5, a6⟩ := h
  exact ⟨ao, cap, qo, dap, e, r, a1.keep hb, a2, a3, a4.keep hb, a5, a6⟩
theorem KI.keep {w w' : World} {cs : List Value} {a : RA} (h : KI w cs a) (hb : Below w.heap.size w w') : KI w' cs a := ⟨h.arg.keep hb, h.n3, h.xl, h.yl⟩
theorem KArg.len {w : World} {cs : List Value} {a : RA} (h : KArg w cs a) : (Tryd.prog.info? 30).map (·.size) = some cs.length := by
  obtain ⟨ao, cap, qo, dap, rfl, _⟩ := h
  kernel_rfl
theorem KArg.nine {w : World} {cs : List Value} {a : RA} (h : KArg w cs a) : 8 = cs.length := by
  obtain ⟨ao, cap, qo, dap, rfl, _⟩ := h
  rfl
theorem KArg.one {w : World} {cs : List Value} {a : RA} (h : KArg w cs a) : cs.toArray.all (·.oneCell') = true := by
  obtain ⟨ao, cap, qo, dap, rfl, _⟩ := h
  simp [Value.oneCell']

theorem kRow_n (a : RA) (h : kOk a = true) : 0 ≤ a.N ∧ a.N ≤ 1048576 ∧ Rise (kRow a) a.N.toNat := by
  obtain ⟨h1, _⟩ := kOk_row a h
  unfold fRow at h1
  simp only at h1
  split at h1
  · rename_i c
    obtain ⟨⟨c1, c2, c3, c4⟩, c5, c6, c7, c8⟩ := c
    exact ⟨c1, c2, (fdec_len _ _ _ _ _ _ h1).2⟩
  · cases h1
theorem kB_chk (a : RA) (h : kOk a = true) : chk (kBN a) (kBX a) = true := by
  obtain ⟨h0, h1, _⟩ := kRow_n a h
  unfold kBN kBX
  rw [if_pos h, if_pos h]
  have := chk_rowOf a.N.toNat (isIn (kRow a)) (by omega)
  rw [Int.toNat_of_nonneg h0] at this
  exact this
theorem kB_fit (a : RA) : Fit (kBX a) := by
  unfold kBX
  split
  · exact fit_rowOf _ _
  · intro i; unfold gt; simp
theorem kB_len (a : RA) : (kBX a).length ≤ 1048576 := by
  unfold kBX
  split
  · rename_i h
    obtain ⟨h0, h1, _⟩ := kRow_n a h
    rw [length_rowOf]
    omega
  · simp
theorem plc_cnt (xs : List Nat) (n : Nat) : (plc (bitAt xs) n).length = cntB xs n := by
  induction n with
  | zero => rfl
  | succ n ih =>
    rw [plc_succ, List.length_append, ih]
    show _ = cntB xs n + (if bitAt xs n then 1 else 0)
    cases bitAt xs n <;> rfl
theorem bit_row (n : Nat) (l : List Nat) (hr : Rise l n) (i : Nat) : bitAt (rowOf n (isIn l)) i = isIn l i := by
  rw [bitAt_rowOf]
  by_cases c : i < n
  · rw [decide_eq_true c, Bool.true_and]
  · rw [decide_eq_false c, Bool.false_and]
    symm
    refine Bool.eq_false_iff.2 fun h => ?_
    obtain ⟨j, hj, e⟩ := (isIn_iff l i).1 h
    have := hr.1 j hj
    omega
/-- How many places lie below i. -/
theorem cut_cnt {n : Nat} {l : List Nat} (hr : Rise l n) (i : Nat) : Cut l i (cntB (rowOf n (isIn l)) i) := by
  induction i with
  | zero => exact ⟨Nat.zero_le _, fun j hj => absurd hj (by show ¬ j < 0; omega), fun j _ _ => Nat.zero_le _⟩
  | succ i ih =>
    have e : cntB (rowOf n (isIn l)) (i + 1) = cntB (rowOf n (isIn l)) i + (if isIn l i then 1 else 0) := by
      show _ + (if bitAt _ i then 1 else 0) = _
      rw [bit_row n l hr]
    generalize cntB (rowOf n (isIn l)) i = c at *
    rw [e]
    cases hb : isIn l i with
    | false =>
      simp only [Bool.false_eq_true, if_false, Nat.add_zero]
      refine ⟨ih.le, fun j hj => by have := ih.lo j hj; omega, fun j hj hl => ?_⟩
      have h1 := ih.hi j hj hl
      refine Nat.lt_of_le_of_ne h1 fun e2 => ?_
      rw [e2, isIn_get l j hl] at hb
      cases hb
    | true =>
      obtain ⟨j, hj, ej⟩ := (isIn_iff l i).1 hb
      have jc : j = c := by
        by_cases c1 : j < c
        · have := ih.lo j c1; omega
        · by_cases c2 : c < j
          · have h1 := hr.lt c2 hj
            have h2 := ih.hi c (Nat.le_refl _) (by omega)
            omega
          · omega
      subst jc
      simp only [if_true]
      refine ⟨by omega, fun t ht => ?_, fun t ht hl => ?_⟩
      · by_cases e3 : t = j
        · subst e3; omega
        · have := ih.lo t (by omega); omega
      · have := hr.lt (show j < t by omega) hl
        omega
theorem cut_one {n : Nat} {l : List Nat} (hr : Rise l n) (k : Nat) (hk : k < l.length) : bitAt (rowOf n (isIn l)) (gt l k) = true ∧ cntB (rowOf n (isIn l)) (gt l k) = k := by
  refine ⟨by rw [bit_row n l hr]; exact isIn_get l k hk, ?_⟩
  exact (cut_cnt hr (gt l k)).eq (by omega) (fun j hj => hr.lt hj hk) (fun _ => Nat.le_refl _)
theorem cut_all {n : Nat} {l : List Nat} (hr : Rise l n) : cntB (rowOf n (isIn l)) n = l.length :=
  (cut_cnt hr n).eq (Nat.le_refl _) (fun j hj => hr.1 j hj) (fun h => absurd h (by omega))
/-- The bit that is 0 and has k such ahead. -/
theorem cut_zero {n : Nat} {l : List Nat} (hr : Rise l n) (k : Nat) (hk : k < n - l.length) : ∃ c, CutZ l k c ∧ k + c < n ∧ bitAt (rowOf n (isIn l)) (k + c) = false ∧ (k + c) - cntB (rowOf n (isIn l)) (k + c) = k := by
  have hlen := hr.len
  -- the first place that has more than k noughts ahead
  have ex : ∀ d, d ≤ l.length → (∃ c, CutZ l k c) ∨ (∀ j, j < d → gt l j - j ≤ k) := by
    intro d
    induction d with
    | zero => intro _; exact .inr fun j hj => absurd hj (by omega)
    | succ d ih =>
      intro hd
      rcases ih (by omega) with h | h
      · exact .inl h
      · by_cases c : k < gt l d - d
        · exact .inl ⟨d, by omega, h, fun _ => c⟩
        · exact .inr fun j hj => by
            by_cases e : j = d
            · subst e; omega
            · exact h j (by omega)
  have hc : ∃ c, CutZ l k c := by
    rcases ex l.length (Nat.le_refl _) with h | h
    · exact h
    · exact ⟨l.length, Nat.le_refl _, h, fun h => absurd h (by omega)⟩
  obtain ⟨c, hc⟩ := hc
  have hst : ∀ j, j < l.length → j ≤ gt l j := fun j hj => by
    have := hr.step j 0 (by omega)
    rw [Nat.zero_add] at this
    omega
  have h1 : ∀ j, j < c → gt l j < k + c := fun j hj => by
    have := hc.lo j hj
    have := hc.le
    have := hst j (by omega)
    omega
  have h2 : c < l.length → k + c < gt l c := fun h => by
    have := hc.hi h
    have := hst c h
    omega
  have hn : k + c < n := by
    by_cases e : c < l.length
    · have := h2 e
      have := hr.1 c e
      omega
    · have := hc.le
      omega
  have hcnt : cntB (rowOf n (isIn l)) (k + c) = c := (cut_cnt hr (k + c)).eq hc.le h1 (fun h => Nat.le_of_lt (h2 h))
  refine ⟨c, hc, hn, ?_, by omega⟩
  rw [bit_row n l hr]
  refine Bool.eq_false_iff.2 fun h => ?_
  obtain ⟨j, hj, e⟩ := (isIn_iff l _).1 h
  by_cases a : j < c
  · have := h1 j a; omega
  · by_cases b : j = c
    · subst b; have := h2 hj; omega
    · have := hr.lt (show c < j by omega) hj
      have := h2 (by omega)
      omega
end Go.Proofs.YtjkihmjbhiiknaaDoor

namespace Go.Proofs.YtjkihmjbhiiknaaDoor
open Go.RowKit Num Bit

theorem bones_lo (N : Int) (ao : Option Addr) (xs : List Nat) (cap : Nat) (n : Int) (w : World) (hx : Wd w ao xs) (hg : Fit xs) (hcap : xs.length ≤ cap) (hnN : n ≤ N) :
    Calls Tryd.prog 31 #[.agg #[.int .i64 N, .slice ao xs.length cap], .int .i64 n] w fun e w' => e = .returned (.int .i64 (onesI N xs n)) ∧ Below w.heap.size w w' := by
  have K : ∀ o, Wd (w.alloc o) ao xs := fun o => hx.keep (below_alloc w o)
  have hM : min n N = n := by omega
  cases hk : chk N xs with
  | false =>
    have R : Hid (0 = onesI N xs n) := by unfold onesI Hid; rw [hk]; rfl
    clear hM
    go_enter Tryd.func31, Tryd.ntmps31
    go_wp2_with (go_at_call 30; refine (check_c _ _ _ _ _ (K _)).mono ?_; rintro e w' ⟨rfl, hb⟩; obtain ⟨c0, c1, hz, hw⟩ := box_cells hb; clear hb)
    go_ret
    exact ⟨ret_int R.out, by assumption⟩
  | true =>
    obtain ⟨hc0, hc1, hc2, _⟩ := chk_out N xs hk
    by_cases hm : n ≤ 0
    · have R : Hid (0 = onesI N xs n) := by unfold onesI Hid; rw [hk, hM, show (n).toNat = 0 by omega]; rfl
      clear hM
      go_enter Tryd.func31, Tryd.ntmps31
      go_wp2_with (go_at_call 30; refine (check_c _ _ _ _ _ (K _)).mono ?_; rintro e w' ⟨rfl, hb⟩; obtain ⟨c0, c1, hz, hw⟩ := box_cells hb; clear hb)
      go_ret
      exact ⟨ret_int R.out, by assumption⟩
    · obtain ⟨m, rfl⟩ := Int.eq_ofNat_of_zero_le (show 0 ≤ n by omega)
      obtain ⟨b, off, rfl, hb, hc⟩ := hx (by omega)
      have R : Hid (((cntB xs m : Nat) : Int) = onesI N xs (m : Int)) := by unfold onesI Hid; rw [hk, hM]; rfl
      have HC : Hid (∀ i, i < xs.length → w.cell? ⟨b, off + i, none⟩ = some (.int .u64 (gt xs i))) := hc
      have hl1 : m / 64 ≤ xs.length := by omega
      have hm0 : decide (m = 0) = false := by simp; omega
      have hm1 : (m == 0) = false := by simp; omega
      have hl2 : m / 64 ≤ cap := by omega
      have hl3 : m ≤ 1048576 := by omega
      have HL : Hid (m % 64 = 0 ∨ m / 64 < xs.length) := by unfold Hid; omega
      have hl5 : (m : Int) / 64 ≤ (cap : Int) := by omega
      clear hM hc hc2
      go_enter Tryd.func31, Tryd.ntmps31
      go_wp2_with (go_at_call 30; refine (check_c _ _ _ _ _ (K _)).mono ?_; rintro e w' ⟨rfl, hb⟩; obtain ⟨c0, c1, hz, hw⟩ := box_cells hb; clear hb)
      go_loop [5, 26] (fun c i => ∃ k t : Nat, k ≤ m / 64 ∧ t ≤ 64 * k ∧ i = .int .i64 k ∧ c = .int .i64 t ∧ Hid (t = cntB xs (64 * k))) (fun _ i => m / 64 - (intOf i).toNat)
      case atStart => exact ⟨0, 0, by omega, by omega, rfl, rfl, rfl⟩
      case round =>
        obtain ⟨k, t, hk1, ht, rfl, rfl, H⟩ := hrel
        by_cases hlt : k < m / 64
        · have hck := (hw.cell (p := ⟨b, off + k, none⟩) (by assumption)).trans (HC.out k (by omega))
          have hf := hg k
          have hp := pop_bounds (gt xs k)
          go_wp2_with (go_at_call 49; refine (pop_c _ ?_ ?_ _).mono ?_; exact Int.natCast_nonneg _; exact Int.ofNat_lt.2 hf; rintro e w' ⟨rfl, rfl⟩)
          go_round
          case rel =>
            refine ⟨k + 1, t + cnt (gt xs k) 64, by omega, ?_, by go_num, ?_, ?_⟩
            · have := cnt_le (gt xs k) 64
              omega
            · unfold popI; rw [Int.toNat_natCast]; go_num
            · have e := cntB_word xs k 64 (by omega)
              rw [show 64 * (k + 1) = 64 * k + 64 by omega, e, ← H.out]
              rfl
          case measure => simp only [intOf]; omega
        · have hkm : k = m / 64 := by omega
          have HT : Hid (t = cntB xs (64 * (m / 64))) := by rw [← hkm]; exact H.out
          clear H
          by_cases hz0 : m % 64 = 0
          · have R2 : Hid ((t : Int) = onesI N xs (m : Int)) := by
              unfold Hid
              rw [← R.out, HT.out, show 64 * (m / 64) = m by omega]
            have hz1 : ¬ 0 < (m : Int) % 64 := by omega
            clear hkm
            go_wp2
            go_ret
            exact ⟨ret_int R2.out, by assumption⟩
          · have hz1 : 0 < (m : Int) % 64 := by omega
            have hl6 : m / 64 < xs.length := by have := HL.out; omega
            have hl7 : (m : Int) / 64 < (xs.length : Int) := by omega
            have hck := (hw.cell (p := ⟨b, off + m / 64, none⟩) (by assumption)).trans (HC.out (m / 64) hl6)
            have hf := hg (m / 64)
            have hp := rank_bounds (gt xs (m / 64)) ((m : Int) % 64)
            have R2 : Hid ((t : Int) + rankI (gt xs (m / 64)) ((m : Int) % 64) = onesI N xs (m : Int)) := by
              unfold Hid
              rw [← R.out, HT.out]
              have e := cntB_word xs (m / 64) (m % 64) (by omega)
              rw [show 64 * (m / 64) + m % 64 = m by omega] at e
              rw [e]
              unfold rankI
              rw [Int.toNat_natCast, show min ((m : Int) % 64).toNat 64 = m % 64 by omega]
              omega
            clear hkm
            go_wp2_with (go_at_call 50; refine (rank_c _ _ ?_ ?_ _).mono ?_; exact Int.natCast_nonneg _; exact Int.ofNat_lt.2 hf; rintro e w' ⟨rfl, rfl⟩)
            go_ret
            exact ⟨ret_int R2.out, by assumption⟩

theorem bones_hi (N : Int) (ao : Option Addr) (xs : List Nat) (cap : Nat) (n : Int) (w : World) (hx : Wd w ao xs) (hg : Fit xs) (hcap : xs.length ≤ cap) (hnN : N < n) :
    Calls Tryd.prog 31 #[.agg #[.int .i64 N, .slice ao xs.length cap], .int .i64 n] w fun e w' => e = .returned (.int .i64 (onesI N xs n)) ∧ Below w.heap.size w w' := by
  have K : ∀ o, Wd (w.alloc o) ao xs := fun o => hx.keep (below_alloc w o)
  have hM : min n N = N := by omega
  cases hk : chk N xs with
  | false =>
    have R : Hid (0 = onesI N xs n) := by unfold onesI Hid; rw [hk]; rfl
    clear hM
    go_enter Tryd.func31, Tryd.ntmps31
    go_wp2_with (go_at_call 30; refine (check_c _ _ _ _ _ (K _)).mono ?_; rintro e w' ⟨rfl, hb⟩; obtain ⟨c0, c1, hz, hw⟩ := box_cells hb; clear hb)
    go_ret
    exact ⟨ret_int R.out, by assumption⟩
  | true =>
    obtain ⟨hc0, hc1, hc2, _⟩ := chk_out N xs hk
    by_cases hm : N ≤ 0
    · have R : Hid (0 = onesI N xs n) := by unfold onesI Hid; rw [hk, hM, show (N).toNat = 0 by omega]; rfl
      clear hM
      go_enter Tryd.func31, Tryd.ntmps31
      go_wp2_with (go_at_call 30; refine (check_c _ _ _ _ _ (K _)).mono ?_; rintro e w' ⟨rfl, hb⟩; obtain ⟨c0, c1, hz, hw⟩ := box_cells hb; clear hb)
      go_ret
      exact ⟨ret_int R.out, by assumption⟩
    · obtain ⟨m, rfl⟩ := Int.eq_ofNat_of_zero_le (show 0 ≤ N by omega)
      obtain ⟨b, off, rfl, hb, hc⟩ := hx (by omega)
      have R : Hid (((cntB xs m : Nat) : Int) = onesI (m : Int) xs n) := by unfold onesI Hid; rw [hk, hM]; rfl
      have HC : Hid (∀ i, i < xs.length → w.cell? ⟨b, off + i, none⟩ = some (.int .u64 (gt xs i))) := hc
      have hl1 : m / 64 ≤ xs.length := by omega
      have hm0 : decide (m = 0) = false := by simp; omega
      have hm1 : (m == 0) = false := by simp; omega
      have hl2 : m / 64 ≤ cap := by omega
      have hl3 : m ≤ 1048576 := by omega
      have HL : Hid (m % 64 = 0 ∨ m / 64 < xs.length) := by unfold Hid; omega
      have hl5 : (m : Int) / 64 ≤ (cap : Int) := by omega
      clear hM hc hc2
      go_enter Tryd.func31, Tryd.ntmps31
      go_wp2_with (go_at_call 30; refine (check_c _ _ _ _ _ (K _)).mono ?_; rintro e w' ⟨rfl, hb⟩; obtain ⟨c0, c1, hz, hw⟩ := box_cells hb; clear hb)
      go_loop [5, 26] (fun c i => ∃ k t : Nat, k ≤ m / 64 ∧ t ≤ 64 * k ∧ i = .int .i64 k ∧ c = .int .i64 t ∧ Hid (t = cntB xs (64 * k))) (fun _ i => m / 64 - (intOf i).toNat)
      case atStart => exact ⟨0, 0, by omega, by omega, rfl, rfl, rfl⟩
      case round =>
        obtain ⟨k, t, hk1, ht, rfl, rfl, H⟩ := hrel
        by_cases hlt : k < m / 64
        · have hck := (hw.cell (p := ⟨b, off + k, none⟩) (by assumption)).trans (HC.out k (by omega))
          have hf := hg k
          have hp := pop_bounds (gt xs k)
          go_wp2_with (go_at_call 49; refine (pop_c _ ?_ ?_ _).mono ?_; exact Int.natCast_nonneg _; exact Int.ofNat_lt.2 hf; rintro e w' ⟨rfl, rfl⟩)
          go_round
          case rel =>
            refine ⟨k + 1, t + cnt (gt xs k) 64, by omega, ?_, by go_num, ?_, ?_⟩
            · have := cnt_le (gt xs k) 64
              omega
            · unfold popI; rw [Int.toNat_natCast]; go_num
            · have e := cntB_word xs k 64 (by omega)
              rw [show 64 * (k + 1) = 64 * k + 64 by omega, e, ← H.out]
              rfl
          case measure => simp only [intOf]; omega
        · have hkm : k = m / 64 := by omega
          have HT : Hid (t = cntB xs (64 * (m / 64))) := by rw [← hkm]; exact H.out
          clear H
          by_cases hz0 : m % 64 = 0
          · have R2 : Hid ((t : Int) = onesI (m : Int) xs n) := by
              unfold Hid
              rw [← R.out, HT.out, show 64 * (m / 64) = m by omega]
            have hz1 : ¬ 0 < (m : Int) % 64 := by omega
            clear hkm
            go_wp2
            go_ret
            exact ⟨ret_int R2.out, by assumption⟩
          · have hz1 : 0 < (m : Int) % 64 := by omega
            have hl6 : m / 64 < xs.length := by have := HL.out; omega
            have hl7 : (m : Int) / 64 < (xs.length : Int) := by omega
            have hck := (hw.cell (p := ⟨b, off + m / 64, none⟩) (by assumption)).trans (HC.out (m / 64) hl6)
            have hf := hg (m / 64)
            have hp := rank_bounds (gt xs (m / 64)) ((m : Int) % 64)
            have R2 : Hid ((t : Int) + rankI (gt xs (m / 64)) ((m : Int) % 64) = onesI (m : Int) xs n) := by
              unfold Hid
              rw [← R.out, HT.out]
              have e := cntB_word xs (m / 64) (m % 64) (by omega)
              rw [show 64 * (m / 64) + m % 64 = m by omega] at e
              rw [e]
              unfold rankI
              rw [Int.toNat_natCast, show min ((m : Int) % 64).toNat 64 = m % 64 by omega]
              omega
            clear hkm
            go_wp2_with (go_at_call 50; refine (rank_c _ _ ?_ ?_ _).mono ?_; exact Int.natCast_nonneg _; exact Int.ofNat_lt.2 hf; rintro e w' ⟨rfl, rfl⟩)
            go_ret
            exact ⟨ret_int R2.out, by assumption⟩

theorem bones_c (N : Int) (ao : Option Addr) (xs : List Nat) (cap : Nat) (n : Int) (w : World) (hx : Wd w ao xs) (hg : Fit xs) (hcap : xs.length ≤ cap) :
    Calls Tryd.prog 31 #[.agg #[.int .i64 N, .slice ao xs.length cap], .int .i64 n] w fun e w' => e = .returned (.int .i64 (onesI N xs n)) ∧ Below w.heap.size w w' := by
  by_cases h : n ≤ N
  · exact bones_lo N ao xs cap n w hx hg hcap h
  · exact bones_hi N ao xs cap n w hx hg hcap (by omega)

end Go.Proofs.YtjkihmjbhiiknaaDoor
