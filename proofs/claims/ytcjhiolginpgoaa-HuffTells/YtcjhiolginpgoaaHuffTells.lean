/-
  For all counts and lengths: which lengths and codes symbols have, and what they cost, is as the document says (P11.1 to P11.3). No condition.
-/
import Derived.Test.YtcjhiolginpgoaaM18
import Derived.Test.YtcjhiolginpgoaaM20
import Derived.Test.YtcjhiolginpgoaaM21
import Derived.Test.YtcjhiolginpgoaaM11
namespace Go.Proofs.Ytcjhiolginpgoaa.huffTells
open Go.ChangeShapes Go.WideShapes Go.ChangeAt Go.RowKit Num Bit Ji Hp Ka Hr
set_option linter.unusedVariables false
set_option linter.unusedSimpArgs false
set_option maxRecDepth 100000

def nums (l : List Int) : List Int := if win l 1048576 = true then lst (hlen (cntOf l) 256) else []
def erl (l : List Int) : Int := if win l 1048576 = true then 0 else 2
def LQ (w : World) (l : List Int) (e : Ending) (w' : World) : Prop := ∃ ao c, e = .returned (.tuple #[.slice ao (nums l).length c, .int .i64 (erl l)]) ∧ Nd w' ao (nums l) ∧ Below w.heap.size w w'
theorem lq_of {w : World} {l : List Int} {e : Ending} {w' : World} (hw : win l 1048576 = true) (h : LO w (hls l) e w') : LQ w l e w' := by
  obtain ⟨g, rfl, hc, hg, hb⟩ := h
  have e1 : nums l = lst (hlen (cntOf l) 256) := by unfold nums; rw [if_pos hw]
  refine ⟨some ⟨g, 0, none⟩, 256, ?_, ?_, hb⟩
  · rw [e1, length_lst]; unfold erl; rw [if_pos hw]
  · rw [e1]; exact nd_hls hc
theorem lq_bad {w : World} {l : List Int} {e : Ending} {w' : World} (hw : win l 1048576 = false) (h : e = .returned (.tuple #[.slice none 0 0, .int .i64 2]) ∧ Below w.heap.size w w') : LQ w l e w' := by
  obtain ⟨rfl, hb⟩ := h
  have e1 : nums l = [] := by unfold nums; rw [if_neg (by rw [hw]; simp)]
  refine ⟨none, 0, ?_, ?_, hb⟩
  · rw [e1]; unfold erl; rw [if_neg (by rw [hw]; simp)]; rfl
  · rw [e1]; intro h; simp at h
theorem jlq (ao : Option Addr) (l : List Int) (cap : Nat) (w : World) (hx : Nd w ao l) (hl : l.length ≤ 1048576) :
    Calls Try.prog 9 #[.slice ao l.length cap] w fun e w' => LQ w l e w' := by
  cases hw : win l 1048576 with
  | true => exact (jlen_c ao l cap w hx hl hw).mono fun e w' h => lq_of hw h
  | false => exact (jlen_bad ao l cap w hx hl hw).mono fun e w' h => lq_bad hw h
theorem rlq (ao : Option Addr) (l : List Int) (cap : Nat) (w : World) (hx : Nd w ao l) (hl : l.length ≤ 1048576) :
    Calls Try.prog 11 #[.slice ao l.length cap] w fun e w' => LQ w l e w' := by
  cases hw : win l 1048576 with
  | true => exact (rlen_c ao l cap w hx hl hw).mono fun e w' h => lq_of hw h
  | false => exact (rlen_bad ao l cap w hx hl hw).mono fun e w' h => lq_bad hw h
/-- Codes, or none. -/
def CS (w : World) (l : List Int) (ao : Option Addr) (n c : Nat) : Prop := (lok l = false ∧ ao = none ∧ n = 0 ∧ c = 0) ∨ (lok l = true ∧ ∃ g, ao = some ⟨g, 0, none⟩ ∧ n = 256 ∧ c = 256 ∧ Cel w g (cds (cntOf l)) 33)
theorem CS.keep {w w' : World} {l : List Int} {ao : Option Addr} {n c : Nat} (h : CS w l ao n c) (hb : Below w.heap.size w w') : CS w' l ao n c := by
  rcases h with h | ⟨h1, g, h2, h3, h4, h5⟩
  · exact .inl h
  · exact .inr ⟨h1, g, h2, h3, h4, h5.kept hb⟩
def erc (l : List Int) : Int := if lok l = true then 0 else 2
def CQ (w : World) (l : List Int) (e : Ending) (w' : World) : Prop := ∃ ao n c, e = .returned (.tuple #[.slice ao n c, .int .i64 (erc l)]) ∧ CS w' l ao n c ∧ Below w.heap.size w w'
theorem cq_of {w : World} {l : List Int} {e : Ending} {w' : World} (hw : lok l = true) (h : CO w (cntOf l) e w') : CQ w l e w' := by
  obtain ⟨g, rfl, hc, hg, hb⟩ := h
  exact ⟨some ⟨g, 0, none⟩, 256, 256, by unfold erc; rw [if_pos hw], .inr ⟨hw, g, rfl, rfl, rfl, hc⟩, hb⟩
theorem cq_bad {w : World} {l : List Int} {e : Ending} {w' : World} (hw : lok l = false) (h : e = .returned (.tuple #[.slice none 0 0, .int .i64 2]) ∧ Below w.heap.size w w') : CQ w l e w' := by
  obtain ⟨rfl, hb⟩ := h
  exact ⟨none, 0, 0, by unfold erc; rw [if_neg (by rw [hw]; simp)], .inl ⟨hw, rfl, rfl, rfl⟩, hb⟩
theorem jcq' (ao : Option Addr) (l : List Int) (cap : Nat) (w : World) (hx : Nd w ao l) (hl : l.length ≤ 1048576) :
    Calls Try.prog 10 #[.slice ao l.length cap] w fun e w' => CQ w l e w' := by
  cases hw : lok l with
  | true => exact (jcodes_c ao l cap w hx hl hw).mono fun e w' h => cq_of hw h
  | false => exact (jcodes_bad ao l cap w hx hl hw).mono fun e w' h => cq_bad hw h
theorem rcq' (ao : Option Addr) (l : List Int) (cap : Nat) (w : World) (hx : Nd w ao l) (hl : l.length ≤ 1048576) :
    Calls Try.prog 12 #[.slice ao l.length cap] w fun e w' => CQ w l e w' := by
  cases hw : lok l with
  | true => exact (rcodes_c ao l cap w hx hl hw).mono fun e w' h => cq_of hw h
  | false => exact (rcodes_bad ao l cap w hx hl hw).mono fun e w' h => cq_bad hw h
theorem same_q {w : World} {l : List Int} {ao bo : Option Addr} {n c m d : Nat} (h : CS w l ao n c) (k : CS w l bo m d) :
    Calls Try.prog 14 #[.slice ao n c, .slice bo m d] w fun e w' => e = .returned (.bool true) ∧ Below w.heap.size w w' := by
  rcases h with ⟨h1, rfl, rfl, rfl⟩ | ⟨h1, g, rfl, rfl, rfl, h5⟩ <;> rcases k with ⟨k1, rfl, rfl, rfl⟩ | ⟨k1, g2, rfl, rfl, rfl, k5⟩
  · exact rcsame_none w
  · rw [h1] at k1; cases k1
  · rw [h1] at k1; cases k1
  · exact rcsame_c g g2 _ w h5 k5

set_option maxHeartbeats 8000000 in
theorem walk (w : World) (aC : Option Addr) (C : List Int) (cC : Nat) (XC : Nd w aC C) (FC : FitI C) (aL : Option Addr) (L : List Int) (cL : Nat) (XL : Nd w aL L) (FL : FitI L) :
    Calls Try.prog 5 #[.slice aC C.length cC, .slice aL L.length cL] w fun e w' => e = .returned (.bool true) ∧ Below w.heap.size w w' := by
  by_cases s1 : (1000 : Int) < (C.length : Int)
  case pos =>
    go_enter Try.func5, Try.ntmps5
    go_wp2_with fail
    refine (jheads_c _).mono ?_
    rintro e w9 ⟨rfl, hb9⟩
    go_wp2
    go_ret
    exact ⟨rfl, hb9⟩
  by_cases s2 : (1000 : Int) < (L.length : Int)
  case pos =>
    go_enter Try.func5, Try.ntmps5
    go_wp2_with fail
    refine (jheads_c _).mono ?_
    rintro e w9 ⟨rfl, hb9⟩
    go_wp2
    go_ret
    exact ⟨rfl, hb9⟩
  have HC := hide XC
  have HL := hide XL
  have lC : C.length ≤ 1048576 := by omega
  have lL : L.length ≤ 1048576 := by omega
  have ln : (nums C).length ≤ 1048576 := by unfold nums; split <;> simp [length_lst]
  have HN : Hid (∀ (a b : Option Addr) (c d : Nat) (w0 : World), Nd w0 a (nums C) → Nd w0 b (nums C) → Calls Try.prog 13 #[.slice a (nums C).length c, .slice b (nums C).length d] w0 fun e w' => e = .returned (.bool true) ∧ Below w0.heap.size w0 w') := fun a b c d w0 h1 h2 => by
    have := rnum_c a (nums C) c b (nums C) d w0 h1 h2 ln
    rw [decide_eq_true rfl] at this
    exact this
  clear XC XL FC FL ln
  go_enter Try.func5, Try.ntmps5
  go_wp2_with fail
  refine (jlq aC C cC _ HC.out lC).mono ?_
  rintro e w1 ⟨a1, c1, rfl, n1, b1⟩
  have N1 := hide n1
  have B1 := hide b1
  clear n1 b1
  go_wp2_with fail
  refine (rlq aC C cC w1 (HC.out.keep B1.out) lC).mono ?_
  rintro e w2 ⟨a2, c2, rfl, n2, b2⟩
  have N12 := hide (N1.out.keep b2)
  have N22 := hide n2
  have B2 := hide (B1.out.trans (b2.mono B1.out.size))
  clear n2 b2 N1 B1
  go_wp2_with fail
  refine (jcq' aL L cL w2 (HL.out.keep B2.out) lL).mono ?_
  rintro e w3 ⟨a3, n3, c3, rfl, k3, b3⟩
  have N13 := hide (N12.out.keep b3)
  have N23 := hide (N22.out.keep b3)
  have K33 := hide k3
  have B3 := hide (B2.out.trans (b3.mono B2.out.size))
  clear k3 b3 N12 N22 B2
  go_wp2_with fail
  refine (rcq' aL L cL w3 (HL.out.keep B3.out) lL).mono ?_
  rintro e w4 ⟨a4, n4, c4, rfl, k4, b4⟩
  have N14 := hide (N13.out.keep b4)
  have N24 := hide (N23.out.keep b4)
  have K34 := hide (K33.out.keep b4)
  have K44 := hide k4
  have B4 := hide (B3.out.trans (b4.mono B3.out.size))
  clear k4 b4 N13 N23 K33 B3
  go_wp2_with fail
  refine (HN.out _ _ _ _ w4 N14.out N24.out).mono ?_
  rintro e w5 ⟨rfl, b5⟩
  have K35 := hide (K34.out.keep b5)
  have K45 := hide (K44.out.keep b5)
  have B5 := hide (B4.out.trans (b5.mono B4.out.size))
  clear b5 N14 N24 K34 K44 B4 HN
  go_wp2_with fail
  refine (same_q K35.out K45.out).mono ?_
  rintro e w6 ⟨rfl, b6⟩
  have B6 := hide (B5.out.trans (b6.mono B5.out.size))
  clear b6 K35 K45 B5
  go_wp2_with fail
  refine (jcost_c aC C cC aL L cL w6 (HC.out.keep B6.out) (HL.out.keep B6.out) lC lL).mono ?_
  rintro e w7 ⟨rfl, b7⟩
  have B7 := hide (B6.out.trans (b7.mono B6.out.size))
  clear b7 B6
  go_wp2_with fail
  refine (rcost_c aC C cC aL L cL w7 (HC.out.keep B7.out) (HL.out.keep B7.out) lC lL).mono ?_
  rintro e w8 ⟨rfl, b8⟩
  have B8 := hide (B7.out.trans (b8.mono B7.out.size))
  clear b8 B7
  go_wp2_with fail
  refine (jheads_c _).mono ?_
  rintro e w9 ⟨rfl, b9⟩
  go_wp2
  go_ret
  exact ⟨rfl, B8.out.trans (b9.mono B8.out.size)⟩

theorem lifted (os : Os) (started : os.Started) (H : Type) (enc : TypeId × Value → H) :
    ReturnsInHanded {} Try.checked os 5 .any (Rows.huffTellsSpec.pre6 enc Try.prog Try.f5 Rows.huffTellsRow.domain false) (Rows.huffTellsSpec.post enc Try.prog Try.f5 false true false false) := by
  refine returnsInHanded_of_change (C := Try.checked) own started (by kernel_rfl) Try.func5
    (ChangeSpec.witness6 (enc := enc) (C := Try.checked) false ⟨#[], #[.slice none 0 0, .slice none 0 0], []⟩ 8 (by kernel_rfl) (by kernel_rfl) (by kernel_rfl) (by kernel_rfl)) ?_
  intro W base args ds gs before hval0 hW hcnd _
  have hval : ∀ (j : Nat) t v, Try.f5.params[j]? = some t → args[j]? = some v → Value.okWide Try.prog W .any base t v := hval0
  have hW' := hW
  obtain ⟨p, q, hA0, hV, rfl, hfz, hnd⟩ := hW
  have hA : DataW.TrodAll enc Try.prog W 0 (fun _ => true) true Try.f5.params.toList args.toList ds p := hA0
  rw [Try.params5] at hA hval
  obtain ⟨v0, vs0, d0, ds0, p0, q0, hargs, rfl, rfl, h0, r0⟩ := trodAll_cons hA
  obtain ⟨v1, vs1, d1, ds1, p1, q1, rfl, rfl, rfl, h1, r1⟩ := trodAll_cons r0
  obtain ⟨rfl, rfl, rfl⟩ := trodAll_nil r1
  obtain rfl : args = #[v0, v1] := by cases args; simp_all
  obtain ⟨rfl, rfl⟩ := trodVars_none hV
  have k0 := h0
  have lt0 : ∀ x ∈ p0, x.block < W.heap.size := by obtain ⟨m, hm⟩ := k0; exact DataW.trod_lt m _ _ _ hm
  obtain ⟨aC, C, cC, rfl, bC1, bC2, bC3⟩ := open_isl (hval 0 22 v0 rfl rfl) h0
  have k1 := h1
  have lt1 : ∀ x ∈ p1, x.block < W.heap.size := by obtain ⟨m, hm⟩ := k1; exact DataW.trod_lt m _ _ _ hm
  obtain ⟨aL, L, cL, rfl, bL1, bL2, bL3⟩ := open_isl (hval 1 22 v1 rfl rfl) h1
  clear hA0 hval0
  refine (walk W aC C cC bC1 bC2 aL L cL bL1 bL2).mono fun e W' ⟨he, bel⟩ => ?_
  subst he
  exact ⟨_, rfl, _, _, _, [], _, [], hW', trodAll_mk1 (shut_bool Try.underlying4 _), (trodAll_cons_mk (Below.trod laidOut (by kernel_rfl) (of_decide_eq_true (by kernel_rfl)) k0 bel lt0) (trodAll_cons_mk (Below.trod laidOut (by kernel_rfl) (of_decide_eq_true (by kernel_rfl)) k1 bel lt1) trodAll_mk0)), rfl, bel.frame _, fun h => by cases h⟩

theorem over : Rows.huffTellsRow.holds Try.pinned (OpenSpec.ofChange Rows.huffTellsSpec) :=
  OpenClaim.holds_of_wide 5 Try.f5 rfl rfl rfl rfl rfl rfl rfl ⟨rfl, rfl, rfl, rfl, rfl⟩ rfl rfl rfl rfl rfl (by kernel_rfl) Try.func5 (by kernel_rfl)
    (of_decide_eq_true (by kernel_rfl)) (by unfold Func.isWrapper; first | (rw [if_pos (by decide +kernel)]; kernel_rfl) | (rw [if_neg (by decide +kernel)]; exact ⟨rfl, rfl⟩))
    (fun os started H enc _ => lifted os started H enc)

theorem proved : Rows.HuffTellsSaid := over
end Go.Proofs.Ytcjhiolginpgoaa.huffTells
namespace Go.Proofs.Ytcjhiolginpgoaa
theorem huffTells_holds : Rows.HuffTellsSaid := huffTells.proved
#print axioms huffTells_holds
end Go.Proofs.Ytcjhiolginpgoaa
