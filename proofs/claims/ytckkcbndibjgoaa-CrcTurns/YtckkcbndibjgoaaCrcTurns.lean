/-
  CrcTurns: a byte that is another changes the sum.
-/
import Derived.Test.YtckkcbndibjgoaaHc
import Derived.Test.YtckkcbndibjgoaaHc
import Derived.ChangeOld
namespace Go.Proofs.Ytckkcbndibjgoaa.crcTurns
open Go.ChangeShapes Go.WideShapes Go.ChangeAt Go.RowKit Crc
set_option linter.unusedVariables false
set_option linter.unusedSimpArgs false
set_option maxRecDepth 100000

theorem xor_lt8 (a b : Nat) (ha : a < 256) (hb : b < 256) : a ^^^ b < 256 := Nat.xor_lt_two_pow (n := 8) ha hb
theorem bytes_set {b : List Nat} (h : Bytes b) (q X : Nat) (hX : X < 256) : Bytes (b.set q (gt b q ^^^ X)) := fun x hx => by
  rcases List.mem_or_eq_of_mem_set hx with h1 | rfl
  · exact h x h1
  · exact xor_lt8 _ _ (gt_lt h q) hX
theorem turn_ne (b : List Nat) (q X : Nat) (h : Bytes b) (hq : q < b.length) (hX : X < 256) (h0 : X ≠ 0) : sumL (b.set q (gt b q ^^^ X)) ≠ sumL b := by
  have e1 : b = b.take q ++ gt b q :: b.drop (q + 1) := by
    have e := List.drop_eq_getElem_cons hq
    have e2 : gt b q = b[q] := by unfold gt; rw [List.getD_eq_getElem?_getD, List.getElem?_eq_getElem hq]; rfl
    rw [e2, ← e, List.take_append_drop]
  have e3 : b.set q (gt b q ^^^ X) = b.take q ++ (gt b q ^^^ X) :: b.drop (q + 1) := by rw [List.set_eq_take_append_cons_drop, if_pos hq]
  have n := turns (b.take q) (b.drop (q + 1)) (gt b q ^^^ X) (gt b q) (fun x hx => h x (List.mem_of_mem_take hx)) (fun x hx => h x (List.mem_of_mem_drop hx)) (xor_lt8 _ _ (gt_lt h q) hX) (gt_lt h q) (fun e => h0 (by
    have : gt b q ^^^ (gt b q ^^^ X) = gt b q ^^^ gt b q := by rw [e]
    rw [← Nat.xor_assoc, Nat.xor_self, Nat.zero_xor] at this
    exact this))
  rw [← e3, ← e1] at n
  exact n
/-- Bytes at the head of a block that is not frozen; there may be room behind them. -/
def OwnB (w : World) (g : Nat) (ys : List Nat) : Prop :=
  ∃ cur : Array Value, w.heap[g]? = some (.cells cur 5 (0, 0)) ∧ ∀ i, i < ys.length → cur[i]? = some (.int .u8 (gt ys i))
theorem OwnB.cell {w : World} {g : Nat} {ys : List Nat} (h : OwnB w g ys) (j : Nat) (hj : j < ys.length) : w.cell? ⟨g, j, none⟩ = some (.int .u8 (gt ys j)) := by
  obtain ⟨cur, hh, hc⟩ := h
  unfold World.cell?
  rw [show w.heap[({ block := g, off := j, spot := none } : Addr).block]? = _ from hh]
  exact hc j hj
theorem OwnB.frozen {w : World} {g : Nat} {ys : List Nat} (h : OwnB w g ys) (j : Nat) : w.frozen? ⟨g, j, none⟩ = false := by
  obtain ⟨cur, hh, hc⟩ := h
  unfold World.frozen?
  rw [show w.heap[({ block := g, off := j, spot := none } : Addr).block]? = _ from hh]
  simp
theorem OwnB.lt {w : World} {g : Nat} {ys : List Nat} (h : OwnB w g ys) : g < w.heap.size := by
  obtain ⟨cur, hh, _⟩ := h
  exact (Array.getElem?_eq_some_iff.1 hh).1
theorem gt_set (ys : List Nat) (j i v : Nat) (hj : j < ys.length) : gt (ys.set j v) i = if j = i then v else gt ys i := by
  unfold gt
  rw [List.getD_eq_getElem?_getD, List.getD_eq_getElem?_getD, List.getElem?_set]
  by_cases c : j = i
  · subst c; simp [hj]
  · simp [c]
theorem OwnB.set {w : World} {g : Nat} {ys : List Nat} (h : OwnB w g ys) (j v : Nat) (hj : j < ys.length) : OwnB (w.setCell ⟨g, j, none⟩ (.int .u8 v)) g (ys.set j v) := by
  obtain ⟨cur, hh, hc⟩ := h
  refine ⟨cur.setIfInBounds j (.int .u8 v), ?_, ?_⟩
  · simp only [World.setCell, Array.getElem?_modify]
    rw [if_pos trivial, hh]
    simp
  · intro i hi
    rw [List.length_set] at hi
    rw [gt_set ys j i v hj, Array.getElem?_setIfInBounds]
    have hjs : j < cur.size := (Array.getElem?_eq_some_iff.1 (hc j hj)).1
    by_cases e : j = i
    · subst e; simp [hjs]
    · simp [e, hc i hi]
theorem OwnB.bd {w : World} {g : Nat} {ys : List Nat} (h : OwnB w g ys) : Bd w (some ⟨g, 0, none⟩) ys :=
  fun _ => ⟨g, 0, rfl, h.lt, fun i hi => by rw [Nat.zero_add]; exact h.cell i hi⟩
theorem own_c {w : World} {base n cap : Nat} {ao : Option Addr} {ys : List Nat} (h : w.ownsRow base 5 1 (.slice ao n cap) n (yv ys)) (hn : 0 < n) : ∃ g, ao = some ⟨g, 0, none⟩ ∧ base ≤ g ∧ OwnB w g ys := by
  have hl : (yv ys).length = n * 1 := h.1
  rw [length_yv] at hl
  obtain ⟨_, h | ⟨g, cap', cur, e, hg, hh, _, _, hs, ht⟩⟩ := h
  · omega
  · simp only [Value.slice.injEq] at e
    obtain ⟨rfl, _, rfl⟩ := e
    refine ⟨g, rfl, hg, cur, hh, fun i hi => ?_⟩
    have e1 : (cur.toList.take (n * 1))[i]? = (yv ys)[i]? := by rw [ht]
    rw [List.getElem?_take_of_lt (by omega), yv_get ys i hi] at e1
    rw [← Array.getElem?_toList]
    exact e1

set_option maxHeartbeats 4000000 in
theorem walk (w : World) (ab : Option Addr) (b : List Nat) (cb : Nat) (Xb : Bd w ab b) (Fb : Bytes b) (Cb : b.length ≤ cb) (p : Int) (hp : -9223372036854775808 ≤ p ∧ p ≤ 9223372036854775807) (x : Int) (hx : 0 ≤ x ∧ x < 256) :
    Calls Try.prog 6 #[.slice ab b.length cb, .int .i64 p, .int .u8 x] w fun e w' => e = .returned (.bool true) ∧ Below w.heap.size w w' := by
  obtain ⟨X, rfl⟩ := Int.eq_ofNat_of_zero_le hx.1
  have hX2 : X < 256 := by omega
  by_cases hL : 10000 < b.length
  · have hL2 : (10000 : Int) < (b.length : Int) := by omega
    go_enter Try.func6, Try.ntmps6
    go_wp2_with fail
    refine (heads_c _).mono ?_
    rintro e w9 ⟨rfl, hb⟩
    go_wp2
    go_ret
    exact ⟨rfl, hb⟩
  have hL2 : ¬ (10000 : Int) < (b.length : Int) := by omega
  by_cases hM : p < 0
  · go_enter Try.func6, Try.ntmps6
    go_wp2_with fail
    refine (heads_c _).mono ?_
    rintro e w9 ⟨rfl, hb⟩
    go_wp2
    go_ret
    exact ⟨rfl, hb⟩
  by_cases hN : (b.length : Int) ≤ p
  · go_enter Try.func6, Try.ntmps6
    go_wp2_with fail
    refine (heads_c _).mono ?_
    rintro e w9 ⟨rfl, hb⟩
    go_wp2
    go_ret
    exact ⟨rfl, hb⟩
  by_cases hX : X = 0
  · subst hX
    go_enter Try.func6, Try.ntmps6
    go_wp2_with fail
    refine (heads_c _).mono ?_
    rintro e w9 ⟨rfl, hb⟩
    go_wp2
    go_ret
    exact ⟨rfl, hb⟩
  obtain ⟨q, rfl⟩ := Int.eq_ofNat_of_zero_le (show 0 ≤ p by omega)
  have hq : q < b.length := by omega
  have hq2 : (q : Int) < (b.length : Int) := by omega
  have hX3 : ((X : Int) == 0) = false := by simp; omega
  obtain ⟨i0, hi, hz0, hz1, hz2⟩ := info_parts Try.info5
  have S1 : Hid (∀ w0 : World, Bd w0 ab b → Calls Try.prog 8 #[.slice ab b.length cb] w0 fun e w' => e = .returned (.int .u32 (sumL b)) ∧ w' = w0) := fun w0 h => sum_c ab b cb w0 h Fb (by omega)
  have S2 : Hid (∀ (w0 : World) (ao : Option Addr) (n cap : Nat), n = b.length → Bd w0 ao (b.set q (gt b q ^^^ X)) → Calls Try.prog 8 #[.slice ao n cap] w0 fun e w' => e = .returned (.int .u32 (sumL (b.set q (gt b q ^^^ X)))) ∧ w' = w0) := fun w0 ao n cap hn h => by
    subst hn
    have := sum_c ao (b.set q (gt b q ^^^ X)) cap w0 h (bytes_set Fb q X hX2) (by simp; omega)
    rw [List.length_set] at this
    exact this
  have NE : sumL (b.set q (gt b q ^^^ X)) ≠ sumL b := turn_ne b q X Fb hq hX2 hX
  have NE2 : ((sumL (b.set q (gt b q ^^^ X)) : Int) != (sumL b : Int)) = true := by simp; omega
  generalize sumL (b.set q (gt b q ^^^ X)) = Z at *
  generalize sumL b = Y at *
  go_enter Try.func6, Try.ntmps6
  go_wp2_with (at_builtin; refine wpList_append_u rfl _ _ 22 rfl w.heap.size 5 i0 (.int .u8 0) 1 Try.underlying22 hi hz0 hz1 hz2 rfl _ 0 [] rfl ?own ab b.length cb (yv b) rfl (length_yv b) ?src (one_yv b) ?c3 ?c4 ?c5 ?_)
  case own => exact own_new w
  case src => exact (Xb.keep (below_alloc w _)).src _ rfl
  case c3 => unfold maxLen; omega
  case c4 => omega
  intro ao cp w3 own3 hle3 hB3
  obtain ⟨g, rfl, hg, hO⟩ := own_c own3 (by omega)
  have e1 := hO.cell q hq
  have f1 := hO.frozen q
  have hw3 : Below w.heap.size w w3 := (below_alloc w _).trans hB3
  have hO2 := hO.set q (gt b q ^^^ X) hq
  have hw4 : Below w.heap.size w (w3.setCell ⟨g, q, none⟩ (.int .u8 ((gt b q ^^^ X : Nat) : Int))) := hw3.setCell hg _
  have XR : bits .xor .u8 (gt b q : Int) (X : Int) = ((gt b q ^^^ X : Nat) : Int) := u8_xor_nat _ _ (gt_lt Fb q) hX2
  clear own3 hB3 hO hi hz0 hz1 hz2
  go_wp2_with fail
  refine (S2.out _ _ _ _ rfl hO2.bd).mono ?_
  rintro e w5 ⟨rfl, h5⟩
  rw [h5]
  clear h5 w5
  go_wp2_with fail
  refine (S1.out _ (Xb.keep hw4)).mono ?_
  rintro e w6 ⟨rfl, h6⟩
  rw [h6]
  clear h6 w6
  go_wp2_with fail
  refine (heads_c _).mono ?_
  rintro e w9 ⟨rfl, hb⟩
  have hw9 := hw4.trans (hb.mono hw4.size)
  go_wp2
  go_ret
  exact ⟨rfl, hw9⟩

theorem lifted (os : Os) (started : os.Started) (H : Type) (enc : TypeId × Value → H) :
    ReturnsInHanded {} Try.checked os 6 .any (Rows.crcTurnsSpec.pre6 enc Try.prog Try.f6 Rows.crcTurnsRow.domain false) (Rows.crcTurnsSpec.post enc Try.prog Try.f6 false true false false) := by
  refine returnsInHanded_of_change (C := Try.checked) own started (by kernel_rfl) Try.func6
    (ChangeSpec.witness6 (enc := enc) (C := Try.checked) false ⟨#[], #[.slice none 0 0, .int .i64 0, .int .u8 0], []⟩ 8 (by kernel_rfl) (by kernel_rfl) (by kernel_rfl) (by kernel_rfl)) ?_
  intro W base args ds gs before hval0 hW hcnd _
  have hval : ∀ (j : Nat) t v, Try.f6.params[j]? = some t → args[j]? = some v → Value.okWide Try.prog W .any base t v := hval0
  have hW' := hW
  obtain ⟨p, q, hA0, hV, rfl, hfz, hnd⟩ := hW
  have hA : DataW.TrodAll enc Try.prog W 0 (fun _ => true) true Try.f6.params.toList args.toList ds p := hA0
  rw [Try.params6] at hA hval
  obtain ⟨v0, vs0, d0, ds0, p0, q0, hargs, rfl, rfl, h0, r0⟩ := trodAll_cons hA
  obtain ⟨v1, vs1, d1, ds1, p1, q1, rfl, rfl, rfl, h1, r1⟩ := trodAll_cons r0
  obtain ⟨v2, vs2, d2, ds2, p2, q2, rfl, rfl, rfl, h2, r2⟩ := trodAll_cons r1
  obtain ⟨rfl, rfl, rfl⟩ := trodAll_nil r2
  obtain rfl : args = #[v0, v1, v2] := by cases args; simp_all
  obtain ⟨rfl, rfl⟩ := trodVars_none hV
  have k0 := h0
  have lt0 : ∀ x ∈ p0, x.block < W.heap.size := by obtain ⟨m, hm⟩ := k0; exact DataW.trod_lt m _ _ _ hm
  obtain ⟨ab, b, cb, rfl, bb1, bb2, bb3⟩ := open_bytes (hval 0 22 v0 rfl rfl) h0
  obtain ⟨p, rfl, rfl, rfl, w1⟩ := open_int Try.underlying3 (hval 1 3 v1 rfl rfl) h1
  obtain ⟨x, rfl, rfl, rfl, w2⟩ := open_int Try.underlying5 (hval 2 5 v2 rfl rfl) h2
  clear hA0 hval0
  refine (walk W ab b cb bb1 bb2 bb3 p (i64_wf _ w1) x (u8_wf _ w2)).mono fun e W' ⟨he, bel⟩ => ?_
  subst he
  exact ⟨_, rfl, _, _, _, [], _, [], hW', trodAll_mk1 (shut_bool Try.underlying4 _), (trodAll_cons_mk (Below.trod laidOut (by kernel_rfl) (of_decide_eq_true (by kernel_rfl)) k0 bel lt0) (trodAll_cons_mk (shut_int Try.underlying3 w1) (trodAll_cons_mk (shut_int Try.underlying5 w2) trodAll_mk0))), rfl, bel.frame _, fun h => by cases h⟩

theorem over : Rows.crcTurnsRow.holds Try.pinned (OpenSpec.ofChange Rows.crcTurnsSpec) :=
  OpenClaim.holds_of_wide 6 Try.f6 rfl rfl rfl rfl rfl rfl rfl ⟨rfl, rfl, rfl, rfl, rfl⟩ rfl rfl rfl rfl rfl (by kernel_rfl) Try.func6 (by kernel_rfl)
    (of_decide_eq_true (by kernel_rfl)) (by unfold Func.isWrapper; first | (rw [if_pos (by decide +kernel)]; kernel_rfl) | (rw [if_neg (by decide +kernel)]; exact ⟨rfl, rfl⟩))
    (fun os started H enc _ => lifted os started H enc)

theorem proved : Rows.CrcTurnsSaid := over
end Go.Proofs.Ytckkcbndibjgoaa.crcTurns
namespace Go.Proofs.Ytckkcbndibjgoaa
theorem crcTurns_holds : Rows.CrcTurnsSaid := crcTurns.proved
#print axioms crcTurns_holds
end Go.Proofs.Ytckkcbndibjgoaa
