/-
  The contracts of the program's sought and of the function that it hands to Search.
-/
import Derived.Test.YtcgnphffjfffgaaPe
namespace Go.Proofs.Ytcgnphffjfffgaa
open Go.RowKit Num Bit
set_option linter.unusedVariables false
set_option linter.unusedSimpArgs false
set_option maxRecDepth 100000

/-- What is caught: the row with counts, the bit, and how many. -/
def Caught (w : World) (g : Nat) (cs : List Value) (bit : Bool) (k : Nat) : Prop := Cel w g cs 29 ∧ Cel w (g + 1) [.bool bit] 4 ∧ Cel w (g + 2) [.int .i64 (k : Int)] 3
theorem Caught.kept {w w' : World} {g : Nat} {cs : List Value} {bit : Bool} {k : Nat} (h : Caught w g cs bit k) (hb : Below w.heap.size w w') : Caught w' g cs bit k := ⟨h.1.kept hb, h.2.1.kept hb, h.2.2.kept hb⟩

set_option maxHeartbeats 4000000 in
theorem sought1_c (m : Nat) (ao : Option Addr) (xs : List Nat) (cap : Nat) (so : Option Addr) (su : List Int) (sc : Nat) (tO : Option Addr) (sb : List Int) (tc : Nat) (bit : Bool) (k i g : Nat) (w : World) (h : PlIn w (m : Int) ao xs cap so su sc tO sb tc) (hp : pchk (m : Int) xs su sb = true) (hi : 64 * (i + 1) ≤ m) (hm : m ≤ 1048576)
    (hC : Caught w g [.int .i64 (m : Int), .slice ao xs.length cap, .slice so su.length sc, .slice tO sb.length tc] bit k) :
    Calls Try.prog 48 #[.int .i64 i, .pointer (some ⟨g, 0, none⟩), .pointer (some ⟨g + 1, 0, none⟩), .pointer (some ⟨g + 2, 0, none⟩)] w fun e w' => e = .returned (.bool (decide (k < cB xs bit (64 * (i + 1))))) ∧ Below w.heap.size w w' := by
  have C : Hid (∀ w0, Below w.heap.size w w0 → Calls Try.prog 33 #[.agg #[.int .i64 (m : Int), .slice ao xs.length cap, .slice so su.length sc, .slice tO sb.length tc], .bool bit, .int .i64 ((64 * (i + 1) : Nat) : Int)] w0 fun e w' => e = .returned (.int .i64 ((cB xs bit (64 * (i + 1)) : Nat) : Int)) ∧ Below w0.heap.size w0 w') := fun w0 hb => count_c m ao xs cap so su sc tO sb tc bit (64 * (i + 1)) w0 (h.keep hb) hp hi
  have m1 : IntKind.i64.wrap ((i : Int) + 1) = (i : Int) + 1 := by rw [IntKind.wrap_i64]; omega
  have m2 : IntKind.i64.wrap (((i : Int) + 1) * 64) = ((64 * (i + 1) : Nat) : Int) := by rw [IntKind.wrap_i64]; omega
  have bc := cB_le xs bit (64 * (i + 1))
  generalize cB xs bit (64 * (i + 1)) = Z at *
  clear h hp
  go_enter Try.func48, Try.ntmps48
  go_wp2
  refine region_g [] (fun w' => Caught w' g [.int .i64 (m : Int), .slice ao xs.length cap, .slice so su.length sc, .slice tO sb.length tc] bit k) (by kernel_rfl) ?_
  have hS : Caught w.drew g [.int .i64 (m : Int), .slice ao xs.length cap, .slice so su.length sc, .slice tO sb.length tc] bit k := hC
  have bW : Below w.heap.size w w.drew := (Below.refl _ _).drew
  generalize w.drew = V at *
  refine AnyG.take 0 (v := ?vv1) rfl (by kernel_rfl) (by kernel_rfl) (by kernel_rfl) (by kernel_rfl) (fun _ _ _ h => h) hS ?hy1 (by rfl) ?rest1
  case hy1 =>
    intro w0 h0
    have c0 := h0.1.cell 0 rfl
    have c1 := h0.1.cell 1 rfl
    have c2 := h0.1.cell 2 rfl
    have c3 := h0.1.cell 3 rfl
    go_simp
    try with_reducible rfl
  simp only [Act.put, List.getElem_toArray, List.getElem_cons_zero, List.getElem_cons_succ, List.setIfInBounds_toArray, List.set_cons_zero, List.set_cons_succ]
  refine AnyG.take 1 (v := ?vv2) rfl (by kernel_rfl) (by kernel_rfl) (by kernel_rfl) (by kernel_rfl) (fun _ _ _ h => h) hS ?hy2 (by rfl) ?rest2
  case hy2 =>
    intro w0 h0
    have c0 := h0.2.1.cell 0 rfl
    go_simp
    try with_reducible rfl
  simp only [Act.put, List.getElem_toArray, List.getElem_cons_zero, List.getElem_cons_succ, List.setIfInBounds_toArray, List.set_cons_zero, List.set_cons_succ]
  refine AnyG.take 2 (v := ?vv3) rfl (by kernel_rfl) (by kernel_rfl) (by kernel_rfl) (by kernel_rfl) (fun _ _ _ h => h) hS ?hy3 (by rfl) ?rest3
  case hy3 =>
    intro w0 h0
    go_simp
    try with_reducible rfl
  simp only [Act.put, List.getElem_toArray, List.getElem_cons_zero, List.getElem_cons_succ, List.setIfInBounds_toArray, List.set_cons_zero, List.set_cons_succ]
  refine AnyG.take 3 (v := ?vv4) rfl (by kernel_rfl) (by kernel_rfl) (by kernel_rfl) (by kernel_rfl) (fun _ _ _ h => h) hS ?hy4 (by rfl) ?rest4
  case hy4 =>
    intro w0 h0
    go_simp
    try with_reducible rfl
  simp only [Act.put, List.getElem_toArray, List.getElem_cons_zero, List.getElem_cons_succ, List.setIfInBounds_toArray, List.set_cons_zero, List.set_cons_succ]
  refine AnyG.take 4 (v := ?vv5) rfl (by kernel_rfl) (by kernel_rfl) (by kernel_rfl) (by kernel_rfl) (fun _ _ _ h => h) hS ?hy5 (by rfl) ?rest5
  case hy5 =>
    intro w0 h0
    go_simp
    try with_reducible rfl
  simp only [Act.put, List.getElem_toArray, List.getElem_cons_zero, List.getElem_cons_succ, List.setIfInBounds_toArray, List.set_cons_zero, List.set_cons_succ]
  refine AnyG.take 6 (v := ?vv6) rfl (by kernel_rfl) (by kernel_rfl) (by kernel_rfl) (by kernel_rfl) (fun _ _ _ h => h) hS ?hy6 (by rfl) ?rest6
  case hy6 =>
    intro w0 h0
    have c0 := h0.2.2.cell 0 rfl
    go_simp
    try with_reducible rfl
  simp only [Act.put, List.getElem_toArray, List.getElem_cons_zero, List.getElem_cons_succ, List.setIfInBounds_toArray, List.set_cons_zero, List.set_cons_succ]
  refine AnyG.one 5 (by kernel_rfl) rfl ?_
  intro K hK
  go_simp
  refine (C.out _ bW).mono ?_
  rintro e w2 ⟨rfl, hb⟩
  have hS2 := hS.kept hb
  have bw2 := bW.trans (hb.mono bW.size)
  refine hK.out _ _ (fun _ => hS2) ?_
  clear hK K
  try simp only [Act.put, List.getElem_toArray, List.getElem_cons_zero, List.getElem_cons_succ, List.setIfInBounds_toArray, List.set_cons_zero, List.set_cons_succ]
  refine AnyG.take 7 (v := ?vv7) rfl (by kernel_rfl) (by kernel_rfl) (by kernel_rfl) (by kernel_rfl) (fun _ _ _ h => h) hS2 ?hy7 (by rfl) ?rest7
  case hy7 =>
    intro w0 h0
    go_simp
    try with_reducible rfl
  simp only [Act.put, List.getElem_toArray, List.getElem_cons_zero, List.getElem_cons_succ, List.setIfInBounds_toArray, List.set_cons_zero, List.set_cons_succ]
  refine AnyG.take 8 (v := ?vv8) rfl (by kernel_rfl) (by kernel_rfl) (by kernel_rfl) (by kernel_rfl) (fun _ _ _ h => h) hS2 ?hy8 (by rfl) ?rest8
  case hy8 =>
    intro w0 h0
    go_simp
    try with_reducible rfl
  simp only [Act.put, List.getElem_toArray, List.getElem_cons_zero, List.getElem_cons_succ, List.setIfInBounds_toArray, List.set_cons_zero, List.set_cons_succ]
  refine AnyG.done (by kernel_rfl) ?_ _
  go_wp2
  go_ret
  exact ⟨rfl, bw2⟩

set_option maxHeartbeats 8000000 in
theorem sought_c (m : Nat) (ao : Option Addr) (xs : List Nat) (cap : Nat) (so : Option Addr) (su : List Int) (sc : Nat) (tO : Option Addr) (sb : List Int) (tc : Nat) (bit : Bool) (k q : Nat) (w : World) (h : PlIn w (m : Int) ao xs cap so su sc tO sb tc) (hp : pchk (m : Int) xs su sb = true) (hq : pselO (m : Int) xs bit (k : Int) = some q) :
    Calls Try.prog 39 #[.agg #[.int .i64 (m : Int), .slice ao xs.length cap, .slice so su.length sc, .slice tO sb.length tc], .bool bit, .int .i64 k] w fun e w' => e = .returned (.int .i64 (q : Int)) ∧ Below w.heap.size w w' := by
  obtain ⟨m', e0, hm, hl, hk, hsu, hsb⟩ := pchk_nat _ _ _ _ hp
  obtain rfl : m = m' := by omega
  clear e0 hsu hsb
  have hkk : k < cB xs bit m := by
    have := (psel_iff (m : Int) xs bit (k : Int)).1 (by rw [hq]; rfl)
    rw [Int.toNat_natCast] at this
    omega
  have hm0 : 0 < m := by have := cB_le xs bit m; omega
  have hkm : k < m := by have := cB_le xs bit m; omega
  obtain ⟨n, hn⟩ : ∃ n, n = xs.length - 1 := ⟨_, rfl⟩
  have hn1 : ((xs.length : Int) - 1) = (n : Int) := by omega
  have hnm : 64 * n ≤ m := by omega
  have hnb : n ≤ 16384 := by omega
  have SE : Hid (∀ j, j ≤ n → (∀ i, i < j → cB xs bit (64 * (i + 1)) ≤ k) → (∀ i, j ≤ i → i < n → k < cB xs bit (64 * (i + 1))) → cB xs bit (64 * j) ≤ k ∧ ∃ r : Nat, r < 64 ∧ selI (wb xs bit j : Int) ((k : Int) - (cB xs bit (64 * j) : Int)) = (r : Int) ∧ q = 64 * j + r) := by
    intro j hj h1 h2
    obtain ⟨a, r, b, c, d⟩ := sought_end m xs h.f hl bit k j hkk (by omega) h1 (fun i x y => h2 i x (by omega))
    rw [hq] at d
    exact ⟨a, r, b, c, Option.some.inj d⟩
  have hf := h.f
  have HC : Hid (∀ (i : Nat) w0, i ≤ m → Below w.heap.size w w0 → Calls Try.prog 33 #[.agg #[.int .i64 (m : Int), .slice ao xs.length cap, .slice so su.length sc, .slice tO sb.length tc], .bool bit, .int .i64 (i : Int)] w0 fun e w' => e = .returned (.int .i64 ((cB xs bit i : Nat) : Int)) ∧ Below w0.heap.size w0 w') := fun i w0 hi hb => count_c m ao xs cap so su sc tO sb tc bit i w0 (h.keep hb) hp hi
  obtain ⟨W, hW⟩ : ∃ W, W = ((w.alloc (.cells #[.int .i64 (m : Int), .slice ao xs.length cap, .slice so su.length sc, .slice tO sb.length tc] 29)).alloc (.cells #[.bool bit] 4)).alloc (.cells #[.int .i64 (k : Int)] 3) := ⟨_, rfl⟩
  have bW : Below w.heap.size w W := by rw [hW]; exact ((below_alloc w _).alloc (by simp) _).alloc (by simp; omega) _
  have hG : Caught W w.heap.size [.int .i64 (m : Int), .slice ao xs.length cap, .slice so su.length sc, .slice tO sb.length tc] bit k := by
    rw [hW]
    refine ⟨((Cel.new w _ _).alloc _).alloc _, (Cel.new2 w _ _ _).alloc _, ?_⟩
    have := Cel.new2 (w.alloc (.cells #[.int .i64 (m : Int), .slice ao xs.length cap, .slice so su.length sc, .slice tO sb.length tc] 29)) (.cells #[.bool bit] 4) [.int .i64 (k : Int)] 3
    simpa using this
  have HS : Hid (∀ w0, w0 = W → Calls Try.prog 47 #[.int .i64 (n : Int), .func (.func 48) #[] #[.pointer (some ⟨w.heap.size, 0, none⟩), .pointer (some ⟨w.heap.size + 1, 0, none⟩), .pointer (some ⟨w.heap.size + 2, 0, none⟩)]] w0 fun e w' => ∃ j : Nat, e = .returned (.int .i64 j) ∧ j ≤ n ∧ (∀ i, i < j → decide (k < cB xs bit (64 * (i + 1))) = false) ∧ (∀ i, j ≤ i → i < n → decide (k < cB xs bit (64 * (i + 1))) = true) ∧ Below w0.heap.size w0 w') := by
    intro w0 e0
    subst e0
    refine search_c n (by omega) ⟨w.heap.size, 0, none⟩ ⟨w.heap.size + 1, 0, none⟩ ⟨w.heap.size + 2, 0, none⟩ (fun i => decide (k < cB xs bit (64 * (i + 1)))) w0 ?_ ?_
    · intro i w1 hi hb
      exact sought1_c m ao xs cap so su sc tO sb tc bit k i w.heap.size w1 (h.keep (bW.trans (hb.mono bW.size))) hp (by omega) hm (hG.kept hb)
    · intro i j hij hi
      simp only [decide_eq_true_eq] at hi ⊢
      have := cB_mono xs bit (64 * (i + 1)) (64 * (j + 1) - 64 * (i + 1))
      rw [show 64 * (i + 1) + (64 * (j + 1) - 64 * (i + 1)) = 64 * (j + 1) by omega] at this
      omega
  obtain ⟨b3, o3, rfl, hb3, hc3⟩ := h.x (by omega)
  have hmf : ∀ (fn : Fn) (first cap : Array Value) (w : World), (Instr.makeFunc fn first cap).run Try.prog w = .ok (.func fn first cap) w := fun _ _ _ _ => rfl
  have sg : IntKind.u64.signed = false := rfl
  have hlx : n < xs.length := by omega
  clear h hp hq hkk hl hk hn
  go_enter Try.func39, Try.ntmps39
  go_wp2_with fail
  rw [← hW]
  refine (HS.out _ rfl).mono ?_
  rintro e w1 ⟨j, rfl, hj, g1, g2, hb⟩
  obtain ⟨hle, r, hr, hsel, hqe⟩ := SE.out j hj (fun i hi => by simpa using g1 i hi) (fun i x y => by simpa using g2 i x y)
  have hG1 := hG.kept hb
  have bw1 := bW.trans (hb.mono bW.size)
  clear g1 g2 hb hG bW hW HS SE
  have x1 := hG1.1.cell 1 rfl
  have xb := hG1.2.1.cell 0 rfl
  have y3 := (bw1.cell (p := ⟨b3, o3 + j, none⟩) hb3).trans (hc3 j (by omega))
  have lx2 : (j : Int) < (xs.length : Int) := by omega
  have hwb := wb_lt xs hf bit j
  have fl := flip_wb xs hf j
  have CS : Hid (∀ w0, Calls Try.prog 49 #[.int .u64 (wb xs bit j : Int), .int .i64 ((k : Int) - (cB xs bit (64 * j) : Int))] w0 fun e w' => e = .returned (.int .i64 (r : Int)) ∧ w' = w0) := by
    intro w0
    have := select_c (wb xs bit j : Int) ((k : Int) - (cB xs bit (64 * j) : Int)) (Int.natCast_nonneg _) (Int.ofNat_lt.2 hwb) w0
    rw [hsel] at this
    exact this
  have CC : Hid (∀ w0, Below w.heap.size w w0 → Calls Try.prog 33 #[.agg #[.int .i64 (m : Int), .slice (some ⟨b3, o3, none⟩) xs.length cap, .slice so su.length sc, .slice tO sb.length tc], .bool bit, .int .i64 ((64 * j : Nat) : Int)] w0 fun e w' => e = .returned (.int .i64 ((cB xs bit (64 * j) : Nat) : Int)) ∧ Below w0.heap.size w0 w') := fun w0 hb => HC.out (64 * j) w0 (by omega) hb
  have m1 : IntKind.i64.wrap ((j : Int) * 64) = ((64 * j : Nat) : Int) := by rw [IntKind.wrap_i64]; omega
  have m2 : IntKind.i64.wrap ((k : Int) - (cB xs bit (64 * j) : Int)) = (k : Int) - (cB xs bit (64 * j) : Int) := by rw [IntKind.wrap_i64]; omega
  have m3 : IntKind.i64.wrap (((64 * j : Nat) : Int) + (r : Int)) = (q : Int) := by rw [IntKind.wrap_i64]; omega
  have m4 : IntKind.i64.wrap (64 * (j : Int) + (r : Int)) = (q : Int) := by rw [IntKind.wrap_i64]; omega
  have HX : Hid (wb xs true j = gt xs j) := rfl
  have HB : Hid (Below w.heap.size w w1) := bw1
  clear hsel hqe hc3 hwb hf HC hle
  generalize (cB xs bit (64 * j)) = Z at *
  cases bit with
  | true =>
    rw [HX.out] at CS
    go_wp2
    refine region_g [] (fun w' => Caught w' w.heap.size [.int .i64 (m : Int), .slice (some ⟨b3, o3, none⟩) xs.length cap, .slice so su.length sc, .slice tO sb.length tc] true k) (by kernel_rfl) ?_
    have hS : Caught w1.drew w.heap.size [.int .i64 (m : Int), .slice (some ⟨b3, o3, none⟩) xs.length cap, .slice so su.length sc, .slice tO sb.length tc] true k := hG1
    have bV : Below w.heap.size w w1.drew := HB.out.drew
    generalize w1.drew = V at *
    refine AnyG.take 0 (v := ?vv21) rfl (by kernel_rfl) (by kernel_rfl) (by kernel_rfl) (by kernel_rfl) (fun _ _ _ h => h) hS ?hy21 (by rfl) ?rest21
    case hy21 =>
      intro w0 h0
      go_simp
      try with_reducible rfl
    simp only [Act.put, List.getElem_toArray, List.getElem_cons_zero, List.getElem_cons_succ, List.setIfInBounds_toArray, List.set_cons_zero, List.set_cons_succ]
    refine AnyG.take 1 (v := ?vv22) rfl (by kernel_rfl) (by kernel_rfl) (by kernel_rfl) (by kernel_rfl) (fun _ _ _ h => h) hS ?hy22 (by rfl) ?rest22
    case hy22 =>
      intro w0 h0
      go_simp
      try with_reducible rfl
    simp only [Act.put, List.getElem_toArray, List.getElem_cons_zero, List.getElem_cons_succ, List.setIfInBounds_toArray, List.set_cons_zero, List.set_cons_succ]
    refine AnyG.take 2 (v := ?vv23) rfl (by kernel_rfl) (by kernel_rfl) (by kernel_rfl) (by kernel_rfl) (fun _ _ _ h => h) hS ?hy23 (by rfl) ?rest23
    case hy23 =>
      intro w0 h0
      go_simp
      try with_reducible rfl
    simp only [Act.put, List.getElem_toArray, List.getElem_cons_zero, List.getElem_cons_succ, List.setIfInBounds_toArray, List.set_cons_zero, List.set_cons_succ]
    refine AnyG.take 3 (v := ?vv24) rfl (by kernel_rfl) (by kernel_rfl) (by kernel_rfl) (by kernel_rfl) (fun _ _ _ h => h) hS ?hy24 (by rfl) ?rest24
    case hy24 =>
      intro w0 h0
      have c0 := h0.2.2.cell 0 rfl
      go_simp
      try with_reducible rfl
    simp only [Act.put, List.getElem_toArray, List.getElem_cons_zero, List.getElem_cons_succ, List.setIfInBounds_toArray, List.set_cons_zero, List.set_cons_succ]
    refine AnyG.take 4 (v := ?vv25) rfl (by kernel_rfl) (by kernel_rfl) (by kernel_rfl) (by kernel_rfl) (fun _ _ _ h => h) hS ?hy25 (by rfl) ?rest25
    case hy25 =>
      intro w0 h0
      have c0 := h0.1.cell 0 rfl
      have c1 := h0.1.cell 1 rfl
      have c2 := h0.1.cell 2 rfl
      have c3 := h0.1.cell 3 rfl
      go_simp
      try with_reducible rfl
    simp only [Act.put, List.getElem_toArray, List.getElem_cons_zero, List.getElem_cons_succ, List.setIfInBounds_toArray, List.set_cons_zero, List.set_cons_succ]
    refine AnyG.take 5 (v := ?vv26) rfl (by kernel_rfl) (by kernel_rfl) (by kernel_rfl) (by kernel_rfl) (fun _ _ _ h => h) hS ?hy26 (by rfl) ?rest26
    case hy26 =>
      intro w0 h0
      have c0 := h0.2.1.cell 0 rfl
      go_simp
      try with_reducible rfl
    simp only [Act.put, List.getElem_toArray, List.getElem_cons_zero, List.getElem_cons_succ, List.setIfInBounds_toArray, List.set_cons_zero, List.set_cons_succ]
    refine AnyG.take 6 (v := ?vv27) rfl (by kernel_rfl) (by kernel_rfl) (by kernel_rfl) (by kernel_rfl) (fun _ _ _ h => h) hS ?hy27 (by rfl) ?rest27
    case hy27 =>
      intro w0 h0
      go_simp
      try with_reducible rfl
    simp only [Act.put, List.getElem_toArray, List.getElem_cons_zero, List.getElem_cons_succ, List.setIfInBounds_toArray, List.set_cons_zero, List.set_cons_succ]
    refine AnyG.take 7 (v := ?vv28) rfl (by kernel_rfl) (by kernel_rfl) (by kernel_rfl) (by kernel_rfl) (fun _ _ _ h => h) hS ?hy28 (by rfl) ?rest28
    case hy28 =>
      intro w0 h0
      go_simp
      try with_reducible rfl
    simp only [Act.put, List.getElem_toArray, List.getElem_cons_zero, List.getElem_cons_succ, List.setIfInBounds_toArray, List.set_cons_zero, List.set_cons_succ]
    refine AnyG.one 8 (by kernel_rfl) rfl ?_
    intro K hK
    go_simp
    refine (CC.out _ bV).mono ?_
    rintro e w2 ⟨rfl, hb⟩
    have hS2 := hS.kept hb
    have bw2 := bV.trans (hb.mono bV.size)
    refine hK.out _ _ (fun _ => hS2) ?_
    clear hK K
    try simp only [Act.put, List.getElem_toArray, List.getElem_cons_zero, List.getElem_cons_succ, List.setIfInBounds_toArray, List.set_cons_zero, List.set_cons_succ]
    refine AnyG.take 9 (v := ?vv29) rfl (by kernel_rfl) (by kernel_rfl) (by kernel_rfl) (by kernel_rfl) (fun _ _ _ h => h) hS2 ?hy29 (by rfl) ?rest29
    case hy29 =>
      intro w0 h0
      go_simp
      try with_reducible rfl
    simp only [Act.put, List.getElem_toArray, List.getElem_cons_zero, List.getElem_cons_succ, List.setIfInBounds_toArray, List.set_cons_zero, List.set_cons_succ]
    refine AnyG.one 10 (by kernel_rfl) rfl ?_
    intro K hK
    go_simp
    refine (CS.out _).mono ?_
    rintro e w3 ⟨rfl, rfl⟩
    refine hK.out _ _ (fun _ => hS2) ?_
    clear hK K
    try simp only [Act.put, List.getElem_toArray, List.getElem_cons_zero, List.getElem_cons_succ, List.setIfInBounds_toArray, List.set_cons_zero, List.set_cons_succ]
    refine AnyG.take 11 (v := ?vv30) rfl (by kernel_rfl) (by kernel_rfl) (by kernel_rfl) (by kernel_rfl) (fun _ _ _ h => h) hS2 ?hy30 (by rfl) ?rest30
    case hy30 =>
      intro w0 h0
      go_simp
      try with_reducible rfl
    simp only [Act.put, List.getElem_toArray, List.getElem_cons_zero, List.getElem_cons_succ, List.setIfInBounds_toArray, List.set_cons_zero, List.set_cons_succ]
    refine AnyG.take 12 (v := ?vv31) rfl (by kernel_rfl) (by kernel_rfl) (by kernel_rfl) (by kernel_rfl) (fun _ _ _ h => h) hS2 ?hy31 (by rfl) ?rest31
    case hy31 =>
      intro w0 h0
      go_simp
      try with_reducible rfl
    simp only [Act.put, List.getElem_toArray, List.getElem_cons_zero, List.getElem_cons_succ, List.setIfInBounds_toArray, List.set_cons_zero, List.set_cons_succ]
    refine AnyG.done (by kernel_rfl) ?_ _
    go_wp2
    go_ret
    exact ⟨rfl, bw2⟩
  | false =>
    go_wp2
    rw [show bits BinOp.xor IntKind.u64 IntKind.u64.max (gt xs j : Int) = (wb xs false j : Int) from fl]
    refine region_g [] (fun w' => Caught w' w.heap.size [.int .i64 (m : Int), .slice (some ⟨b3, o3, none⟩) xs.length cap, .slice so su.length sc, .slice tO sb.length tc] false k) (by kernel_rfl) ?_
    have hS : Caught w1.drew w.heap.size [.int .i64 (m : Int), .slice (some ⟨b3, o3, none⟩) xs.length cap, .slice so su.length sc, .slice tO sb.length tc] false k := hG1
    have bV : Below w.heap.size w w1.drew := HB.out.drew
    generalize w1.drew = V at *
    refine AnyG.take 0 (v := ?vv51) rfl (by kernel_rfl) (by kernel_rfl) (by kernel_rfl) (by kernel_rfl) (fun _ _ _ h => h) hS ?hy51 (by rfl) ?rest51
    case hy51 =>
      intro w0 h0
      go_simp
      try with_reducible rfl
    simp only [Act.put, List.getElem_toArray, List.getElem_cons_zero, List.getElem_cons_succ, List.setIfInBounds_toArray, List.set_cons_zero, List.set_cons_succ]
    refine AnyG.take 1 (v := ?vv52) rfl (by kernel_rfl) (by kernel_rfl) (by kernel_rfl) (by kernel_rfl) (fun _ _ _ h => h) hS ?hy52 (by rfl) ?rest52
    case hy52 =>
      intro w0 h0
      go_simp
      try with_reducible rfl
    simp only [Act.put, List.getElem_toArray, List.getElem_cons_zero, List.getElem_cons_succ, List.setIfInBounds_toArray, List.set_cons_zero, List.set_cons_succ]
    refine AnyG.take 2 (v := ?vv53) rfl (by kernel_rfl) (by kernel_rfl) (by kernel_rfl) (by kernel_rfl) (fun _ _ _ h => h) hS ?hy53 (by rfl) ?rest53
    case hy53 =>
      intro w0 h0
      go_simp
      try with_reducible rfl
    simp only [Act.put, List.getElem_toArray, List.getElem_cons_zero, List.getElem_cons_succ, List.setIfInBounds_toArray, List.set_cons_zero, List.set_cons_succ]
    refine AnyG.take 3 (v := ?vv54) rfl (by kernel_rfl) (by kernel_rfl) (by kernel_rfl) (by kernel_rfl) (fun _ _ _ h => h) hS ?hy54 (by rfl) ?rest54
    case hy54 =>
      intro w0 h0
      have c0 := h0.2.2.cell 0 rfl
      go_simp
      try with_reducible rfl
    simp only [Act.put, List.getElem_toArray, List.getElem_cons_zero, List.getElem_cons_succ, List.setIfInBounds_toArray, List.set_cons_zero, List.set_cons_succ]
    refine AnyG.take 4 (v := ?vv55) rfl (by kernel_rfl) (by kernel_rfl) (by kernel_rfl) (by kernel_rfl) (fun _ _ _ h => h) hS ?hy55 (by rfl) ?rest55
    case hy55 =>
      intro w0 h0
      have c0 := h0.1.cell 0 rfl
      have c1 := h0.1.cell 1 rfl
      have c2 := h0.1.cell 2 rfl
      have c3 := h0.1.cell 3 rfl
      go_simp
      try with_reducible rfl
    simp only [Act.put, List.getElem_toArray, List.getElem_cons_zero, List.getElem_cons_succ, List.setIfInBounds_toArray, List.set_cons_zero, List.set_cons_succ]
    refine AnyG.take 5 (v := ?vv56) rfl (by kernel_rfl) (by kernel_rfl) (by kernel_rfl) (by kernel_rfl) (fun _ _ _ h => h) hS ?hy56 (by rfl) ?rest56
    case hy56 =>
      intro w0 h0
      have c0 := h0.2.1.cell 0 rfl
      go_simp
      try with_reducible rfl
    simp only [Act.put, List.getElem_toArray, List.getElem_cons_zero, List.getElem_cons_succ, List.setIfInBounds_toArray, List.set_cons_zero, List.set_cons_succ]
    refine AnyG.take 6 (v := ?vv57) rfl (by kernel_rfl) (by kernel_rfl) (by kernel_rfl) (by kernel_rfl) (fun _ _ _ h => h) hS ?hy57 (by rfl) ?rest57
    case hy57 =>
      intro w0 h0
      go_simp
      try with_reducible rfl
    simp only [Act.put, List.getElem_toArray, List.getElem_cons_zero, List.getElem_cons_succ, List.setIfInBounds_toArray, List.set_cons_zero, List.set_cons_succ]
    refine AnyG.take 7 (v := ?vv58) rfl (by kernel_rfl) (by kernel_rfl) (by kernel_rfl) (by kernel_rfl) (fun _ _ _ h => h) hS ?hy58 (by rfl) ?rest58
    case hy58 =>
      intro w0 h0
      go_simp
      try with_reducible rfl
    simp only [Act.put, List.getElem_toArray, List.getElem_cons_zero, List.getElem_cons_succ, List.setIfInBounds_toArray, List.set_cons_zero, List.set_cons_succ]
    refine AnyG.one 8 (by kernel_rfl) rfl ?_
    intro K hK
    go_simp
    refine (CC.out _ bV).mono ?_
    rintro e w2 ⟨rfl, hb⟩
    have hS2 := hS.kept hb
    have bw2 := bV.trans (hb.mono bV.size)
    refine hK.out _ _ (fun _ => hS2) ?_
    clear hK K
    try simp only [Act.put, List.getElem_toArray, List.getElem_cons_zero, List.getElem_cons_succ, List.setIfInBounds_toArray, List.set_cons_zero, List.set_cons_succ]
    refine AnyG.take 9 (v := ?vv59) rfl (by kernel_rfl) (by kernel_rfl) (by kernel_rfl) (by kernel_rfl) (fun _ _ _ h => h) hS2 ?hy59 (by rfl) ?rest59
    case hy59 =>
      intro w0 h0
      go_simp
      try with_reducible rfl
    simp only [Act.put, List.getElem_toArray, List.getElem_cons_zero, List.getElem_cons_succ, List.setIfInBounds_toArray, List.set_cons_zero, List.set_cons_succ]
    refine AnyG.one 10 (by kernel_rfl) rfl ?_
    intro K hK
    go_simp
    refine (CS.out _).mono ?_
    rintro e w3 ⟨rfl, rfl⟩
    refine hK.out _ _ (fun _ => hS2) ?_
    clear hK K
    try simp only [Act.put, List.getElem_toArray, List.getElem_cons_zero, List.getElem_cons_succ, List.setIfInBounds_toArray, List.set_cons_zero, List.set_cons_succ]
    refine AnyG.take 11 (v := ?vv60) rfl (by kernel_rfl) (by kernel_rfl) (by kernel_rfl) (by kernel_rfl) (fun _ _ _ h => h) hS2 ?hy60 (by rfl) ?rest60
    case hy60 =>
      intro w0 h0
      go_simp
      try with_reducible rfl
    simp only [Act.put, List.getElem_toArray, List.getElem_cons_zero, List.getElem_cons_succ, List.setIfInBounds_toArray, List.set_cons_zero, List.set_cons_succ]
    refine AnyG.take 12 (v := ?vv61) rfl (by kernel_rfl) (by kernel_rfl) (by kernel_rfl) (by kernel_rfl) (fun _ _ _ h => h) hS2 ?hy61 (by rfl) ?rest61
    case hy61 =>
      intro w0 h0
      go_simp
      try with_reducible rfl
    simp only [Act.put, List.getElem_toArray, List.getElem_cons_zero, List.getElem_cons_succ, List.setIfInBounds_toArray, List.set_cons_zero, List.set_cons_succ]
    refine AnyG.done (by kernel_rfl) ?_ _
    go_wp2
    go_ret
    exact ⟨rfl, bw2⟩
end Go.Proofs.Ytcgnphffjfffgaa
