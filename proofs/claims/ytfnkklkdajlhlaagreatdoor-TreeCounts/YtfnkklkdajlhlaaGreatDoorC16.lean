/-
  The contracts of the program's sought and of the function that it hands to Search. The contracts of the program's Build, Bits, Size, Access, Rank and Select. The contracts of the program's functions of plain rows, over objects. The way of the program's own package for rows in blocks: classes and offsets as they are read, and when they are what is built: plain. The rows of the triangle in arrays: grown and shrunk in place. A row of the triangle by value: made, laid into a variable, handed back. The contracts of Choose and Width.
-/
import Derived.Test.YtfnkklkdajlhlaaGreatDoorC15
import Derived.Test.YtfnkklkdajlhlaaGreatDoorC01
import Derived.Test.YtfnkklkdajlhlaaGreatDoorC07
import Derived.Test.YtfnkklkdajlhlaaGreatDoorC04
import Derived.Deep.WholeRow
import Derived.Laws.ResultCell
set_option linter.unusedVariables false
set_option linter.unusedSimpArgs false
set_option maxRecDepth 100000
set_option maxHeartbeats 16000000
namespace Go.Proofs.YtfnkklkdajlhlaaGreatDoor
open Go.RowKit Num Bit
def Caught (w : World) (g : Nat) (cs : List Value) (bit : Bool) (k : Nat) : Prop := Cel w g cs 37 ∧ Cel w (g + 1) [.bool bit] 4 ∧ Cel w (g + 2) [.int .i64 (k : Int)] 3
theorem Caught.kept {w w' : World} {g : Nat} {cs : List Value} {bit : Bool} {k : Nat} (h : Caught w g cs bit k) (hb : Below w.heap.size w w') : Caught w' g cs bit k := ⟨h.1.kept hb, h.2.1.kept hb, h.2.2.kept hb⟩
theorem sought1_c (m : Nat) (ao : Option Addr) (xs : List Nat) (cap : Nat) (so : Option Addr) (su : List Int) (sc : Nat) (tO : Option Addr) (sb : List Int) (tc : Nat) (bit : Bool) (k i g : Nat) (w : World) (h : PlIn w (m : Int) ao xs cap so su sc tO sb tc) (hp : pchk (m : Int) xs su sb = true) (hi : 64 * (i + 1) ≤ m) (hm : m ≤ 1048576)
  (hC : Caught w g [.int .i64 (m : Int), .slice ao xs.length cap, .slice so su.length sc, .slice tO sb.length tc] bit k) :
  Calls Tryz.prog 182 #[.int .i64 i, .pointer (some ⟨g, 0, none⟩), .pointer (some ⟨g + 1, 0, none⟩), .pointer (some ⟨g + 2, 0, none⟩)] w fun e w' => e = .returned (.bool (decide (k < cB xs bit (64 * (i + 1))))) ∧ Below w.heap.size w w' := by
 have C : Hid (∀ w0, Below w.heap.size w w0 → Calls Tryz.prog 133 #[.agg #[.int .i64 (m : Int), .slice ao xs.length cap, .slice so su.length sc, .slice tO sb.length tc], .bool bit, .int .i64 ((64 * (i + 1) : Nat) : Int)] w0 fun e w' => e = .returned (.int .i64 ((cB xs bit (64 * (i + 1)) : Nat) : Int)) ∧ Below w0.heap.size w0 w') := fun w0 hb => count_c m ao xs cap so su sc tO sb tc bit (64 * (i + 1)) w0 (h.keep hb) hp hi
 have m1 : IntKind.i64.wrap ((i : Int) + 1) = (i : Int) + 1 := by rw [IntKind.wrap_i64]; omega
 have m2 : IntKind.i64.wrap (((i : Int) + 1) * 64) = ((64 * (i + 1) : Nat) : Int) := by rw [IntKind.wrap_i64]; omega
 have bc := cB_le xs bit (64 * (i + 1))
 generalize cB xs bit (64 * (i + 1)) = Z at *
 clear h hp
 go_enter Tryz.func182, Tryz.ntmps182
 go_wp2
 refine region_g [] (fun w' => Caught w' g [.int .i64 (m : Int), .slice ao xs.length cap, .slice so su.length sc, .slice tO sb.length tc] bit k) (by kernel_rfl) ?_
 have hS : Caught w.drew g [.int .i64 (m : Int), .slice ao xs.length cap, .slice so su.length sc, .slice tO sb.length tc] bit k := hC
 have bW : Below w.heap.size w w.drew := (Below.refl _ _).drew
 generalize w.drew = V at *
 refine AnyG.tf 0 hS rfl (fun w0 h0 => by have c0 := h0.1.cell 0 rfl; have c1 := h0.1.cell 1 rfl; have c2 := h0.1.cell 2 rfl; have c3 := h0.1.cell 3 rfl; go_simp; try with_reducible rfl) ?_
 refine AnyG.tf 1 hS rfl (fun w0 h0 => by have c0 := h0.2.1.cell 0 rfl; go_simp; try with_reducible rfl) ?_
 refine AnyG.tk 2 hS ?_
 refine AnyG.tk 3 hS ?_
 refine AnyG.tk 4 hS ?_
 refine AnyG.tf 6 hS rfl (fun w0 h0 => by have c0 := h0.2.2.cell 0 rfl; go_simp; try with_reducible rfl) ?_
 refine AnyG.o1 5 ?_
 intro K hK
 go_simp
 refine (C.out _ bW).mono ?_
 rintro e w2 ⟨rfl, hb⟩
 have hS2 := hS.kept hb
 have bw2 := bW.trans (hb.mono bW.size)
 refine hK.out _ _ (fun _ => hS2) ?_
 clear hK K
 try simp only [Act.put, yq0, yq1, yq2, yq3, yq4, yq5]
 refine AnyG.tk 7 hS2 ?_
 refine AnyG.tk 8 hS2 ?_
 refine AnyG.done (by kernel_rfl) ?_ _
 go_wp2
 go_ret
 exact ⟨rfl, bw2⟩
theorem psought_c (m : Nat) (ao : Option Addr) (xs : List Nat) (cap : Nat) (so : Option Addr) (su : List Int) (sc : Nat) (tO : Option Addr) (sb : List Int) (tc : Nat) (bit : Bool) (k q : Nat) (w : World) (h : PlIn w (m : Int) ao xs cap so su sc tO sb tc) (hp : pchk (m : Int) xs su sb = true) (hq : pselO (m : Int) xs bit (k : Int) = some q) :
  Calls Tryz.prog 134 #[.agg #[.int .i64 (m : Int), .slice ao xs.length cap, .slice so su.length sc, .slice tO sb.length tc], .bool bit, .int .i64 k] w fun e w' => e = .returned (.int .i64 (q : Int)) ∧ Below w.heap.size w w' := by
 obtain ⟨m', e0, hm, hl, hk, hsu, hsb⟩ := pchk_nat _ _ _ _ hp
 obtain rfl : m = m' := by omega
 clear e0 hsu hsb
 have hkk : k < cB xs bit m := by
  have := (psel_iff (m : Int) xs bit (k : Int)).1 (by rw [hq]; rfl)
  rw [Int.toNat_natCast] at this
  omega
 have hm0 : 0 < m := by have := cB_le xs bit m; omega
 have hkm : k < m := by have := cB_le xs bit m; omega
 obtain ⟨n, hn⟩ : ∃ n, n = xs.length - 1 := ⟨_, rfl⟩
 have hn1 : ((xs.length : Int) - 1) = (n : Int) := by omega
 have hnm : 64 * n ≤ m := by omega
 have hnb : n ≤ 16384 := by omega
 have SE : Hid (∀ j, j ≤ n → (∀ i, i < j → cB xs bit (64 * (i + 1)) ≤ k) → (∀ i, j ≤ i → i < n → k < cB xs bit (64 * (i + 1))) → cB xs bit (64 * j) ≤ k ∧ ∃ r : Nat, r < 64 ∧ selI (wb xs bit j : Int) ((k : Int) - (cB xs bit (64 * j) : Int)) = (r : Int) ∧ q = 64 * j + r) := by
  intro j hj h1 h2
  obtain ⟨a, r, b, c, d⟩ := sought_end m xs h.f hl bit k j hkk (by omega) h1 (fun i x y => h2 i x (by omega))
  rw [hq] at d
  exact ⟨a, r, b, c, Option.some.inj d⟩
 have hf := h.f
 have HC : Hid (∀ (i : Nat) w0, i ≤ m → Below w.heap.size w w0 → Calls Tryz.prog 133 #[.agg #[.int .i64 (m : Int), .slice ao xs.length cap, .slice so su.length sc, .slice tO sb.length tc], .bool bit, .int .i64 (i : Int)] w0 fun e w' => e = .returned (.int .i64 ((cB xs bit i : Nat) : Int)) ∧ Below w0.heap.size w0 w') := fun i w0 hi hb => count_c m ao xs cap so su sc tO sb tc bit i w0 (h.keep hb) hp hi
 obtain ⟨W, hW⟩ : ∃ W, W = ((w.alloc (.cells #[.int .i64 (m : Int), .slice ao xs.length cap, .slice so su.length sc, .slice tO sb.length tc] 37)).alloc (.cells #[.bool bit] 4)).alloc (.cells #[.int .i64 (k : Int)] 3) := ⟨_, rfl⟩
 have bW : Below w.heap.size w W := by rw [hW]; exact ((below_alloc w _).alloc (by simp) _).alloc (by simp; omega) _
 have hG : Caught W w.heap.size [.int .i64 (m : Int), .slice ao xs.length cap, .slice so su.length sc, .slice tO sb.length tc] bit k := by
  rw [hW]
  refine ⟨((Cel.new w _ _).alloc _).alloc _, (Cel.new2 w _ _ _).alloc _, ?_⟩
  have := Cel.new2 (w.alloc (.cells #[.int .i64 (m : Int), .slice ao xs.length cap, .slice so su.length sc, .slice tO sb.length tc] 37)) (.cells #[.bool bit] 4) [.int .i64 (k : Int)] 3
  simpa using this
 have HS : Hid (∀ w0, w0 = W → Calls Tryz.prog 181 #[.int .i64 (n : Int), .func (.func 182) #[] #[.pointer (some ⟨w.heap.size, 0, none⟩), .pointer (some ⟨w.heap.size + 1, 0, none⟩), .pointer (some ⟨w.heap.size + 2, 0, none⟩)]] w0 fun e w' => ∃ j : Nat, e = .returned (.int .i64 j) ∧ j ≤ n ∧ (∀ i, i < j → decide (k < cB xs bit (64 * (i + 1))) = false) ∧ (∀ i, j ≤ i → i < n → decide (k < cB xs bit (64 * (i + 1))) = true) ∧ Below w0.heap.size w0 w') := by
  intro w0 e0
  subst e0
  refine search_c n (by omega) ⟨w.heap.size, 0, none⟩ ⟨w.heap.size + 1, 0, none⟩ ⟨w.heap.size + 2, 0, none⟩ (fun i => decide (k < cB xs bit (64 * (i + 1)))) w0 ?_ ?_
  ·intro i w1 hi hb
   exact sought1_c m ao xs cap so su sc tO sb tc bit k i w.heap.size w1 (h.keep (bW.trans (hb.mono bW.size))) hp (by omega) hm (hG.kept hb)
  ·intro i j hij hi
   simp only [decide_eq_true_eq] at hi ⊢
   have := cB_mono xs bit (64 * (i + 1)) (64 * (j + 1) - 64 * (i + 1))
   rw [show 64 * (i + 1) + (64 * (j + 1) - 64 * (i + 1)) = 64 * (j + 1) by omega] at this
   omega
 obtain ⟨b3, o3, rfl, hb3, hc3⟩ := h.x (by omega)
 have hmf : ∀ (fn : Fn) (first cap : Array Value) (w : World), (Instr.makeFunc fn first cap).run Tryz.prog w = .ok (.func fn first cap) w := fun _ _ _ _ => rfl
 have sg : IntKind.u64.signed = false := rfl
 have hlx : n < xs.length := by omega
 clear h hp hq hkk hl hk hn
 go_enter Tryz.func134, Tryz.ntmps134
 go_wp2_with fail
 rw [← hW]
 refine (HS.out _ rfl).mono ?_
 rintro e w1 ⟨j, rfl, hj, g1, g2, hb⟩
 obtain ⟨hle, r, hr, hsel, hqe⟩ := SE.out j hj (fun i hi => by simpa using g1 i hi) (fun i x y => by simpa using g2 i x y)
 have hG1 := hG.kept hb
 have bw1 := bW.trans (hb.mono bW.size)
 clear g1 g2 hb hG bW hW HS SE
 have x1 := hG1.1.cell 1 rfl
 have xb := hG1.2.1.cell 0 rfl
 have y3 := (bw1.cell (p := ⟨b3, o3 + j, none⟩) hb3).trans (hc3 j (by omega))
 have lx2 : (j : Int) < (xs.length : Int) := by omega
 have hwb := wb_lt xs hf bit j
 have fl := flip_wb xs hf j
 have CS : Hid (∀ w0, Calls Tryz.prog 183 #[.int .u64 (wb xs bit j : Int), .int .i64 ((k : Int) - (cB xs bit (64 * j) : Int))] w0 fun e w' => e = .returned (.int .i64 (r : Int)) ∧ w' = w0) := by
  intro w0
  have := select_c (wb xs bit j : Int) ((k : Int) - (cB xs bit (64 * j) : Int)) (Int.natCast_nonneg _) (Int.ofNat_lt.2 hwb) w0
  rw [hsel] at this
  exact this
 have CC : Hid (∀ w0, Below w.heap.size w w0 → Calls Tryz.prog 133 #[.agg #[.int .i64 (m : Int), .slice (some ⟨b3, o3, none⟩) xs.length cap, .slice so su.length sc, .slice tO sb.length tc], .bool bit, .int .i64 ((64 * j : Nat) : Int)] w0 fun e w' => e = .returned (.int .i64 ((cB xs bit (64 * j) : Nat) : Int)) ∧ Below w0.heap.size w0 w') := fun w0 hb => HC.out (64 * j) w0 (by omega) hb
 have m1 : IntKind.i64.wrap ((j : Int) * 64) = ((64 * j : Nat) : Int) := by rw [IntKind.wrap_i64]; omega
 have m2 : IntKind.i64.wrap ((k : Int) - (cB xs bit (64 * j) : Int)) = (k : Int) - (cB xs bit (64 * j) : Int) := by rw [IntKind.wrap_i64]; omega
 have m3 : IntKind.i64.wrap (((64 * j : Nat) : Int) + (r : Int)) = (q : Int) := by rw [IntKind.wrap_i64]; omega
 have m4 : IntKind.i64.wrap (64 * (j : Int) + (r : Int)) = (q : Int) := by rw [IntKind.wrap_i64]; omega
 have HX : Hid (wb xs true j = gt xs j) := rfl
 have HB : Hid (Below w.heap.size w w1) := bw1
 clear hsel hqe hc3 hwb hf HC hle
 generalize (cB xs bit (64 * j)) = Z at *
 cases bit with
 | true =>
  rw [HX.out] at CS
  go_wp2
  refine region_g [] (fun w' => Caught w' w.heap.size [.int .i64 (m : Int), .slice (some ⟨b3, o3, none⟩) xs.length cap, .slice so su.length sc, .slice tO sb.length tc] true k) (by kernel_rfl) ?_
  have hS : Caught w1.drew w.heap.size [.int .i64 (m : Int), .slice (some ⟨b3, o3, none⟩) xs.length cap, .slice so su.length sc, .slice tO sb.length tc] true k := hG1
  have bV : Below w.heap.size w w1.drew := HB.out.drew
  generalize w1.drew = V at *
  refine AnyG.tk 0 hS ?_
  refine AnyG.tk 1 hS ?_
  refine AnyG.tk 2 hS ?_
  refine AnyG.tf 3 hS rfl (fun w0 h0 => by have c0 := h0.2.2.cell 0 rfl; go_simp; try with_reducible rfl) ?_
  refine AnyG.tf 4 hS rfl (fun w0 h0 => by have c0 := h0.1.cell 0 rfl; have c1 := h0.1.cell 1 rfl; have c2 := h0.1.cell 2 rfl; have c3 := h0.1.cell 3 rfl; go_simp; try with_reducible rfl) ?_
  refine AnyG.tf 5 hS rfl (fun w0 h0 => by have c0 := h0.2.1.cell 0 rfl; go_simp; try with_reducible rfl) ?_
  refine AnyG.tk 6 hS ?_
  refine AnyG.tk 7 hS ?_
  refine AnyG.o1 8 ?_
  intro K hK
  go_simp
  refine (CC.out _ bV).mono ?_
  rintro e w2 ⟨rfl, hb⟩
  have hS2 := hS.kept hb
  have bw2 := bV.trans (hb.mono bV.size)
  refine hK.out _ _ (fun _ => hS2) ?_
  clear hK K
  try simp only [Act.put, yq0, yq1, yq2, yq3, yq4, yq5]
  refine AnyG.tk 9 hS2 ?_
  refine AnyG.o1 10 ?_
  intro K hK
  go_simp
  refine (CS.out _).mono ?_
  rintro e w3 ⟨rfl, rfl⟩
  refine hK.out _ _ (fun _ => hS2) ?_
  clear hK K
  try simp only [Act.put, yq0, yq1, yq2, yq3, yq4, yq5]
  refine AnyG.tk 11 hS2 ?_
  refine AnyG.tk 12 hS2 ?_
  refine AnyG.done (by kernel_rfl) ?_ _
  go_wp2
  go_ret
  exact ⟨rfl, bw2⟩
 | false =>
  go_wp2
  rw [show bits BinOp.xor IntKind.u64 IntKind.u64.max (gt xs j : Int) = (wb xs false j : Int) from fl]
  refine region_g [] (fun w' => Caught w' w.heap.size [.int .i64 (m : Int), .slice (some ⟨b3, o3, none⟩) xs.length cap, .slice so su.length sc, .slice tO sb.length tc] false k) (by kernel_rfl) ?_
  have hS : Caught w1.drew w.heap.size [.int .i64 (m : Int), .slice (some ⟨b3, o3, none⟩) xs.length cap, .slice so su.length sc, .slice tO sb.length tc] false k := hG1
  have bV : Below w.heap.size w w1.drew := HB.out.drew
  generalize w1.drew = V at *
  refine AnyG.tk 0 hS ?_
  refine AnyG.tk 1 hS ?_
  refine AnyG.tk 2 hS ?_
  refine AnyG.tf 3 hS rfl (fun w0 h0 => by have c0 := h0.2.2.cell 0 rfl; go_simp; try with_reducible rfl) ?_
  refine AnyG.tf 4 hS rfl (fun w0 h0 => by have c0 := h0.1.cell 0 rfl; have c1 := h0.1.cell 1 rfl; have c2 := h0.1.cell 2 rfl; have c3 := h0.1.cell 3 rfl; go_simp; try with_reducible rfl) ?_
  refine AnyG.tf 5 hS rfl (fun w0 h0 => by have c0 := h0.2.1.cell 0 rfl; go_simp; try with_reducible rfl) ?_
  refine AnyG.tk 6 hS ?_
  refine AnyG.tk 7 hS ?_
  refine AnyG.o1 8 ?_
  intro K hK
  go_simp
  refine (CC.out _ bV).mono ?_
  rintro e w2 ⟨rfl, hb⟩
  have hS2 := hS.kept hb
  have bw2 := bV.trans (hb.mono bV.size)
  refine hK.out _ _ (fun _ => hS2) ?_
  clear hK K
  try simp only [Act.put, yq0, yq1, yq2, yq3, yq4, yq5]
  refine AnyG.tk 9 hS2 ?_
  refine AnyG.o1 10 ?_
  intro K hK
  go_simp
  refine (CS.out _).mono ?_
  rintro e w3 ⟨rfl, rfl⟩
  refine hK.out _ _ (fun _ => hS2) ?_
  clear hK K
  try simp only [Act.put, yq0, yq1, yq2, yq3, yq4, yq5]
  refine AnyG.tk 11 hS2 ?_
  refine AnyG.tk 12 hS2 ?_
  refine AnyG.done (by kernel_rfl) ?_ _
  go_wp2
  go_ret
  exact ⟨rfl, bw2⟩
theorem pbuild_bad (N : Int) (ao : Option Addr) (xs : List Nat) (cap : Nat) (w : World) (hx : Wd w ao xs) (hk : chk N xs = false) :
  Calls Tryz.prog 52 #[.agg #[.int .i64 N, .slice ao xs.length cap]] w fun e w' => e = .returned (.tuple #[.agg #[.int .i64 0, .slice none 0 0, .slice none 0 0, .slice none 0 0], .int .i64 2]) ∧ Below w.heap.size w w' := by
 obtain ⟨W, hW⟩ : ∃ W, W = (w.alloc (.cells #[.int .i64 N, .slice ao xs.length cap] 33)).alloc (.cells #[.int .i64 0, .slice none 0 0, .slice none 0 0, .slice none 0 0] 37) := ⟨_, rfl⟩
 have bW := yb2 hW
 have B2 := yc2 hW
 have C1 : Hid (∀ w0, w0 = W → Calls Tryz.prog 92 #[.agg #[.int .i64 N, .slice ao xs.length cap]] w0 fun e w' => e = .returned (.bool false) ∧ Below w0.heap.size w0 w') := fun w0 h => by
  subst h
  have := check_c N ao xs cap w0 (hx.keep bW)
  rw [hk] at this
  exact this
 go_enter Tryz.func52, Tryz.ntmps52
 go_wp2_with fail
 rw [← hW]
 refine (C1.out _ rfl).mono ?_
 rintro e w1 ⟨rfl, hb⟩
 have bw1 := bW.trans (hb.mono bW.size)
 replace B2 := B2.kept hb
 clear hb C1 hW bW W
 have y0 := B2.cell 0 rfl
 have y1 := B2.cell 1 rfl
 have y2 := B2.cell 2 rfl
 have y3 := B2.cell 3 rfl
 have f0 := B2.frozen 0
 have f1 := B2.frozen 1
 have f2 := B2.frozen 2
 have f3 := B2.frozen 3
 have hC := (((B2.set 0 (.int .i64 0)).set 1 (.slice none 0 0)).set 2 (.slice none 0 0)).set 3 (.slice none 0 0)
 have HB := below_set (below_set (below_set (below_set bw1 (w.heap.size + 1) 0 (.int .i64 0) (Nat.le_succ _)) (w.heap.size + 1) 1 (.slice none 0 0) (Nat.le_succ _)) (w.heap.size + 1) 2 (.slice none 0 0) (Nat.le_succ _)) (w.heap.size + 1) 3 (.slice none 0 0) (Nat.le_succ _)
 have k0 := hC.cell 0 rfl
 have k1 := hC.cell 1 rfl
 have k2 := hC.cell 2 rfl
 have k3 := hC.cell 3 rfl
 go_wp2
 exact bodyPost_ret (v := .tuple #[.agg #[.int .i64 0, .slice none 0 0, .slice none 0 0, .slice none 0 0], .int .i64 2]) (by simp [results, Tryz.results52, go_sem, k0, k1, k2, k3]) rfl ⟨rfl, HB⟩
theorem build_p (N : Int) (ao : Option Addr) (xs : List Nat) (cap : Nat) (w : World) (hN : -9223372036854775808 ≤ N ∧ N ≤ 9223372036854775807) (hx : Wd w ao xs) (hf : Fit xs) (hcap : xs.length ≤ cap) (hl : xs.length ≤ 1048576) :
  Calls Tryz.prog 52 #[.agg #[.int .i64 N, .slice ao xs.length cap]] w fun e w' => ∃ bo bc so sc tO tc, e = .returned (.tuple #[.agg #[.int .i64 (pbN N xs), .slice bo (pbX N xs).length bc, .slice so (pbS N xs).length sc, .slice tO (pbT N xs).length tc], .int .i64 (pbE N xs)]) ∧ PlOut w.heap.size w' bo (pbX N xs) bc so (pbS N xs) sc tO (pbT N xs) tc ∧ Below w.heap.size w w' := by
 unfold pbN pbX pbS pbT pbE
 cases hk : chk N xs with
 | false =>
  refine (pbuild_bad N ao xs cap w hx hk).mono ?_
  rintro e w' ⟨rfl, hb⟩
  exact ⟨none, 0, none, 0, none, 0, rfl, ⟨wd0' _ _, Nat.le_refl _, nd0 _ _, Nat.le_refl _, nd0 _ _, Nat.le_refl _, fr0 _, fr0 _⟩, hb⟩
 | true =>
  obtain ⟨m, rfl, hm, hlen⟩ := chk_len N xs hk
  refine (pbuild_ok m ao xs cap w hx hf hcap hk hm hlen).mono ?_
  rintro e w' ⟨bo, bc, so, sc, tO, tc, rfl, h1, hb⟩
  exact ⟨bo, bc, so, sc, tO, tc, rfl, h1, hb⟩
theorem bits_p (N : Int) (ao : Option Addr) (xs : List Nat) (cap : Nat) (so : Option Addr) (su : List Int) (sc : Nat) (tO : Option Addr) (sb : List Int) (tc : Nat) (w : World) (h : PlIn w N ao xs cap so su sc tO sb tc) :
  Calls Tryz.prog 87 #[.agg #[.int .i64 N, .slice ao xs.length cap, .slice so su.length sc, .slice tO sb.length tc]] w fun e w' => ∃ bo bc, e = .returned (.agg #[.int .i64 (piN N xs su sb), .slice bo (piX N xs su sb).length bc]) ∧ Wd w' bo (piX N xs su sb) ∧ (piX N xs su sb).length ≤ bc ∧ Below w.heap.size w w' := by
 unfold piN piX
 obtain ⟨W, hW⟩ : ∃ W, W = (w.alloc (.cells #[.int .i64 N, .slice ao xs.length cap, .slice so su.length sc, .slice tO sb.length tc] 37)).alloc (.cells #[.int .i64 0, .slice none 0 0] 33) := ⟨_, rfl⟩
 have bW := yb2 hW
 have B1 := yc3 hW
 have B2 := yc2 hW
 have C1 : Hid (∀ w0, w0 = W → Calls Tryz.prog 84 #[.agg #[.int .i64 N, .slice ao xs.length cap, .slice so su.length sc, .slice tO sb.length tc]] w0 fun e w' => e = .returned (.bool (pchk N xs su sb)) ∧ Below w0.heap.size w0 w') := fun w0 e0 => by subst e0; exact check_p N ao xs cap so su sc tO sb tc w0 (h.keep bW)
 cases hk : pchk N xs su sb with
 | false =>
  simp only [Bool.false_eq_true, if_false]
  rw [hk] at C1
  go_enter Tryz.func87, Tryz.ntmps87
  go_wp2_with fail
  rw [← hW]
  refine (C1.out _ rfl).mono ?_
  rintro e w1 ⟨rfl, hb⟩
  have bw1 := bW.trans (hb.mono bW.size)
  replace B1 := B1.kept hb
  replace B2 := B2.kept hb
  clear hb C1 hW bW W
  have y0 := B2.cell 0 rfl
  have y1 := B2.cell 1 rfl
  have f0 := B2.frozen 0
  have f1 := B2.frozen 1
  have hC := (B2.set 0 (.int .i64 0)).set 1 (.slice none 0 0)
  have HB := below_set (below_set bw1 (w.heap.size + 1) 0 (.int .i64 0) (Nat.le_succ _)) (w.heap.size + 1) 1 (.slice none 0 0) (Nat.le_succ _)
  have k0 := hC.cell 0 rfl
  have k1 := hC.cell 1 rfl
  go_wp2
  exact bodyPost_ret (v := .agg #[.int .i64 0, .slice none 0 0]) (by simp [results, Tryz.results87, go_sem, k0, k1]) rfl ⟨none, 0, rfl, wd0' _ _, Nat.le_refl _, HB⟩
 | true =>
  simp only [if_true]
  rw [hk] at C1
  have C2 : Hid (∀ w0, Below w.heap.size w w0 → Calls Tryz.prog 93 #[.agg #[.int .i64 N, .slice ao xs.length cap]] w0 fun e w' => ∃ bo bc, e = .returned (.agg #[.int .i64 N, .slice bo xs.length bc]) ∧ Wd w' bo xs ∧ xs.length ≤ bc ∧ Below w0.heap.size w0 w') := fun w0 hb => pcopied_c N ao xs cap w0 (h.x.keep hb) h.l
  clear h
  go_enter Tryz.func87, Tryz.ntmps87
  go_wp2_with fail
  rw [← hW]
  refine (C1.out _ rfl).mono ?_
  rintro e w1 ⟨rfl, hb⟩
  have bw1 := bW.trans (hb.mono bW.size)
  replace B1 := B1.kept hb
  replace B2 := B2.kept hb
  clear hb C1 hW bW W
  have r0 := B1.cell 0 rfl
  have r1 := B1.cell 1 rfl
  go_wp2_with fail
  refine (C2.out _ bw1).mono ?_
  rintro e w2 ⟨bo, bc, rfl, hW2, hbc, hb⟩
  have bw2 := bw1.trans (hb.mono bw1.size)
  replace B2 := B2.kept hb
  clear hb bw1 r0 r1 C2
  have y0 := B2.cell 0 rfl
  have y1 := B2.cell 1 rfl
  have f0 := B2.frozen 0
  have f1 := B2.frozen 1
  have hC := (B2.set 0 (.int .i64 N)).set 1 (.slice bo xs.length bc)
  have oW := ((Only.refl (w.heap.size + 1) w2).set 0 (.int .i64 N)).set 1 (.slice bo xs.length bc)
  have hWd := oW.wd hW2 (hW2.apart B2 (by intro v hv n; simp at hv; rcases hv with rfl | rfl <;> simp))
  have HB := bw2.trans (oW.below (Nat.le_succ _))
  have k0 := hC.cell 0 rfl
  have k1 := hC.cell 1 rfl
  have HF := And.intro hWd HB
  replace HF := Hid.mk' HF
  clear hWd HB oW hC hW2 bw2
  go_wp2
  exact bodyPost_ret (v := .agg #[.int .i64 N, .slice bo xs.length bc]) (by simp [results, Tryz.results87, go_sem, k0, k1]) rfl ⟨bo, bc, rfl, HF.out.1, hbc, HF.out.2⟩
theorem size_p (N : Int) (ao : Option Addr) (xs : List Nat) (cap : Nat) (so : Option Addr) (su : List Int) (sc : Nat) (tO : Option Addr) (sb : List Int) (tc : Nat) (w : World) (h : PlIn w N ao xs cap so su sc tO sb tc) :
  Calls Tryz.prog 73 #[.agg #[.int .i64 N, .slice ao xs.length cap, .slice so su.length sc, .slice tO sb.length tc]] w fun e w' => e = .returned (.int .i64 (pzN N xs su sb)) ∧ Below w.heap.size w w' := by
 unfold pzN
 obtain ⟨W, hW⟩ : ∃ W, W = w.alloc (.cells #[.int .i64 N, .slice ao xs.length cap, .slice so su.length sc, .slice tO sb.length tc] 37) := ⟨_, rfl⟩
 have bW := yb1 hW
 have B1 := yc1 hW
 have C1 : Hid (∀ w0, w0 = W → Calls Tryz.prog 84 #[.agg #[.int .i64 N, .slice ao xs.length cap, .slice so su.length sc, .slice tO sb.length tc]] w0 fun e w' => e = .returned (.bool (pchk N xs su sb)) ∧ Below w0.heap.size w0 w') := fun w0 e0 => by subst e0; exact check_p N ao xs cap so su sc tO sb tc w0 (h.keep bW)
 cases hk : pchk N xs su sb with
 | false =>
  simp only [Bool.false_eq_true, if_false]
  rw [hk] at C1
  go_enter Tryz.func73, Tryz.ntmps73
  go_wp2_with fail
  rw [← hW]
  refine (C1.out _ rfl).mono ?_
  rintro e w1 ⟨rfl, hb⟩
  have bw1 := bW.trans (hb.mono bW.size)
  replace B1 := B1.kept hb
  clear hb C1 hW bW W
  go_wp2
  go_ret
  exact ⟨rfl, bw1⟩
 | true =>
  simp only [if_true]
  rw [hk] at C1
  obtain ⟨m, rfl, hm, hl, z1, z2, z3⟩ := pchk_nat _ _ _ _ hk
  clear z1 z2 z3
  have l1 := h.sl
  have l2 := h.tl
  obtain ⟨A, hA⟩ : ∃ A, A = su.length := ⟨_, rfl⟩
  obtain ⟨B, hB⟩ : ∃ B, B = sb.length := ⟨_, rfl⟩
  rw [← hA] at l1 B1 ⊢
  rw [← hB] at l2 B1 ⊢
  rw [← hA, ← hB] at C1 hW
  clear h hl hk hA hB
  go_enter Tryz.func73, Tryz.ntmps73
  go_wp2_with fail
  rw [← hW]
  refine (C1.out _ rfl).mono ?_
  rintro e w1 ⟨rfl, hb⟩
  have bw1 := bW.trans (hb.mono bW.size)
  replace B1 := B1.kept hb
  clear hb C1 hW bW W
  have x0 := B1.cell 0 rfl
  have x2 := B1.cell 2 rfl
  have x3 := B1.cell 3 rfl
  go_wp2
  go_ret
  refine ⟨ret_int ?_, bw1⟩
  first | rfl | omega
theorem access_p (N : Int) (ao : Option Addr) (xs : List Nat) (cap : Nat) (so : Option Addr) (su : List Int) (sc : Nat) (tO : Option Addr) (sb : List Int) (tc : Nat) (i : Int) (w : World) (h : PlIn w N ao xs cap so su sc tO sb tc) (hi : -9223372036854775808 ≤ i ∧ i ≤ 9223372036854775807) :
  Calls Tryz.prog 63 #[.agg #[.int .i64 N, .slice ao xs.length cap, .slice so su.length sc, .slice tO sb.length tc], .int .i64 i] w fun e w' => e = .returned (.tuple #[.bool (paB N xs su sb i), .int .i64 (paE N xs su sb i)]) ∧ Below w.heap.size w w' := by
 unfold paB paE
 obtain ⟨W, hW⟩ : ∃ W, W = w.alloc (.cells #[.int .i64 N, .slice ao xs.length cap, .slice so su.length sc, .slice tO sb.length tc] 37) := ⟨_, rfl⟩
 have bW := yb1 hW
 have B1 := yc1 hW
 have C1 : Hid (∀ w0, w0 = W → Calls Tryz.prog 84 #[.agg #[.int .i64 N, .slice ao xs.length cap, .slice so su.length sc, .slice tO sb.length tc]] w0 fun e w' => e = .returned (.bool (pchk N xs su sb)) ∧ Below w0.heap.size w0 w') := fun w0 e0 => by subst e0; exact check_p N ao xs cap so su sc tO sb tc w0 (h.keep bW)
 cases hk : pchk N xs su sb with
 | false =>
  simp only [Bool.false_eq_true, if_false, Bool.false_and]
  rw [hk] at C1
  go_enter Tryz.func63, Tryz.ntmps63
  go_wp2_with fail
  rw [← hW]
  refine (C1.out _ rfl).mono ?_
  rintro e w1 ⟨rfl, hb⟩
  have bw1 := bW.trans (hb.mono bW.size)
  replace B1 := B1.kept hb
  clear hb C1 hW bW W
  go_wp2
  go_ret2
  exact ⟨rfl, bw1⟩
 | true =>
  simp only [if_true, Bool.true_and]
  rw [hk] at C1
  have C2 : Hid (∀ w0, Below w.heap.size w w0 → Calls Tryz.prog 51 #[.agg #[.int .i64 N, .slice ao xs.length cap], .int .i64 i] w0 fun e w' => e = .returned (.tuple #[.bool (getB N xs i), .int .i64 (getE N xs i)]) ∧ Below w0.heap.size w0 w') := fun w0 hb => get_c N ao xs cap i w0 (h.x.keep hb) h.f
  clear h hk
  go_enter Tryz.func63, Tryz.ntmps63
  go_wp2_with fail
  rw [← hW]
  refine (C1.out _ rfl).mono ?_
  rintro e w1 ⟨rfl, hb⟩
  have bw1 := bW.trans (hb.mono bW.size)
  replace B1 := B1.kept hb
  clear hb C1 hW bW W
  have x0 := B1.cell 0 rfl
  have x1 := B1.cell 1 rfl
  go_wp2_with fail
  refine (C2.out _ bw1).mono ?_
  rintro e w2 ⟨rfl, hb⟩
  have bw2 := bw1.trans (hb.mono bw1.size)
  clear hb
  go_wp2
  go_ret2
  exact ⟨rfl, bw2⟩
theorem rank_p (N : Int) (ao : Option Addr) (xs : List Nat) (cap : Nat) (so : Option Addr) (su : List Int) (sc : Nat) (tO : Option Addr) (sb : List Int) (tc : Nat) (bit : Bool) (i : Int) (w : World) (h : PlIn w N ao xs cap so su sc tO sb tc) (hi : -9223372036854775808 ≤ i ∧ i ≤ 9223372036854775807) :
  Calls Tryz.prog 120 #[.agg #[.int .i64 N, .slice ao xs.length cap, .slice so su.length sc, .slice tO sb.length tc], .bool bit, .int .i64 i] w fun e w' => e = .returned (.tuple #[.int .i64 (prN N xs su sb bit i), .int .i64 (prE N xs su sb i)]) ∧ Below w.heap.size w w' := by
 obtain ⟨W, hW⟩ : ∃ W, W = w.alloc (.cells #[.int .i64 N, .slice ao xs.length cap, .slice so su.length sc, .slice tO sb.length tc] 37) := ⟨_, rfl⟩
 have bW := yb1 hW
 have B1 := yc1 hW
 have C1 : Hid (∀ w0, w0 = W → Calls Tryz.prog 84 #[.agg #[.int .i64 N, .slice ao xs.length cap, .slice so su.length sc, .slice tO sb.length tc]] w0 fun e w' => e = .returned (.bool (pchk N xs su sb)) ∧ Below w0.heap.size w0 w') := fun w0 e0 => by subst e0; exact check_p N ao xs cap so su sc tO sb tc w0 (h.keep bW)
 cases hk : pchk N xs su sb with
 | false =>
  have R1 : Hid (prE N xs su sb i = 2) := by show prE N xs su sb i = 2; unfold prE; rw [hk]; rfl
  have R2 : Hid (prN N xs su sb bit i = 0) := by show prN N xs su sb bit i = 0; unfold prN; rw [R1.out]; rfl
  rw [R1.out, R2.out]
  rw [hk] at C1
  go_enter Tryz.func120, Tryz.ntmps120
  go_wp2_with fail
  rw [← hW]
  refine (C1.out _ rfl).mono ?_
  rintro e w1 ⟨rfl, hb⟩
  have bw1 := bW.trans (hb.mono bW.size)
  replace B1 := B1.kept hb
  clear hb C1 hW bW W
  go_wp2
  go_ret2
  exact ⟨rfl, bw1⟩
 | true =>
  rw [hk] at C1
  obtain ⟨m, rfl, hm, hl, z1, z2, z3⟩ := pchk_nat _ _ _ _ hk
  clear z1 z2 z3
  by_cases h0 : i < 0 ∨ (m : Int) < i
  ·have R1 : Hid (prE (m : Int) xs su sb i = 3) := by show prE (m : Int) xs su sb i = 3; unfold prE; rw [hk, if_pos rfl, if_pos h0]
   have R2 : Hid (prN (m : Int) xs su sb bit i = 0) := by show prN (m : Int) xs su sb bit i = 0; unfold prN; rw [R1.out]; rfl
   rw [R1.out, R2.out]
   clear h hl hk
   by_cases h1 : i < 0
   ·go_enter Tryz.func120, Tryz.ntmps120
    go_wp2_with fail
    rw [← hW]
    refine (C1.out _ rfl).mono ?_
    rintro e w1 ⟨rfl, hb⟩
    have bw1 := bW.trans (hb.mono bW.size)
    replace B1 := B1.kept hb
    clear hb C1 hW bW W
    go_wp2
    go_ret2
    exact ⟨rfl, bw1⟩
   ·have h2 : (m : Int) < i := by omega
    go_enter Tryz.func120, Tryz.ntmps120
    go_wp2_with fail
    rw [← hW]
    refine (C1.out _ rfl).mono ?_
    rintro e w1 ⟨rfl, hb⟩
    have bw1 := bW.trans (hb.mono bW.size)
    replace B1 := B1.kept hb
    clear hb C1 hW bW W
    have x0 := B1.cell 0 rfl
    go_wp2
    go_ret2
    exact ⟨rfl, bw1⟩
  ·obtain ⟨k, rfl⟩ := Int.eq_ofNat_of_zero_le (show 0 ≤ i by omega)
   have R1 : Hid (prE (m : Int) xs su sb (k : Int) = 0) := by show prE (m : Int) xs su sb (k : Int) = 0; unfold prE; rw [hk, if_pos rfl, if_neg h0]
   have R2 : Hid (prN (m : Int) xs su sb bit (k : Int) = ((cB xs bit k : Nat) : Int)) := by show prN (m : Int) xs su sb bit (k : Int) = _; unfold prN; rw [R1.out, if_pos rfl, Int.toNat_natCast]
   rw [R1.out, R2.out]
   have C2 : Hid (∀ w0, Below w.heap.size w w0 → Calls Tryz.prog 133 #[.agg #[.int .i64 (m : Int), .slice ao xs.length cap, .slice so su.length sc, .slice tO sb.length tc], .bool bit, .int .i64 (k : Int)] w0 fun e w' => e = .returned (.int .i64 ((cB xs bit k : Nat) : Int)) ∧ Below w0.heap.size w0 w') := fun w0 hb => count_c m ao xs cap so su sc tO sb tc bit k w0 (h.keep hb) hk (by omega)
   have h3 : ¬ (m : Int) < (k : Int) := by omega
   clear h hl hk h0 hi
   go_enter Tryz.func120, Tryz.ntmps120
   go_wp2_with fail
   rw [← hW]
   refine (C1.out _ rfl).mono ?_
   rintro e w1 ⟨rfl, hb⟩
   have bw1 := bW.trans (hb.mono bW.size)
   replace B1 := B1.kept hb
   clear hb C1 hW bW W
   have x0 := B1.cell 0 rfl
   have x1 := B1.cell 1 rfl
   have x2 := B1.cell 2 rfl
   have x3 := B1.cell 3 rfl
   go_wp2_with fail
   refine (C2.out _ bw1).mono ?_
   rintro e w2 ⟨rfl, hb⟩
   have bw2 := bw1.trans (hb.mono bw1.size)
   clear hb
   go_wp2
   go_ret2
   exact ⟨rfl, bw2⟩
theorem select_p (N : Int) (ao : Option Addr) (xs : List Nat) (cap : Nat) (so : Option Addr) (su : List Int) (sc : Nat) (tO : Option Addr) (sb : List Int) (tc : Nat) (bit : Bool) (k : Int) (w : World) (h : PlIn w N ao xs cap so su sc tO sb tc) (hk0 : -9223372036854775808 ≤ k ∧ k ≤ 9223372036854775807) :
  Calls Tryz.prog 81 #[.agg #[.int .i64 N, .slice ao xs.length cap, .slice so su.length sc, .slice tO sb.length tc], .bool bit, .int .i64 k] w fun e w' => e = .returned (.tuple #[.int .i64 (psX N xs su sb bit k), .int .i64 (psE N xs su sb bit k)]) ∧ Below w.heap.size w w' := by
 obtain ⟨W, hW⟩ : ∃ W, W = w.alloc (.cells #[.int .i64 N, .slice ao xs.length cap, .slice so su.length sc, .slice tO sb.length tc] 37) := ⟨_, rfl⟩
 have bW := yb1 hW
 have B1 := yc1 hW
 have C1 : Hid (∀ w0, w0 = W → Calls Tryz.prog 84 #[.agg #[.int .i64 N, .slice ao xs.length cap, .slice so su.length sc, .slice tO sb.length tc]] w0 fun e w' => e = .returned (.bool (pchk N xs su sb)) ∧ Below w0.heap.size w0 w') := fun w0 e0 => by subst e0; exact check_p N ao xs cap so su sc tO sb tc w0 (h.keep bW)
 cases hk : pchk N xs su sb with
 | false =>
  have R1 : Hid (psE N xs su sb bit k = 2) := by show psE N xs su sb bit k = 2; unfold psE; rw [hk]; rfl
  have R2 : Hid (psX N xs su sb bit k = 0) := by show psX N xs su sb bit k = 0; unfold psX; rw [hk]; rfl
  rw [R1.out, R2.out]
  rw [hk] at C1
  go_enter Tryz.func81, Tryz.ntmps81
  go_wp2_with fail
  rw [← hW]
  refine (C1.out _ rfl).mono ?_
  rintro e w1 ⟨rfl, hb⟩
  have bw1 := bW.trans (hb.mono bW.size)
  replace B1 := B1.kept hb
  clear hb C1 hW bW W
  go_wp2
  go_ret2
  exact ⟨rfl, bw1⟩
 | true =>
  rw [hk] at C1
  obtain ⟨m, rfl, hm, hl, z1, z2, z3⟩ := pchk_nat _ _ _ _ hk
  clear z1 z2 z3
  have C2 : Hid (∀ w0, Below w.heap.size w w0 → Calls Tryz.prog 133 #[.agg #[.int .i64 (m : Int), .slice ao xs.length cap, .slice so su.length sc, .slice tO sb.length tc], .bool bit, .int .i64 (m : Int)] w0 fun e w' => e = .returned (.int .i64 ((cB xs bit m : Nat) : Int)) ∧ Below w0.heap.size w0 w') := fun w0 hb => count_c m ao xs cap so su sc tO sb tc bit m w0 (h.keep hb) hk (Nat.le_refl _)
  have hps := psel_iff (m : Int) xs bit k
  rw [Int.toNat_natCast] at hps
  by_cases h0 : 0 ≤ k ∧ k < (cB xs bit m : Int)
  ·obtain ⟨q, hq⟩ := Option.isSome_iff_exists.1 (hps.2 h0)
   obtain ⟨n, rfl⟩ := Int.eq_ofNat_of_zero_le h0.1
   have R1 : Hid (psE (m : Int) xs su sb bit (n : Int) = 0) := by show psE (m : Int) xs su sb bit (n : Int) = 0; unfold psE; rw [hk, if_pos rfl, hq]; rfl
   have R2 : Hid (psX (m : Int) xs su sb bit (n : Int) = (q : Int)) := by show psX (m : Int) xs su sb bit (n : Int) = _; unfold psX; rw [hk, if_pos rfl, hq]; rfl
   rw [R1.out, R2.out]
   have C3 : Hid (∀ w0, Below w.heap.size w w0 → Calls Tryz.prog 134 #[.agg #[.int .i64 (m : Int), .slice ao xs.length cap, .slice so su.length sc, .slice tO sb.length tc], .bool bit, .int .i64 (n : Int)] w0 fun e w' => e = .returned (.int .i64 (q : Int)) ∧ Below w0.heap.size w0 w') := fun w0 hb => psought_c m ao xs cap so su sc tO sb tc bit n q w0 (h.keep hb) hk hq
   have h3 : ¬ ((cB xs bit m : Nat) : Int) ≤ (n : Int) := by omega
   have h3' : (n : Int) < ((cB xs bit m : Nat) : Int) := by omega
   have h4 : ¬ (n : Int) < 0 := by omega
   clear h hl hk h0 hk0 hps
   generalize cB xs bit m = Z at *
   go_enter Tryz.func81, Tryz.ntmps81
   go_wp2_with fail
   rw [← hW]
   refine (C1.out _ rfl).mono ?_
   rintro e w1 ⟨rfl, hb⟩
   have bw1 := bW.trans (hb.mono bW.size)
   replace B1 := B1.kept hb
   clear hb C1 hW bW W
   have x0 := B1.cell 0 rfl
   have x1 := B1.cell 1 rfl
   have x2 := B1.cell 2 rfl
   have x3 := B1.cell 3 rfl
   go_wp2_with fail
   refine (C2.out _ bw1).mono ?_
   rintro e w2 ⟨rfl, hb⟩
   have bw2 := bw1.trans (hb.mono bw1.size)
   replace B1 := B1.kept hb
   clear hb bw1 x0 x1 x2 x3
   have x0 := B1.cell 0 rfl
   have x1 := B1.cell 1 rfl
   have x2 := B1.cell 2 rfl
   have x3 := B1.cell 3 rfl
   go_wp2_with fail
   refine (C3.out _ bw2).mono ?_
   rintro e w3 ⟨rfl, hb⟩
   have bw3 := bw2.trans (hb.mono bw2.size)
   clear hb
   go_wp2
   go_ret2
   exact ⟨rfl, bw3⟩
  ·have hn : (pselO (m : Int) xs bit k).isSome = false := by
    cases e : (pselO (m : Int) xs bit k).isSome with
    | false => rfl
    | true => exact absurd (hps.1 e) h0
   have hn2 : pselO (m : Int) xs bit k = none := by simpa using hn
   have R1 : Hid (psE (m : Int) xs su sb bit k = 3) := by show psE (m : Int) xs su sb bit k = 3; unfold psE; rw [hk, if_pos rfl, hn2]; rfl
   have R2 : Hid (psX (m : Int) xs su sb bit k = 0) := by show psX (m : Int) xs su sb bit k = _; unfold psX; rw [hk, if_pos rfl, hn2]; rfl
   rw [R1.out, R2.out]
   clear h hl hk hps hn hn2
   by_cases h1 : k < 0
   ·go_enter Tryz.func81, Tryz.ntmps81
    go_wp2_with fail
    rw [← hW]
    refine (C1.out _ rfl).mono ?_
    rintro e w1 ⟨rfl, hb⟩
    have bw1 := bW.trans (hb.mono bW.size)
    replace B1 := B1.kept hb
    clear hb C1 hW bW W
    go_wp2
    go_ret2
    exact ⟨rfl, bw1⟩
   ·have h2 : ((cB xs bit m : Nat) : Int) ≤ k := by omega
    clear h0
    generalize cB xs bit m = Z at *
    go_enter Tryz.func81, Tryz.ntmps81
    go_wp2_with fail
    rw [← hW]
    refine (C1.out _ rfl).mono ?_
    rintro e w1 ⟨rfl, hb⟩
    have bw1 := bW.trans (hb.mono bW.size)
    replace B1 := B1.kept hb
    clear hb C1 hW bW W
    have x0 := B1.cell 0 rfl
    have x1 := B1.cell 1 rfl
    have x2 := B1.cell 2 rfl
    have x3 := B1.cell 3 rfl
    go_wp2_with fail
    refine (C2.out _ bw1).mono ?_
    rintro e w2 ⟨rfl, hb⟩
    have bw2 := bw1.trans (hb.mono bw1.size)
    clear hb
    go_wp2
    go_ret2
    exact ⟨rfl, bw2⟩
theorem p_gaB (N : Int) (xs : List Nat) (S T : List Int) (i : Int) : paB N xs S T i = gaB (pchk N xs S T) (piN N xs S T) (piX N xs S T) i := by
 unfold paB gaB piN piX
 cases pchk N xs S T <;> rfl
theorem p_gaE (N : Int) (xs : List Nat) (S T : List Int) (i : Int) : paE N xs S T i = gaE (pchk N xs S T) (piN N xs S T) (piX N xs S T) i := by
 unfold paE gaE piN piX
 cases pchk N xs S T <;> rfl
theorem p_grE (N : Int) (xs : List Nat) (S T : List Int) (i : Int) : prE N xs S T i = grE (pchk N xs S T) (piN N xs S T) i := by
 unfold prE grE piN
 cases pchk N xs S T <;> rfl
theorem p_grN (N : Int) (xs : List Nat) (S T : List Int) (b : Bool) (i : Int) : prN N xs S T b i = grN (pchk N xs S T) (piN N xs S T) (piX N xs S T) b i := by
 unfold prN grN
 rw [p_grE]
 unfold grE piN piX
 cases pchk N xs S T <;> rfl
theorem p_gsX (N : Int) (xs : List Nat) (S T : List Int) (b : Bool) (i : Int) : psX N xs S T b i = gsX (pchk N xs S T) (piN N xs S T) (piX N xs S T) b i := by
 unfold psX gsX piN piX
 cases pchk N xs S T <;> rfl
theorem p_gsE (N : Int) (xs : List Nat) (S T : List Int) (b : Bool) (i : Int) : psE N xs S T b i = gsE (pchk N xs S T) (piN N xs S T) (piX N xs S T) b i := by
 unfold psE gsE piN piX
 cases pchk N xs S T <;> rfl
theorem PlOut.ki {base : Nat} {w : World} {bo : Option Addr} {bc : Nat} {so : Option Addr} {sc : Nat} {tO : Option Addr} {tc : Nat} (N : Int) (xs : List Nat) (hn : I64 N) (hf : Fit xs) (hl : xs.length ≤ 1048576) (h : PlOut base w bo (pbX N xs) bc so (pbS N xs) sc tO (pbT N xs) tc) :
  KI7 w [.int .i64 (pbN N xs), .slice bo (pbX N xs).length bc, .slice so (pbS N xs).length sc, .slice tO (pbT N xs).length tc] (kB7 N xs) := by
 have hp := h.plin N xs hn hf hl
 exact ⟨⟨bo, bc, so, sc, tO, tc, rfl, ⟨hp.n, hp.x, hp.f, hp.c, hp.s, hp.sf, hp.sc, hp.t, hp.tf, hp.tc⟩⟩, hp.l, hp.sl, hp.tl⟩
theorem build_k7 (N : Int) (ao : Option Addr) (xs : List Nat) (cap : Nat) (w : World) (hN : I64 N) (hx : Wd w ao xs) (hf : Fit xs) (hcap : xs.length ≤ cap) (hl : xs.length ≤ 1048576) :
  Calls Tryz.prog 52 #[.agg #[.int .i64 N, .slice ao xs.length cap]] w fun e w' => ∃ cs : List Value, e = .returned (.tuple #[.agg cs.toArray, .int .i64 (kE7 N xs)]) ∧ KI7 w' cs (kB7 N xs) ∧ NF w.heap.size 2 cs ∧ Below w.heap.size w w' := by
 refine (build_p N ao xs cap w hN hx hf hcap hl).mono ?_
 rintro e w' ⟨bo, bc, so, sc, tO, tc, rfl, ho, hb⟩
 exact ⟨_, rfl, ho.ki N xs hN hf hl, nf_mk ho.sn ho.tn, hb⟩
theorem check_k7 (cs : List Value) (a : RA7) (w : World) (h : KI7 w cs a) :
  Calls Tryz.prog 84 #[.agg cs.toArray] w fun e w' => e = .returned (.bool (kOk7 a)) ∧ Below w.heap.size w w' := by
 obtain ⟨⟨ao, cap, so, sc, tO, tc, rfl, h⟩, xl, sl, tl⟩ := h
 exact check_p a.N ao a.xs cap so a.S sc tO a.T tc w (h.plin xl sl tl)
theorem bits_k7 (cs : List Value) (a : RA7) (w : World) (h : KI7 w cs a) :
  Calls Tryz.prog 87 #[.agg cs.toArray] w fun e w' => ∃ bo bc, e = .returned (.agg #[.int .i64 (kBN7 a), .slice bo (kBX7 a).length bc]) ∧ Wd w' bo (kBX7 a) ∧ (kBX7 a).length ≤ bc ∧ Below w.heap.size w w' := by
 obtain ⟨⟨ao, cap, so, sc, tO, tc, rfl, h⟩, xl, sl, tl⟩ := h
 exact bits_p a.N ao a.xs cap so a.S sc tO a.T tc w (h.plin xl sl tl)
theorem size_k7 (cs : List Value) (a : RA7) (w : World) (h : KI7 w cs a) :
  Calls Tryz.prog 73 #[.agg cs.toArray] w fun e w' => e = .returned (.int .i64 (kZ7 a)) ∧ Below w.heap.size w w' := by
 obtain ⟨⟨ao, cap, so, sc, tO, tc, rfl, h⟩, xl, sl, tl⟩ := h
 exact size_p a.N ao a.xs cap so a.S sc tO a.T tc w (h.plin xl sl tl)
theorem access_k7 (cs : List Value) (a : RA7) (i : Int) (w : World) (h : KI7 w cs a) (hi : I64 i) :
  Calls Tryz.prog 63 #[.agg cs.toArray, .int .i64 i] w fun e w' => e = .returned (.tuple #[.bool (gaB (kOk7 a) (kBN7 a) (kBX7 a) i), .int .i64 (gaE (kOk7 a) (kBN7 a) (kBX7 a) i)]) ∧ Below w.heap.size w w' := by
 obtain ⟨⟨ao, cap, so, sc, tO, tc, rfl, h⟩, xl, sl, tl⟩ := h
 have := access_p a.N ao a.xs cap so a.S sc tO a.T tc i w (h.plin xl sl tl) hi
 rw [p_gaB, p_gaE] at this
 exact this
theorem rank_k7 (cs : List Value) (a : RA7) (bit : Bool) (i : Int) (w : World) (h : KI7 w cs a) (hi : I64 i) :
  Calls Tryz.prog 120 #[.agg cs.toArray, .bool bit, .int .i64 i] w fun e w' => e = .returned (.tuple #[.int .i64 (grN (kOk7 a) (kBN7 a) (kBX7 a) bit i), .int .i64 (grE (kOk7 a) (kBN7 a) i)]) ∧ Below w.heap.size w w' := by
 obtain ⟨⟨ao, cap, so, sc, tO, tc, rfl, h⟩, xl, sl, tl⟩ := h
 have := rank_p a.N ao a.xs cap so a.S sc tO a.T tc bit i w (h.plin xl sl tl) hi
 rw [p_grN, p_grE] at this
 exact this
theorem select_k7 (cs : List Value) (a : RA7) (bit : Bool) (k : Int) (w : World) (h : KI7 w cs a) (hi : I64 k) :
  Calls Tryz.prog 81 #[.agg cs.toArray, .bool bit, .int .i64 k] w fun e w' => e = .returned (.tuple #[.int .i64 (gsX (kOk7 a) (kBN7 a) (kBX7 a) bit k), .int .i64 (gsE (kOk7 a) (kBN7 a) (kBX7 a) bit k)]) ∧ Below w.heap.size w w' := by
 obtain ⟨⟨ao, cap, so, sc, tO, tc, rfl, h⟩, xl, sl, tl⟩ := h
 have := select_p a.N ao a.xs cap so a.S sc tO a.T tc bit k w (h.plin xl sl tl) hi
 rw [p_gsX, p_gsE] at this
 exact this
end Go.Proofs.YtfnkklkdajlhlaaGreatDoor
namespace Go.Proofs.YtfnkklkdajlhlaaGreatDoor
open Num Bit Bn
theorem cnt_none (n : Nat) : cnt 0 n = 0 := by
 induction n with
 | zero => rfl
 | succ n ih => rw [cnt, ih, Nat.zero_div]
theorem off_none (n : Nat) : off 0 n = 0 := by
 induction n with
 | zero => rfl
 | succ n ih => rw [off, ih, Nat.zero_div]; rfl
theorem blk_in : ∀ n k o, o < ch n k → cnt (blk n k o) n = k ∧ off (blk n k o) n = o := by
 intro n
 induction n with
 | zero =>
  intro k o h
  cases k with
  | zero =>
   have h : o < 1 := h
   exact ⟨rfl, by show 0 = o; omega⟩
  | succ k => exact absurd h (by show ¬ o < 0; omega)
 | succ n ih =>
  intro k o h
  by_cases hk : k = 0
  ·subst hk
   rw [ch_zero] at h
   rw [blk_zero, cnt_none, off_none]
   exact ⟨rfl, by omega⟩
  ·obtain ⟨j, rfl⟩ : ∃ j, k = j + 1 := ⟨k - 1, by omega⟩
   rw [ch_succ] at h
   have P := Nat.two_pow_pos n
   by_cases c : ch n (j + 1) ≤ o
   ·rw [blk_hi n (j + 1) o hk c, Nat.add_sub_cancel]
    obtain ⟨h1, h2⟩ := ih j (o - ch n (j + 1)) (by omega)
    have hb := blk_lt n j (o - ch n (j + 1))
    generalize blk n j (o - ch n (j + 1)) = b at *
    have e1 : (2 ^ n + b) / 2 ^ n = 1 := by rw [Nat.add_div_left _ P, Nat.div_eq_of_lt hb]
    have e2 : (2 ^ n + b) % 2 ^ n = b := by rw [Nat.add_mod_left, Nat.mod_eq_of_lt hb]
    have e3 : cnt (2 ^ n + b) n = j := by rw [← cnt_mod (2 ^ n + b) n n (Nat.le_refl _), e2, h1]
    have e4 : off (2 ^ n + b) n = o - ch n (j + 1) := by rw [← off_mod (2 ^ n + b) n n (Nat.le_refl _), e2, h2]
    have e5 : cnt (2 ^ n + b) (n + 1) = j + 1 := by rw [cnt, e3, e1]
    refine ⟨e5, ?_⟩
    rw [off, e1, if_pos rfl, e5, e4]
    omega
   ·rw [blk_lo n (j + 1) o hk c]
    obtain ⟨h1, h2⟩ := ih (j + 1) o (by omega)
    have hb := blk_lt n (j + 1) o
    generalize blk n (j + 1) o = b at *
    have e1 : b / 2 ^ n = 0 := Nat.div_eq_of_lt hb
    refine ⟨by rw [cnt, h1, e1], ?_⟩
    rw [off, e1, h2]
    simp
def cls (xs : List Nat) (i : Nat) : Nat := numAt 4 xs i
def cOn (xs : List Nat) : Nat → Nat
 | 0 => 0
 | i + 1 => cOn xs i + cls xs i
def cAt (xs : List Nat) : Nat → Nat
 | 0 => 0
 | i + 1 => cAt xs i + kwd (cls xs i)
def cSE (L : Int) (ys xs : List Nat) (i : Nat) : Int := slcE L ys (cAt xs i) (kwd (cls xs i))
def cOff (L : Int) (ys xs : List Nat) (i : Nat) : Nat := slcX L ys (cAt xs i) (kwd (cls xs i))
def cWd (L : Int) (ys xs : List Nat) (i : Nat) : Nat := blk 15 (cls xs i) (cOff L ys xs i)
theorem cls_le (xs : List Nat) (i : Nat) : cls xs i ≤ 15 := by
 have : cls xs i < 2 ^ 4 := numOf_lt _ _
 omega
theorem cOn_le (xs : List Nat) (i : Nat) : cOn xs i ≤ 15 * i := by
 induction i with
 | zero => exact Nat.le_refl _
 | succ i ih => have := cls_le xs i; rw [cOn]; omega
theorem cAt_le (xs : List Nat) (i : Nat) : cAt xs i ≤ 13 * i := by
 induction i with
 | zero => exact Nat.le_refl _
 | succ i ih => have := kwd_le13 (cls xs i) (cls_le xs i); rw [cAt]; omega
theorem cOff_lt (L : Int) (ys xs : List Nat) (i : Nat) : cOff L ys xs i < 8192 := by
 have k := kwd_le13 (cls xs i) (cls_le xs i)
 unfold cOff slcX
 split
 ·rw [Int.toNat_natCast]
  refine Nat.lt_of_lt_of_le (numOf_lt _ _) ?_
  exact Nat.pow_le_pow_right (n := 2) (j := 13) (by decide) k
 ·decide
theorem cAt_find (xs : List Nat) : ∀ n j, j < cAt xs n → ∃ i t, i < n ∧ t < kwd (cls xs i) ∧ j = cAt xs i + t := by
 intro n
 induction n with
 | zero => intro j h; exact absurd h (by show ¬ j < 0; omega)
 | succ n ih =>
  intro j h
  rw [cAt] at h
  by_cases c : j < cAt xs n
  ·obtain ⟨i, t, h1, h2, h3⟩ := ih j c
   exact ⟨i, t, by omega, h2, h3⟩
  ·exact ⟨n, j - cAt xs n, by omega, by omega, by omega⟩
structure CK (a : RA8) (m : Nat) : Prop where
 nN : a.N = m
 le : m ≤ 1048576
 nk : a.k = nb m
 nV : a.V = 4
 ic : ichk a.k a.V a.M a.xs = true
 oc : chk a.L a.ys = true
 sl : a.S.length = gN m
 tl : a.T.length = gN m
 s0 : gi a.S 0 = 0
 t0 : gi a.T 0 = 0
 each : ∀ i, i < nb m → cSE a.L a.ys a.xs i = 0 ∧ cOff a.L a.ys a.xs i < ch 15 (cls a.xs i) ∧ (i % 8 = 0 → gi a.S (i / 8) = cOn a.xs i ∧ gi a.T (i / 8) = cAt a.xs i)
 done : (cAt a.xs (nb m) : Int) = a.L
 last : 0 < nb m → cWd a.L a.ys a.xs (nb m - 1) < 2 ^ (m - 15 * (nb m - 1))
theorem kb_is (m : Nat) (X : List Nat) (hk : chk (m : Int) X = true) : kB8 (m : Int) X = ⟨m, nb m, 4, (nb m : Int) * 4, rC m (bitAt X), bat m (bitAt X) (nb m), rO m (bitAt X), rS m (bitAt X), rT m (bitAt X)⟩ := by
 unfold kB8 rbN rbK rbV rbM rbC rbL rbO rbS rbT
 rw [hk, Int.toNat_natCast]
 rfl
theorem gN_in (m j : Nat) (h : j < gN m) (h0 : j ≠ 0) : 8 * j < nb m := by unfold gN at h; omega
theorem ck_kb (a : RA8) (m : Nat) (hfx : Fit a.xs) (hfy : Fit a.ys) (h : CK a m) : ∃ X, Fit X ∧ chk (m : Int) X = true ∧ a = kB8 m X := by
 obtain ⟨N, k, V, M, xs, L, ys, S, T⟩ := a
 obtain ⟨hN, hm, hk, hV, ic, oc, sl, tl, s0, t0, ea, en, la⟩ := h
 dsimp only at *
 subst hN hk hV
 obtain ⟨_, _, _, hM, ck, _, _, _⟩ := ichk_out _ _ _ _ ic
 obtain ⟨f, hf⟩ : ∃ f : Nat → Bool, f = fun j => (cWd L ys xs (j / 15)).testBit (j % 15) := ⟨_, rfl⟩
 obtain ⟨X, hX⟩ : ∃ X, X = rowOf m f := ⟨_, rfl⟩
 have fX : Fit X := by rw [hX]; exact fit_rowOf _ _
 have cX : chk (m : Int) X = true := by rw [hX]; exact chk_rowOf _ _ hm
 have bX : ∀ j, bitAt X j = (decide (j < m) && f j) := fun j => by rw [hX]; exact bitAt_rowOf _ _ _
 have B : ∀ i, i < nb m → blv m (bitAt X) i = cWd L ys xs i := by
  intro i hi
  unfold blv
  refine (eq_numOf 15 _ _ fun t => ?_).symm
  have hw : cWd L ys xs i < 2 ^ 15 := blk_lt _ _ _
  by_cases c : t < 15
  ·have e1 : (15 * i + t) / 15 = i := by omega
   have e2 : (15 * i + t) % 15 = t := by omega
   rw [bX, hf]
   dsimp only
   rw [e1, e2]
   by_cases d : 15 * i + t < m
   ·simp [c, d]
   ·have hi2 : i = nb m - 1 := by unfold nb at hi ⊢; omega
    have l := la (by omega)
    rw [← hi2] at l
    have : cWd L ys xs i < 2 ^ t := Nat.lt_of_lt_of_le l (Nat.pow_le_pow_right (by decide) (by omega))
    rw [Nat.testBit_lt_two_pow this]
    simp [d]
  ·rw [Nat.testBit_lt_two_pow (Nat.lt_of_lt_of_le hw (Nat.pow_le_pow_right (by decide) (by omega)))]
   simp [c]
 have C : ∀ i, i < nb m → bcl m (bitAt X) i = cls xs i ∧ bof m (bitAt X) i = cOff L ys xs i := by
  intro i hi
  unfold bcl bof
  rw [B i hi]
  exact blk_in 15 _ _ (ea i hi).2.1
 have A : ∀ i, i ≤ nb m → bat m (bitAt X) i = cAt xs i ∧ bon m (bitAt X) i = cOn xs i := by
  intro i
  induction i with
  | zero => intro _; exact ⟨rfl, rfl⟩
  | succ i ih =>
   intro hi
   obtain ⟨h1, h2⟩ := ih (by omega)
   obtain ⟨c1, c2⟩ := C i (by omega)
   rw [bat, bon, cAt, cOn, h1, h2, bwd, c1]
   exact ⟨rfl, rfl⟩
 have x1 : xs = rC m (bitAt X) := by
  unfold rC mkS
  rw [length_bclP]
  refine (chk_row _ xs hfx ck).trans ?_
  rw [← hM, show ((nb m : Int) * 4).toNat = nb m * 4 by omega]
  refine rowOf_congr _ _ _ fun j hj => ?_
  have hj4 : j / 4 < nb m := by omega
  rw [gt_bclP _ _ _ _ hj4, (C _ hj4).1]
  unfold cls numAt
  rw [testBit_numOf, show j / 4 * 4 + j % 4 = j by omega]
  simp [hj, show j % 4 < 4 by omega]
 have x2 : ys = rO m (bitAt X) := by
  unfold rO
  rw [fr_off]
  refine (chk_row _ ys hfy oc).trans ?_
  rw [← en, Int.toNat_natCast, (A (nb m) (Nat.le_refl _)).1]
  refine rowOf_congr _ _ _ fun j hj => ?_
  obtain ⟨i, t, hi, ht, rfl⟩ := cAt_find xs (nb m) j hj
  have hb : t < bwd m (bitAt X) i := by rw [bwd, (C i hi).1]; exact ht
  have g := bofP_get m (bitAt X) (nb m) i t hi hb
  rw [(A i (by omega)).1] at g
  rw [List.getD_eq_getElem?_getD, g, (C i hi).2]
  unfold cOff slcX
  rw [if_pos (show slcE L ys (cAt xs i) (kwd (cls xs i)) = 0 from (ea i hi).1), testBit_numOf, Int.toNat_natCast, Int.toNat_natCast]
  simp [ht]
 have x3 : S = rS m (bitAt X) := by
  unfold rS
  refine gi_ext (by rw [sl, length_onL]) fun j hj => ?_
  unfold onL
  rw [gi_map _ _ _ (by omega)]
  by_cases c : j = 0
  ·subst c; exact s0
  ·have h8 := gN_in m j (by omega) c
   have := ((ea (8 * j) h8).2.2 (by omega)).1
   rw [show 8 * j / 8 = j by omega] at this
   rw [this, (A (8 * j) (by omega)).2]
 have x4 : T = rT m (bitAt X) := by
  unfold rT
  refine gi_ext (by rw [tl, length_ptL]) fun j hj => ?_
  unfold ptL
  rw [gi_map _ _ _ (by omega)]
  by_cases c : j = 0
  ·subst c; exact t0
  ·have h8 := gN_in m j (by omega) c
   have := ((ea (8 * j) h8).2.2 (by omega)).2
   rw [show 8 * j / 8 = j by omega] at this
   rw [this, (A (8 * j) (by omega)).1]
 refine ⟨X, fX, cX, ?_⟩
 rw [kb_is m X cX, ← x1, ← x2, ← x3, ← x4, (A (nb m) (Nat.le_refl _)).1, en, ← hM]
theorem ck_ok (a : RA8) (m : Nat) (hfx : Fit a.xs) (hfy : Fit a.ys) (h : CK a m) : kOk8 a = true := by
 obtain ⟨X, f, c, e⟩ := ck_kb a m hfx hfy h
 rw [e]
 exact (kB_ok8 m X f c).1
theorem ok_kb (a : RA8) (h : kOk8 a = true) : ∃ m : Nat, kBN8 a = (m : Int) ∧ m ≤ 1048576 ∧ Fit (kBX8 a) ∧ chk (m : Int) (kBX8 a) = true ∧ a = kB8 m (kBX8 a) := by
 have c := kB_chk8 a h
 have f := kB_fit8 a
 have hr : rOk a.N a.k a.V a.M a.xs a.L a.ys a.S a.T = true := h
 obtain ⟨h0, _, _, h4⟩ := rOk_out _ _ _ _ _ _ _ _ _ hr
 obtain ⟨e1, e2, e3, e4, e5, e6, e7, e8, e9⟩ := rEq_out _ _ _ _ _ _ _ _ _ _ _ h4
 have n : kBN8 a = ((rwN (rDec a.N a.k a.V a.xs a.L a.ys) : Nat) : Int) := by unfold kBN8 rBN; rw [if_pos hr]
 have x : rwX (rDec a.N a.k a.V a.xs a.L a.ys) = kBX8 a := by unfold kBX8 rBX; rw [if_pos hr]
 rw [x] at e5 e6 e7 e8 e9
 refine ⟨rwN (rDec a.N a.k a.V a.xs a.L a.ys), n, by omega, f, by rw [← n]; exact c, ?_⟩
 generalize rwN (rDec a.N a.k a.V a.xs a.L a.ys) = m at *
 rw [n] at c
 rw [kb_is m _ c]
 generalize kBX8 a = X at *
 obtain ⟨N, k, V, M, xs, L, ys, S, T⟩ := a
 dsimp only at *
 subst e1 e2 e3 e4 e5 e6 e7 e8 e9
 rfl
theorem kb_read (m : Nat) (X : List Nat) (hm : m ≤ 1048576) (hk : chk (m : Int) X = true) :
  (∀ i, i < nb m → cls (rC m (bitAt X)) i = bcl m (bitAt X) i) ∧ (∀ i, i ≤ nb m → cAt (rC m (bitAt X)) i = bat m (bitAt X) i ∧ cOn (rC m (bitAt X)) i = bon m (bitAt X) i) ∧
  (∀ i, i < nb m → cSE (bat m (bitAt X) (nb m)) (rO m (bitAt X)) (rC m (bitAt X)) i = 0 ∧ cOff (bat m (bitAt X) (nb m)) (rO m (bitAt X)) (rC m (bitAt X)) i = bof m (bitAt X) i ∧ cWd (bat m (bitAt X) (nb m)) (rO m (bitAt X)) (rC m (bitAt X)) i = blv m (bitAt X) i) := by
 have C : ∀ i, i < nb m → cls (rC m (bitAt X)) i = bcl m (bitAt X) i := by
  intro i hi
  have := numAt_mk (bclP m (bitAt X) (nb m)) 4 (by decide) (bclP_lt m (bitAt X) (nb m)) i (by rw [length_bclP]; exact hi)
  rw [length_bclP, gt_bclP m (bitAt X) _ i hi] at this
  exact this
 have A : ∀ i, i ≤ nb m → cAt (rC m (bitAt X)) i = bat m (bitAt X) i ∧ cOn (rC m (bitAt X)) i = bon m (bitAt X) i := by
  intro i
  induction i with
  | zero => intro _; exact ⟨rfl, rfl⟩
  | succ i ih =>
   intro hi
   obtain ⟨h1, h2⟩ := ih (by omega)
   rw [bat, bon, cAt, cOn, h1, h2, bwd, C i (by omega)]
   exact ⟨rfl, rfl⟩
 refine ⟨C, A, fun i hi => ?_⟩
 have R := reads_row m (bitAt X) hm i hi
 rw [← fr_off, wdN_k _ (bcl_le _ _ _)] at R
 unfold cWd cSE cOff
 rw [C i hi, (A i (by omega)).1]
 refine ⟨R.1, R.2, ?_⟩
 have e : slcX (bat m (bitAt X) (nb m) : Int) (rO m (bitAt X)) (bat m (bitAt X) i : Int) (kwd (bcl m (bitAt X) i) : Int) = bof m (bitAt X) i := R.2
 rw [e]
 have := blk_off (blv m (bitAt X) i) 15
 unfold bcl bof
 rw [this, Nat.mod_eq_of_lt (blv_lt m (bitAt X) i)]
theorem kb_ck (m : Nat) (X : List Nat) (hm : m ≤ 1048576) (hk : chk (m : Int) X = true) : CK (kB8 m X) m := by
 obtain ⟨C, A, R⟩ := kb_read m X hm hk
 have hn := nb_le m hm
 have hb := bat_le m (bitAt X) (nb m)
 rw [kb_is m X hk]
 have i1 : ichk (nb m : Int) 4 ((nb m : Int) * 4) (rC m (bitAt X)) = true := by
  have := ichk_mk (bclP m (bitAt X) (nb m)) 4 (by decide) (by decide) (by rw [length_bclP]; omega)
  rw [length_bclP] at this
  unfold rC
  rw [show ((nb m : Int) * 4) = ((nb m * 4 : Nat) : Int) by omega]
  exact this
 have i2 : chk (bat m (bitAt X) (nb m) : Int) (rO m (bitAt X)) = true := by
  unfold rO
  rw [fr_off]
  exact chk_rowOf _ _ (by omega)
 have hg : 0 < gN m := by unfold gN; omega
 have gs : ∀ j, j < gN m → gi (rS m (bitAt X)) j = (bon m (bitAt X) (8 * j) : Int) := fun j hj => by unfold rS onL; rw [gi_map _ _ _ hj]
 have gt' : ∀ j, j < gN m → gi (rT m (bitAt X)) j = (bat m (bitAt X) (8 * j) : Int) := fun j hj => by unfold rT ptL; rw [gi_map _ _ _ hj]
 refine ⟨rfl, hm, rfl, rfl, i1, i2, by unfold rS; rw [length_onL], by unfold rT; rw [length_ptL], gs 0 hg, gt' 0 hg, ?_, ?_, ?_⟩
 ·intro i hi
  dsimp only
  obtain ⟨r1, r2, _⟩ := R i hi
  refine ⟨r1, by rw [r2, C i hi]; exact bof_lt _ _ _, fun h8 => ?_⟩
  have hj : i / 8 < gN m := by unfold gN; omega
  rw [gs _ hj, gt' _ hj, show 8 * (i / 8) = i by omega, (A i (by omega)).1, (A i (by omega)).2]
  exact ⟨rfl, rfl⟩
 ·dsimp only
  rw [(A (nb m) (Nat.le_refl _)).1]
 ·intro h0
  dsimp only
  rw [(R (nb m - 1) (by omega)).2.2]
  unfold blv
  have hr : m - 15 * (nb m - 1) ≤ 15 := by unfold nb at h0 ⊢; omega
  have e : numOf 15 (fun k => decide (15 * (nb m - 1) + k < m) && bitAt X (15 * (nb m - 1) + k)) = numOf (m - 15 * (nb m - 1)) (fun k => decide (15 * (nb m - 1) + k < m) && bitAt X (15 * (nb m - 1) + k)) := by
   refine eq_numOf _ _ _ fun t => ?_
   rw [testBit_numOf]
   by_cases c : t < m - 15 * (nb m - 1)
   ·simp [c, show t < 15 by omega]
   ·simp [c, show ¬ 15 * (nb m - 1) + t < m by omega]
  rw [e]
  exact numOf_lt _ _
theorem blv_cnt (m : Nat) (X : List Nat) (j : Nat) : ∀ r, r ≤ 15 → 15 * j + r ≤ m → cntB X (15 * j + r) = cntB X (15 * j) + cnt (blv m (bitAt X) j) r := by
 intro r
 induction r with
 | zero => intro _ _; rfl
 | succ r ih =>
  intro h1 h2
  have e := ih (by omega) (by omega)
  rw [show 15 * j + (r + 1) = 15 * j + r + 1 by omega, cntB, e, cnt]
  have t : (blv m (bitAt X) j).testBit r = bitAt X (15 * j + r) := by
   unfold blv
   rw [testBit_numOf]
   simp [show r < 15 by omega, show 15 * j + r < m by omega]
  rw [bit_test] at t
  rw [← t]
  have : (blv m (bitAt X) j / 2 ^ r % 2) < 2 := Nat.mod_lt _ (by decide)
  by_cases c : blv m (bitAt X) j / 2 ^ r % 2 = 1
  ·simp [c]; omega
  ·simp [c]; omega
theorem bon_cnt (m : Nat) (X : List Nat) : ∀ j, 15 * j ≤ m → bon m (bitAt X) j = cntB X (15 * j) := by
 intro j
 induction j with
 | zero => intro _; rfl
 | succ j ih =>
  intro h
  have e := blv_cnt m X j 15 (Nat.le_refl _) (by omega)
  rw [bon, ih (by omega), show 15 * (j + 1) = 15 * j + 15 by omega, e]
  rfl
def obI (bit : Bool) (i n : Nat) : Nat := if bit then n else i - n
def wbk (m : Nat) (X : List Nat) (bit : Bool) (i : Nat) : Nat := if bit then blv m (bitAt X) i else 18446744073709551615 - blv m (bitAt X) i
theorem wbk_cnt (m : Nat) (X : List Nat) (bit : Bool) (i r : Nat) (hr : r ≤ 15) (hm : 15 * i + r ≤ m) : cB X bit (15 * i + r) = cB X bit (15 * i) + cnt (wbk m X bit i) r := by
 have a := blv_cnt m X i r hr hm
 have l := cntB_le X (15 * i)
 have l2 := cnt_le (blv m (bitAt X) i) r
 have hb := blv_lt m (bitAt X) i
 unfold cB wbk
 cases bit with
 | true => simp only [if_true]; exact a
 | false =>
  have f := cnt_flip (blv m (bitAt X) i) r 64 (by omega) (by omega)
  rw [show (2 ^ 64 - 1 - blv m (bitAt X) i) = 18446744073709551615 - blv m (bitAt X) i by omega] at f
  simp only [Bool.false_eq_true, if_false]
  rw [a, f]
  omega
theorem wbk_bit (m : Nat) (X : List Nat) (bit : Bool) (i r : Nat) (hr : r < 15) (hm : 15 * i + r < m) (h : bitAt X (15 * i + r) = bit) : wbk m X bit i / 2 ^ r % 2 = 1 := by
 have a := wbk_cnt m X bit i r (by omega) (by omega)
 have b := wbk_cnt m X bit i (r + 1) (by omega) (by omega)
 have c := cB_succ X bit (15 * i + r)
 rw [if_pos h] at c
 rw [show 15 * i + (r + 1) = 15 * i + r + 1 by omega] at b
 simp only [cnt] at b
 have : (wbk m X bit i / 2 ^ r % 2) < 2 := Nat.mod_lt _ (by decide)
 revert b
 generalize wbk m X bit i / 2 ^ r % 2 = z at *
 intro b
 omega
theorem sought_blk (m : Nat) (X : List Nat) (bit : Bool) (k i : Nat) (hk : k < cB X bit m) (hi : i < nb m) (h1 : cB X bit (15 * i) ≤ k) (h2 : k < cB X bit (15 * i) + obI bit 15 (bcl m (bitAt X) i)) :
  ∃ r : Nat, r < 15 ∧ selI (wbk m X bit i : Int) ((k : Int) - (cB X bit (15 * i) : Int)) = (r : Int) ∧ pselO (m : Int) X bit (k : Int) = some (15 * i + r) := by
 have hs : (pselO (m : Int) X bit (k : Int)).isSome = true := (psel_iff _ _ _ _).2 ⟨by omega, by rw [Int.toNat_natCast]; omega⟩
 obtain ⟨q, hq⟩ := Option.isSome_iff_exists.1 hs
 obtain ⟨g1, g2, g3⟩ := psel_spec _ _ _ _ _ hq
 rw [Int.toNat_natCast] at g1
 have e1 : 15 * i ≤ q := by
  apply Nat.le_of_not_lt
  intro c
  have a := cB_succ X bit q
  rw [if_pos g2] at a
  have b := cB_mono X bit (q + 1) (15 * i - (q + 1))
  rw [show q + 1 + (15 * i - (q + 1)) = 15 * i by omega] at b
  omega
 have e2 : q < 15 * (i + 1) := by
  apply Nat.lt_of_not_le
  intro c
  have w := wbk_cnt m X bit i 15 (Nat.le_refl _) (by omega)
  have b := cB_mono X bit (15 * i + 15) (q - (15 * i + 15))
  rw [show 15 * i + 15 + (q - (15 * i + 15)) = q by omega] at b
  have f : cnt (wbk m X bit i) 15 = obI bit 15 (bcl m (bitAt X) i) := by
   unfold wbk obI bcl
   cases bit with
   | true => rfl
   | false =>
    have hb := blv_lt m (bitAt X) i
    have f := cnt_flip (blv m (bitAt X) i) 15 64 (by omega) (by omega)
    rw [show (2 ^ 64 - 1 - blv m (bitAt X) i) = 18446744073709551615 - blv m (bitAt X) i by omega] at f
    exact f
  omega
 have ei : q = 15 * i + (q - 15 * i) := by omega
 refine ⟨q - 15 * i, by omega, ?_, by rw [← ei]; exact hq⟩
 have w1 := wbk_bit m X bit i (q - 15 * i) (by omega) (by omega) (by rw [← ei]; exact g2)
 have w2 := wbk_cnt m X bit i (q - 15 * i) (by omega) (by omega)
 rw [← ei] at w2
 unfold selI
 rw [Int.toNat_natCast]
 have := selGo_find (wbk m X bit i) ((k : Int) - (cB X bit (15 * i) : Int)) (q - 15 * i) w1 (by omega) (q - 15 * i) 0 (by omega) (by omega)
 rw [show 64 - 0 = 64 from rfl] at this
 rw [this]
end Go.Proofs.YtfnkklkdajlhlaaGreatDoor
namespace Go.Proofs.YtfnkklkdajlhlaaGreatDoor
open Go.RowKit Num Bn
namespace Ow
theorem cel_wv {w : World} {g : Nat} {ys : List Nat} {T : TypeId} (h : Cel w g (wv ys) T) (j : Nat) (hj : j < ys.length) : w.cell? ⟨g, j, none⟩ = some (.int .u64 (gt ys j)) :=
 h.cell j (by simp [wv, gt_get ys j hj])
theorem cel_set {w : World} {g : Nat} {ys : List Nat} {T : TypeId} (h : Cel w g (wv ys) T) (j v : Nat) : Cel (w.setCell ⟨g, j, none⟩ (.int .u64 v)) g (wv (ys.set j v)) T := by
 have := h.set j (.int .u64 v)
 rwa [show (wv ys).set j (.int .u64 v) = wv (ys.set j v) by simp [wv, List.map_set]] at this
theorem pas_back (n i q : Nat) (hi : 1 ≤ i) (hq : q + 1 ≤ n) : (pas n i q).set (q + 1) (ch i (q + 1) - ch (i - 1) q) = pas n i (q + 1) := by
 refine list_ext (by rw [List.length_set, length_pas, length_pas]) fun t ht => ?_
 rw [List.length_set, length_pas] at ht
 rw [gt_set _ _ _ _ (by rw [length_pas]; omega), gt_pas _ _ _ _ (by omega), gt_pas _ _ _ _ (by omega)]
 by_cases c : q + 1 = t
 ·subst c
  obtain ⟨a, rfl⟩ : ∃ a, i = a + 1 := ⟨i - 1, by omega⟩
  rw [if_pos rfl, if_neg (by omega), ch_succ, Nat.add_sub_cancel]
  omega
 ·rw [if_neg c]
  by_cases d : q < t
  ·rw [if_pos d, if_pos (by omega)]
  ·rw [if_neg d, if_neg (by omega)]
theorem grow_c (g i : Nat) (hi : i < 62) (w : World) (h : Cel w g (wv (rowP 62 i)) 233) :
  Calls Tryz.prog 204 #[.pointer (some ⟨g, 0, none⟩), .int .i64 i] w fun e w' => e = .returned (.tuple #[]) ∧ Cel w' g (wv (rowP 62 (i + 1))) 233 ∧ Below g w w' := by
 go_enter Tryz.func204, Tryz.ntmps204
 go_wp2
 go_loopw [4] (fun j wz => ∃ q : Nat, q ≤ i + 1 ∧ j = .int .i64 q ∧ Cel wz g (wv (pas 62 (i + 1) q)) 233 ∧ Below g w wz) (fun j _ => (intOf j).toNat)
 case atStart => exact ⟨i + 1, Nat.le_refl _, by go_num, by rw [pas_first]; exact h, Below.refl _ _⟩
 case round =>
  obtain ⟨q, hq, rfl, hOz, hwz⟩ := hrel
  clear h
  by_cases h0 : q = 0
  ·subst h0
   rw [pas_last] at hOz
   have HO : Hid (Cel wr g (wv (rowP 62 (i + 1))) 233) := hOz
   clear hOz
   go_wp2
   refine bodyPost_end (results_none rfl _ _ _) rfl ?_
   exact ⟨rfl, HO.out, hwz⟩
  ·have q0 : (0 : Int) < (q : Int) := by omega
   have e1 := cel_wv hOz q (by rw [length_pas]; omega)
   have e2 := cel_wv hOz (q - 1) (by rw [length_pas]; omega)
   have fz := hOz.frozen q
   have l1 : (q : Int) < 63 := by omega
   have l2 : (q : Int) - 1 < 63 := by omega
   rw [gt_pas _ _ _ _ (by omega), if_neg (by omega), Nat.add_sub_cancel] at e1 e2
   have b1 := ch62 i q (by omega)
   have b2 := ch62 i (q - 1) (by omega)
   have st := cel_set hOz q (ch i q + ch i (q - 1))
   have ps := pas_step 62 (i + 1) q (by omega) (by omega) (by omega)
   rw [Nat.add_sub_cancel] at ps
   rw [ps] at st
   have HO : Hid (Cel (wr.setCell ⟨g, q, none⟩ (.int .u64 ((ch i q + ch i (q - 1) : Nat) : Int))).drew g (wv (pas 62 (i + 1) (q - 1))) 233) := st
   have HB : Hid (Below g w (wr.setCell ⟨g, q, none⟩ (.int .u64 ((ch i q + ch i (q - 1) : Nat) : Int))).drew) := (hwz.setCell (Nat.le_refl _) _).drew
   have ez : ((q : Int) - 1).toNat = q - 1 := by omega
   have ad : IntKind.u64.wrap ((ch i q : Int) + (ch i (q - 1) : Int)) = ((ch i q + ch i (q - 1) : Nat) : Int) := by rw [IntKind.wrap_u64]; omega
   clear st ps hOz
   generalize ch i q = A at *
   generalize ch i (q - 1) = B at *
   go_wp2
   go_region
   go_wp2
   exact ⟨⟨q - 1, by omega, by go_num, HO.out, HB.out⟩, by simp only [intOf]; omega⟩
theorem shrink_c (g i : Nat) (h1 : 1 ≤ i) (hi : i ≤ 62) (w : World) (h : Cel w g (wv (rowP 62 i)) 233) :
  Calls Tryz.prog 209 #[.pointer (some ⟨g, 0, none⟩), .int .i64 i] w fun e w' => e = .returned (.tuple #[]) ∧ Cel w' g (wv (rowP 62 (i - 1))) 233 ∧ Below g w w' := by
 go_enter Tryz.func209, Tryz.ntmps209
 go_wp2
 go_loopw [4] (fun j wz => ∃ q : Nat, q ≤ i ∧ j = .int .i64 ((q : Int) + 1) ∧ Cel wz g (wv (pas 62 i q)) 233 ∧ Below g w wz) (fun j _ => (i + 1 - intOf j).toNat)
 case atStart => exact ⟨0, Nat.zero_le _, by go_num, by rw [pas_last]; exact h, Below.refl _ _⟩
 case round =>
  obtain ⟨q, hq, rfl, hOz, hwz⟩ := hrel
  clear h
  by_cases h0 : q = i
  ·subst h0
   rw [pas_first] at hOz
   have HO : Hid (Cel wr g (wv (rowP 62 (q - 1))) 233) := hOz
   clear hOz
   go_wp2
   refine bodyPost_end (results_none rfl _ _ _) rfl ?_
   exact ⟨rfl, HO.out, hwz⟩
  ·have q0 : (q : Int) + 1 ≤ (i : Int) := by omega
   have e1 := cel_wv hOz (q + 1) (by rw [length_pas]; omega)
   have e2 := cel_wv hOz q (by rw [length_pas]; omega)
   have fz := hOz.frozen (q + 1)
   have l1 : (q : Int) + 1 < 63 := by omega
   have l2 : (q : Int) < 63 := by omega
   rw [gt_pas _ _ _ _ (by omega), if_pos (by omega)] at e1
   rw [gt_pas _ _ _ _ (by omega), if_neg (by omega)] at e2
   have b1 := ch62 i (q + 1) (by omega)
   have le : ch (i - 1) q ≤ ch i (q + 1) := by
    obtain ⟨a, rfl⟩ : ∃ a, i = a + 1 := ⟨i - 1, by omega⟩
    rw [ch_succ, Nat.add_sub_cancel]
    omega
   have st := cel_set hOz (q + 1) (ch i (q + 1) - ch (i - 1) q)
   rw [pas_back 62 i q h1 (by omega)] at st
   have HO : Hid (Cel (wr.setCell ⟨g, q + 1, none⟩ (.int .u64 ((ch i (q + 1) - ch (i - 1) q : Nat) : Int))).drew g (wv (pas 62 i (q + 1))) 233) := st
   have HB : Hid (Below g w (wr.setCell ⟨g, q + 1, none⟩ (.int .u64 ((ch i (q + 1) - ch (i - 1) q : Nat) : Int))).drew) := (hwz.setCell (Nat.le_refl _) _).drew
   have ez : ((q : Int) + 1).toNat = q + 1 := by omega
   have ad : IntKind.u64.wrap ((ch i (q + 1) : Int) - (ch (i - 1) q : Int)) = ((ch i (q + 1) - ch (i - 1) q : Nat) : Int) := by rw [IntKind.wrap_u64]; omega
   have ad2 : ((ch i (q + 1) : Int) - (ch (i - 1) q : Int)) = ((ch i (q + 1) - ch (i - 1) q : Nat) : Int) := by omega
   clear st hOz
   generalize ch i (q + 1) = A at *
   generalize ch (i - 1) q = B at *
   go_wp2
   go_region
   go_wp2
   exact ⟨⟨q + 1, by omega, by go_num, HO.out, HB.out⟩, by simp only [intOf]; omega⟩
theorem info_row : (Tryz.prog.info? 233).map (fun i => (i.zero, i.size)) = some (some (.agg (wv (List.replicate 63 0)).toArray), 63) := by kernel_rfl
theorem built_row : Tryz.prog.built 233 [(0, .int .u64 1)] = some (wv ((List.replicate 63 0).set 0 1)).toArray := by kernel_rfl
theorem one_wv (ys : List Nat) : (wv ys).toArray.all (·.oneCell') = true := by
 rw [Array.all_eq_true_iff_forall_mem]
 intro v hv
 simp only [wv, List.mem_toArray, List.mem_map] at hv
 obtain ⟨y, _, rfl⟩ := hv
 rfl
end Ow
namespace Ow
theorem row_size (ys : List Nat) (h : ys.length = 63) : (Tryz.prog.info? 233).map (·.size) = some (wv ys).toArray.size := by
 rw [(zero_of_info info_row).2, List.size_toArray, length_wv, h]
theorem below_row (w : World) (g : Nat) (cs : Array Value) : Below g w (w.setRow g cs) := by
 refine ⟨rfl, rfl, rfl, ?_, fun k hk => ?_⟩
 ·simp [World.setRow]
 ·simp only [World.setRow, Array.getElem?_modify]
  rw [if_neg (by omega)]
theorem alloc_row {ops : Array Oper} {rest : List Oper} {d : Option Tmp} {ty : TypeId} {ps : String} {af : Array Edge} {a : Act} {w : World} {Q : Exit → Act → World → Prop}
  (h : ∀ w1, Cel w1 w.heap.size (wv (List.replicate 63 0)) 233 → Below w.heap.size w w1 → w.heap.size < w1.heap.size → wpList Tryz.prog ops Q rest (a.put d (.pointer (some ⟨w.heap.size, 0, none⟩))) w1) :
  wpList Tryz.prog ops Q (⟨d, .alloc 233, ty, ps, af, none⟩ :: rest) a w := by
 refine wpList_plain rfl fun K hK => ?_
 unfold Oper.wp execOp
 have z := (zero_of_info info_row).1
 have nw := h _ (Cel.new w _ _) (below_alloc w _) (by simp)
 refine cast ?_ (hK _ _ nw)
 simp [Instr.alloc, Sem.run_bind, z, newVar, Value.cells, go_sem]
theorem build_row {ops : Array Oper} {rest : List Oper} {d : Option Tmp} {ty : TypeId} {ps : String} {af : Array Edge} {a : Act} {w : World} {Q : Exit → Act → World → Prop}
  (h : wpList Tryz.prog ops Q rest (a.put d (.agg (wv (rowP 62 0)).toArray)) w) :
  wpList Tryz.prog ops Q (⟨d, .build 233 #[(0, .const (.int .u64 1))], ty, ps, af, none⟩ :: rest) a w := by
 have e : Tryz.prog.built 233 ((#[((0 : Nat), Operand.const (.int .u64 1))].map fun (i, x) => (i, a.eval x)).toList) = some (wv (rowP 62 0)).toArray := by
  rw [← row_start 62, ← built_row]
  congr 1
  simp
  rfl
 refine wpList_build rfl _ _ rfl (by rw [e]; rfl) ?_
 rw [e]
 exact h
theorem store_row {ops : Array Oper} {rest : List Oper} {d : Option Tmp} {ty : TypeId} {ps : String} {af : Array Edge} {a : Act} {w : World} {Q : Exit → Act → World → Prop} {x y : Operand}
  (g : Nat) (old ys : List Nat) (hx : a.eval x = .pointer (some ⟨g, 0, none⟩)) (hy : a.eval y = .agg (wv ys).toArray) (hc : Cel w g (wv old) 233) (lo : old.length = 63) (ly : ys.length = 63)
  (h : ∀ w1, Cel w1 g (wv ys) 233 → Below g w w1 → wpList Tryz.prog ops Q rest (a.put d undef) w1) :
  wpList Tryz.prog ops Q (⟨d, .store 233 x y, ty, ps, af, none⟩ :: rest) a w :=
 wpList_store_row rfl _ x y rfl g _ hx hy _ _ hc (row_size ys ly) (by simp [length_wv, lo, ly]) (one_wv ys) (h _ (setRow_heap w g _ _ _ _ hc) (below_row w g _))
theorem load_row {ops : Array Oper} {rest : List Oper} {d : Option Tmp} {ty : TypeId} {ps : String} {af : Array Edge} {a : Act} {w : World} {Q : Exit → Act → World → Prop} {x : Operand}
  (g : Nat) (ys : List Nat) (hx : a.eval x = .pointer (some ⟨g, 0, none⟩)) (hc : Cel w g (wv ys) 233) (ly : ys.length = 63)
  (h : wpList Tryz.prog ops Q rest (a.put d (.agg (wv ys).toArray)) w) :
  wpList Tryz.prog ops Q (⟨d, .load 233 x, ty, ps, af, none⟩ :: rest) a w :=
 wpList_load_row rfl _ x rfl g hx _ _ _ _ hc Tryz.underlying233 rfl (row_size ys ly) h
theorem rowOf_c (n : Nat) (hn : n ≤ 62) (w : World) :
  Calls Tryz.prog 203 #[.int .i64 n] w fun e w' => e = .returned (.agg (wv (rowP 62 n)).toArray) ∧ Below w.heap.size w w' := by
 have G : Hid (∀ (g i : Nat), i < 62 → ∀ w, Cel w g (wv (rowP 62 i)) 233 → Calls Tryz.prog 204 #[.pointer (some ⟨g, 0, none⟩), .int .i64 i] w fun e w' => e = .returned (.tuple #[]) ∧ Cel w' g (wv (rowP 62 (i + 1))) 233 ∧ Below g w w') := grow_c
 go_enter Tryz.func203, Tryz.ntmps203
 go_wp2_with (refine alloc_row ?_)
 intro w1 hc1 hb1 hs1
 go_wp2_with (first | refine build_row ?_ | refine alloc_row ?_)
 intro w2 hc2 hb2 hs2
 go_wp2_with (refine store_row w1.heap.size _ _ rfl rfl hc2 (by simp) (length_rowP 62 0) ?_)
 intro w3 hc3 hb3
 have hA : Below w.heap.size w w3 := (hb1.trans (hb2.mono (by omega))).trans (hb3.mono (by omega))
 have hR := (hc1.kept hb2).keep hb3 hs1
 have hlt : w.heap.size < w1.heap.size := hs1
 clear hc1 hb1 hs1 hc2 hb2 hs2 hb3 w2
 go_wp2
 generalize w1.heap.size = g at *
 go_loopw [4, 7] (fun _ s wr => ∃ i : Nat, i ≤ n ∧ s = .int .i64 i ∧ Cel wr g (wv (rowP 62 i)) 233 ∧ Cel wr w.heap.size (wv (List.replicate 63 0)) 233 ∧ Below w.heap.size w wr) (fun _ s _ => n - (intOf s).toNat)
 case atStart => exact ⟨0, Nat.zero_le _, rfl, hc3, hR, hA⟩
 case round =>
  obtain ⟨i, hin, rfl, hc, hr, hb⟩ := hrel
  clear hc3 hR hA
  by_cases hi : i < n
  ·have hi2 : (i : Int) < (n : Int) := by omega
   go_wp2_with fail
   refine (G.out g i (by omega) _ hc).mono ?_
   rintro e w4 ⟨rfl, hc4, hb4⟩
   have hr4 := hr.keep hb4 hlt
   have hb5 := hb.trans (hb4.mono (by omega))
   clear hc hr hb hb4
   go_wp2
   exact ⟨⟨i + 1, by omega, by go_num, hc4, hr4, hb5⟩, by simp only [intOf]; omega⟩
  ·obtain rfl : i = n := by omega
   have HB : Hid (Below w.heap.size w wr) := hb
   clear hb G
   go_wp2_with (first | refine load_row g _ rfl hc (length_rowP 62 i) ?_ | refine store_row w.heap.size _ _ rfl rfl hr (by simp) (length_rowP 62 i) ?_)
   intro w5 hc5 hb5
   have HC : Hid (Cel w5 w.heap.size (wv (rowP 62 i)) 233) := hc5
   have HB5 : Hid (Below w.heap.size w w5) := HB.out.trans hb5
   clear hc5 hb5 hc hr
   go_wp2
   (try simp only [Exit.inBlock, Exit.then])
   exact bodyPost_ret (results_cell_row rfl _ _ _ _ _ _ _ rfl HC.out Tryz.underlying233 rfl (row_size _ (length_rowP 62 i))) rfl ⟨rfl, HB5.out⟩
end Ow
end Go.Proofs.YtfnkklkdajlhlaaGreatDoor
namespace Go.Proofs.YtfnkklkdajlhlaaGreatDoor
open Go.RowKit Num Bn Ow
theorem within_in (n : Int) (h0 : 0 ≤ n) (h1 : n ≤ 62) (w : World) :
  Calls Tryz.prog 202 #[.int .i64 n] w fun e w' => e = .returned (.bool true) ∧ w' = w := by
 go_enter Tryz.func202, Tryz.ntmps202
 go_wp2
 go_ret
 exact ⟨rfl, rfl⟩
theorem within_out (n : Int) (h : n < 0 ∨ 62 < n) (w : World) :
  Calls Tryz.prog 202 #[.int .i64 n] w fun e w' => e = .returned (.bool false) ∧ w' = w := by
 by_cases h0 : n < 0
 ·go_enter Tryz.func202, Tryz.ntmps202
  go_wp2
  go_ret
  exact ⟨rfl, rfl⟩
 ·have h1 : 62 < n := by omega
  have h2 : 0 ≤ n := by omega
  have h3 : ¬ n ≤ 62 := by omega
  clear h h0
  go_enter Tryz.func202, Tryz.ntmps202
  go_wp2
  go_ret
  exact ⟨rfl, rfl⟩
theorem choose_c (n k : Int) (hn : -9223372036854775808 ≤ n ∧ n ≤ 9223372036854775807) (hk : -9223372036854775808 ≤ k ∧ k ≤ 9223372036854775807) (w : World) :
  Calls Tryz.prog 198 #[.int .i64 n, .int .i64 k] w fun e w' => e = .returned (.int .u64 (chN n k)) ∧ Below w.heap.size w w' := by
 by_cases hw : n < 0 ∨ 62 < n
 ·rw [show chN n k = 0 by unfold chN; rw [if_pos (by omega)]]
  have W : Hid (∀ w, Calls Tryz.prog 202 #[.int .i64 n] w fun e w' => e = .returned (.bool false) ∧ w' = w) := within_out n hw
  clear hw
  go_enter Tryz.func198, Tryz.ntmps198
  go_wp2_with fail
  refine (W.out _).mono ?_
  rintro e w1 ⟨rfl, hw1⟩
  rw [hw1]
  clear hw1 w1
  go_wp2
  go_ret
  exact ⟨rfl, Below.refl _ _⟩
 have W : Hid (∀ w, Calls Tryz.prog 202 #[.int .i64 n] w fun e w' => e = .returned (.bool true) ∧ w' = w) := within_in n (by omega) (by omega)
 by_cases h3 : k < 0
 ·rw [show chN n k = 0 by unfold chN; rw [if_pos (by omega)]]
  go_enter Tryz.func198, Tryz.ntmps198
  go_wp2_with fail
  refine (W.out _).mono ?_
  rintro e w1 ⟨rfl, hw1⟩
  rw [hw1]
  clear hw1 w1
  go_wp2
  go_ret
  exact ⟨rfl, Below.refl _ _⟩
 by_cases h4 : n < k
 ·rw [show chN n k = 0 by unfold chN; rw [if_pos (by omega)]]
  go_enter Tryz.func198, Tryz.ntmps198
  go_wp2_with fail
  refine (W.out _).mono ?_
  rintro e w1 ⟨rfl, hw1⟩
  rw [hw1]
  clear hw1 w1
  go_wp2
  go_ret
  exact ⟨rfl, Below.refl _ _⟩
 rw [show chN n k = ch n.toNat k.toNat by unfold chN; rw [if_neg (by omega)]]
 obtain ⟨a, rfl⟩ := Int.eq_ofNat_of_zero_le (show 0 ≤ n by omega)
 obtain ⟨b, rfl⟩ := Int.eq_ofNat_of_zero_le (show 0 ≤ k by omega)
 rw [Int.toNat_natCast, Int.toNat_natCast]
 have ha : a ≤ 62 := by omega
 have hba : b ≤ a := by omega
 have b63 : (b : Int) < 63 := by omega
 have R : Hid (∀ w, Calls Tryz.prog 203 #[.int .i64 a] w fun e w' => e = .returned (.agg (wv (rowP 62 a)).toArray) ∧ Below w.heap.size w w') := rowOf_c a ha
 clear hw
 go_enter Tryz.func198, Tryz.ntmps198
 go_wp2_with fail
 refine (W.out _).mono ?_
 rintro e w1 ⟨rfl, hw1⟩
 rw [hw1]
 clear hw1 w1 W
 go_wp2_with fail
 refine (R.out _).mono ?_
 rintro e w1 ⟨rfl, hb1⟩
 go_wp2_with (refine alloc_row ?_)
 intro w2 hc2 hb2 hs2
 go_wp2_with (refine store_row w1.heap.size _ _ rfl rfl hc2 (by simp) (length_rowP 62 a) ?_)
 intro w3 hc3 hb3
 have HB : Hid (Below w.heap.size w w3) := (hb1.trans (hb2.mono hb1.size)).trans (hb3.mono hb1.size)
 clear hb1 hc2 hb2 hs2 hb3 w2 R
 have e1 := cel_wv hc3 b (by rw [length_rowP]; omega)
 rw [gt_rowP _ _ _ (by omega)] at e1
 obtain ⟨Z, hZ⟩ : ∃ Z, Hid (Z = ch a b) := ⟨_, rfl⟩
 rw [← hZ.out] at e1
 clear hc3
 go_wp2
 go_ret
 rw [← hZ.out]
 exact ⟨rfl, HB.out⟩
end Go.Proofs.YtfnkklkdajlhlaaGreatDoor
