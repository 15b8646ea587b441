/-
  The contract of the program's Check.
-/
import Derived.Test.YtpeecabfcgijhaaGreatDoorM14
import Derived.Test.YtpeecabfcgijhaaGreatDoorM03
namespace Go.Proofs.YtpeecabfcgijhaaGreatDoor
open Go.RowKit Num Bit
set_option linter.unusedVariables false
set_option linter.unusedSimpArgs false
set_option maxRecDepth 100000

def subO (ao : Option Addr) (cap lo : Nat) : Option Addr :=
 match ao with
 | none => none
 | some a => if cap = lo then some a else some (a.add lo)
theorem nd_sub {w : World} {ao : Option Addr} {l : List Int} {cap : Nat} (h : Nd w ao l) (lo c : Nat) (h1 : lo + c ≤ l.length) (hc : l.length ≤ cap) : Nd w (subO ao cap lo) ((l.drop lo).take c) := by
 intro h0
 have hlen : ((l.drop lo).take c).length = c := by simp; omega
 rw [hlen] at h0
 obtain ⟨b, off, rfl, hb, hcc⟩ := h (by omega)
 have e : subO (some ⟨b, off, none⟩) cap lo = some ⟨b, off + lo, none⟩ := by
  unfold subO
  simp only
  rw [if_neg (by omega)]
  congr 1
  unfold Addr.add
  split
  ·subst_vars; rfl
  ·rfl
 refine ⟨b, off + lo, e, hb, fun i hi => ?_⟩
 rw [hlen] at hi
 rw [gi_take _ _ _ hi, gi_drop, Nat.add_assoc]
 exact hcc _ (by omega)
theorem nd_arr {w : World} {g : Nat} {xs : List Nat} {G : Nat} (h : Cel w g (iv (ahd (grp xs G))) 102) : Nd w (some ⟨g, 0, none⟩) (ahT xs G) := by
 intro h0
 refine ⟨g, 0, rfl, h.lt, fun i hi => ?_⟩
 rw [length_ahT] at hi
 have l8 : (grp xs G).length ≤ 8 := by rw [length_grp]; omega
 rw [Nat.zero_add, cel_iv h i (by rw [length_ahd]; omega)]
 unfold ahT
 rw [gi_take _ _ _ hi]
theorem pchk_bad1 (N : Int) (xs : List Nat) (su sb : List Int) (h : chk N xs = false) : pchk N xs su sb = false := by unfold pchk; rw [h]; rfl
theorem pchk_bad2 (m : Nat) (xs : List Nat) (su sb : List Int) (h : su.length ≠ m / 512 + 1) : pchk (m : Int) xs su sb = false := by
 cases e : pchk (m : Int) xs su sb with
 | false => rfl
 | true =>
  obtain ⟨_, a, _⟩ := pchk_out _ _ _ _ e
  rw [a, length_supL, Int.toNat_natCast] at h
  exact absurd rfl h
theorem pchk_bad3 (N : Int) (xs : List Nat) (su sb : List Int) (h : sb.length ≠ xs.length) : pchk N xs su sb = false := by
 cases e : pchk N xs su sb with
 | false => rfl
 | true =>
  obtain ⟨_, _, a⟩ := pchk_out _ _ _ _ e
  rw [a, length_subL] at h
  exact absurd rfl h
theorem pchk_bad4 (m : Nat) (xs : List Nat) (su sb : List Int) (hk : chk (m : Int) xs = true) (G : Nat) (hG : G ≤ m / 512) (h : gi su G ≠ (cntB xs (512 * G) : Int)) : pchk (m : Int) xs su sb = false := by
 cases e : pchk (m : Int) xs su sb with
 | false => rfl
 | true =>
  obtain ⟨_, a, _⟩ := pchk_out _ _ _ _ e
  refine absurd ?_ h
  rw [a]
  unfold supL
  rw [gi_supP _ _ _ _ (by rw [Int.toNat_natCast]; omega), supI_ok m xs hk G hG]
theorem sub_part (m : Nat) (xs : List Nat) (hk : chk (m : Int) xs = true) (hl : xs.length = (m + 63) / 64) (G : Nat) : ((subL (m : Int) xs).drop (8 * G)).take (grp xs G).length = ahT xs G := by
 have hg := length_grp xs G
 refine gi_ext (by rw [length_ahT, List.length_take, List.length_drop, length_subL]; omega) fun i hi => ?_
 rw [List.length_take, List.length_drop, length_subL] at hi
 rw [gi_take _ _ _ (by omega), gi_drop, gi_ahT xs G i (by omega), ← subI_ok m xs hk hl G i (by omega)]
 unfold subL
 rw [gi_subP _ _ _ _ (by omega)]
theorem pchk_bad5 (m : Nat) (xs : List Nat) (su sb : List Int) (hk : chk (m : Int) xs = true) (hl : xs.length = (m + 63) / 64) (G : Nat) (h : (sb.drop (8 * G)).take (grp xs G).length ≠ ahT xs G) : pchk (m : Int) xs su sb = false := by
 cases e : pchk (m : Int) xs su sb with
 | false => rfl
 | true =>
  obtain ⟨_, _, a⟩ := pchk_out _ _ _ _ e
  refine absurd ?_ h
  rw [a]
  exact sub_part m xs hk hl G
def Right (m : Nat) (xs : List Nat) (su sb : List Int) (G : Nat) : Prop := (∀ j, j < G → gi su j = supI (m : Int) xs j) ∧ ∀ j, j < min (8 * G) xs.length → gi sb j = subI (m : Int) xs j
theorem Right.zero (m : Nat) (xs : List Nat) (su sb : List Int) : Right m xs su sb 0 := ⟨fun j h => absurd h (by omega), fun j h => absurd h (by omega)⟩
theorem Right.step (m : Nat) (xs : List Nat) (su sb : List Int) (hk : chk (m : Int) xs = true) (hl : xs.length = (m + 63) / 64) (G : Nat) (hG : G ≤ m / 512) (h : Right m xs su sb G) (h1 : gi su G = (cntB xs (512 * G) : Int)) (h2 : (sb.drop (8 * G)).take (grp xs G).length = ahT xs G) : Right m xs su sb (G + 1) := by
 refine ⟨fun j hj => ?_, fun j hj => ?_⟩
 ·by_cases c : j = G
  ·subst c; rw [h1, supI_ok m xs hk j hG]
  ·exact h.1 j (by omega)
 ·by_cases c : j < 8 * G
  ·exact h.2 j (by omega)
  ·have hlg := length_grp xs G
   have a := gi_ahT xs G (j - 8 * G) (by omega)
   rw [← h2, gi_take _ _ _ (by omega), gi_drop, ← subI_ok m xs hk hl G (j - 8 * G) (by omega), show 8 * G + (j - 8 * G) = j by omega] at a
   exact a
theorem Right.last (m : Nat) (xs : List Nat) (su sb : List Int) (hk : chk (m : Int) xs = true) (hl : xs.length = (m + 63) / 64) (hs : su.length = m / 512 + 1) (ht : sb.length = xs.length) (h : Right m xs su sb (m / 512 + 1)) : pchk (m : Int) xs su sb = true := by
 unfold pchk
 rw [hk, Bool.true_and, Bool.and_eq_true, decide_eq_true_eq, decide_eq_true_eq]
 refine ⟨gi_ext (by rw [hs, length_supL, Int.toNat_natCast]) fun j hj => ?_, gi_ext (by rw [ht, length_subL]) fun j hj => ?_⟩
 ·unfold supL
  rw [gi_supP _ _ _ _ (by rw [Int.toNat_natCast]; omega)]
  exact h.1 j (by omega)
 ·unfold subL
  rw [gi_subP _ _ _ _ (by omega)]
  exact h.2 j (by omega)
set_option maxHeartbeats 8000000 in
theorem check_p (N : Int) (ao : Option Addr) (xs : List Nat) (cap : Nat) (so : Option Addr) (su : List Int) (sc : Nat) (tO : Option Addr) (sb : List Int) (tc : Nat) (w : World) (h : PlIn w N ao xs cap so su sc tO sb tc) :
  Calls Tryz.prog 58 #[.agg #[.int .i64 N, .slice ao xs.length cap, .slice so su.length sc, .slice tO sb.length tc]] w fun e w' => e = .returned (.bool (pchk N xs su sb)) ∧ Below w.heap.size w w' := by
 obtain ⟨W, hW⟩ : ∃ W, W = w.alloc (.cells #[.int .i64 N, .slice ao xs.length cap, .slice so su.length sc, .slice tO sb.length tc] 29) := ⟨_, rfl⟩
 have bW : Below w.heap.size w W := by rw [hW]; exact below_alloc w _
 have B1 : Cel W w.heap.size [.int .i64 N, .slice ao xs.length cap, .slice so su.length sc, .slice tO sb.length tc] 29 := by rw [hW]; exact Cel.new w _ _
 cases hk : chk N xs with
 | false =>
  have R : Hid (pchk N xs su sb = false) := pchk_bad1 N xs su sb hk
  rw [R.out]
  have C1 : Hid (∀ w0, Below w.heap.size w w0 → Calls Tryz.prog 64 #[.agg #[.int .i64 N, .slice ao xs.length cap]] w0 fun e w' => e = .returned (.bool false) ∧ Below w0.heap.size w0 w') := fun w0 hb => by
   have := check_c N ao xs cap w0 (h.x.keep hb)
   rw [hk] at this
   exact this
  clear h
  go_enter Tryz.func58, Tryz.ntmps58
  go_wp2
  rw [← hW]
  clear hW
  refine region_g [] (fun w' => Cel w' w.heap.size [.int .i64 N, .slice ao xs.length cap, .slice so su.length sc, .slice tO sb.length tc] 29) (by kernel_rfl) ?_
  have hS : Cel W.drew w.heap.size [.int .i64 N, .slice ao xs.length cap, .slice so su.length sc, .slice tO sb.length tc] 29 := B1
  have bV : Below w.heap.size w W.drew := bW.drew
  generalize W.drew = V at *
  clear B1 bW
  refine AnyG.take 0 (v := ?vv1) rfl (by kernel_rfl) (by kernel_rfl) (by kernel_rfl) (by kernel_rfl) (fun _ _ _ h => h) hS ?hy1 (by rfl) ?rest1
  case hy1 =>
   intro w0 h0
   go_simp
   try with_reducible rfl
  simp only [Act.put, yq0, yq1, yq2, yq3, yq4, yq5]
  refine AnyG.take 1 (v := ?vv2) rfl (by kernel_rfl) (by kernel_rfl) (by kernel_rfl) (by kernel_rfl) (fun _ _ _ h => h) hS ?hy2 (by rfl) ?rest2
  case hy2 =>
   intro w0 h0
   have c0 := h0.cell 0 rfl
   have c1 := h0.cell 1 rfl
   go_simp
   try with_reducible rfl
  simp only [Act.put, yq0, yq1, yq2, yq3, yq4, yq5]
  refine AnyG.one 2 (by kernel_rfl) rfl ?_
  intro K hK
  go_simp
  refine (C1.out _ bV).mono ?_
  rintro e w2 ⟨rfl, hb⟩
  have hS2 := hS.kept hb
  have bw2 := bV.trans (hb.mono bV.size)
  refine hK.out _ _ (fun _ => hS2) ?_
  clear hK K
  try simp only [Act.put, yq0, yq1, yq2, yq3, yq4, yq5]
  refine AnyG.take 3 (v := ?vv3) rfl (by kernel_rfl) (by kernel_rfl) (by kernel_rfl) (by kernel_rfl) (fun _ _ _ h => h) hS2 ?hy3 (by rfl) ?rest3
  case hy3 =>
   intro w0 h0
   go_simp
   try with_reducible rfl
  simp only [Act.put, yq0, yq1, yq2, yq3, yq4, yq5]
  refine AnyG.take 4 (v := ?vv4) rfl (by kernel_rfl) (by kernel_rfl) (by kernel_rfl) (by kernel_rfl) (fun _ _ _ h => h) hS2 ?hy4 (by rfl) ?rest4
  case hy4 =>
   intro w0 h0
   go_simp
   try with_reducible rfl
  simp only [Act.put, yq0, yq1, yq2, yq3, yq4, yq5]
  refine AnyG.skip 5 rfl (by kernel_rfl) (by kernel_rfl) (by kernel_rfl) (by kernel_rfl) (fun _ _ _ h => h) hS2 (by rfl) ?_
  simp only [Act.put, yq0, yq1, yq2, yq3, yq4, yq5]
  refine AnyG.skip 6 rfl (by kernel_rfl) (by kernel_rfl) (by kernel_rfl) (by kernel_rfl) (fun _ _ _ h => h) hS2 (by rfl) ?_
  simp only [Act.put, yq0, yq1, yq2, yq3, yq4, yq5]
  refine AnyG.skip 7 rfl (by kernel_rfl) (by kernel_rfl) (by kernel_rfl) (by kernel_rfl) (fun _ _ _ h => h) hS2 (by rfl) ?_
  simp only [Act.put, yq0, yq1, yq2, yq3, yq4, yq5]
  refine AnyG.skip 8 rfl (by kernel_rfl) (by kernel_rfl) (by kernel_rfl) (by kernel_rfl) (fun _ _ _ h => h) hS2 (by rfl) ?_
  simp only [Act.put, yq0, yq1, yq2, yq3, yq4, yq5]
  refine AnyG.skip 9 rfl (by kernel_rfl) (by kernel_rfl) (by kernel_rfl) (by kernel_rfl) (fun _ _ _ h => h) hS2 (by rfl) ?_
  simp only [Act.put, yq0, yq1, yq2, yq3, yq4, yq5]
  refine AnyG.skip 10 rfl (by kernel_rfl) (by kernel_rfl) (by kernel_rfl) (by kernel_rfl) (fun _ _ _ h => h) hS2 (by rfl) ?_
  simp only [Act.put, yq0, yq1, yq2, yq3, yq4, yq5]
  refine AnyG.skip 11 rfl (by kernel_rfl) (by kernel_rfl) (by kernel_rfl) (by kernel_rfl) (fun _ _ _ h => h) hS2 (by rfl) ?_
  simp only [Act.put, yq0, yq1, yq2, yq3, yq4, yq5]
  refine AnyG.take 12 (v := ?vv5) rfl (by kernel_rfl) (by kernel_rfl) (by kernel_rfl) (by kernel_rfl) (fun _ _ _ h => h) hS2 ?hy5 (by rfl) ?rest5
  case hy5 =>
   intro w0 h0
   go_simp
   try with_reducible rfl
  simp only [Act.put, yq0, yq1, yq2, yq3, yq4, yq5]
  refine AnyG.take 13 (v := ?vv6) rfl (by kernel_rfl) (by kernel_rfl) (by kernel_rfl) (by kernel_rfl) (fun _ _ _ h => h) hS2 ?hy6 (by rfl) ?rest6
  case hy6 =>
   intro w0 h0
   go_simp
   try with_reducible rfl
  simp only [Act.put, yq0, yq1, yq2, yq3, yq4, yq5]
  refine AnyG.skip 14 rfl (by kernel_rfl) (by kernel_rfl) (by kernel_rfl) (by kernel_rfl) (fun _ _ _ h => h) hS2 (by rfl) ?_
  simp only [Act.put, yq0, yq1, yq2, yq3, yq4, yq5]
  refine AnyG.skip 15 rfl (by kernel_rfl) (by kernel_rfl) (by kernel_rfl) (by kernel_rfl) (fun _ _ _ h => h) hS2 (by rfl) ?_
  simp only [Act.put, yq0, yq1, yq2, yq3, yq4, yq5]
  refine AnyG.skip 16 rfl (by kernel_rfl) (by kernel_rfl) (by kernel_rfl) (by kernel_rfl) (fun _ _ _ h => h) hS2 (by rfl) ?_
  simp only [Act.put, yq0, yq1, yq2, yq3, yq4, yq5]
  refine AnyG.skip 17 rfl (by kernel_rfl) (by kernel_rfl) (by kernel_rfl) (by kernel_rfl) (fun _ _ _ h => h) hS2 (by rfl) ?_
  simp only [Act.put, yq0, yq1, yq2, yq3, yq4, yq5]
  refine AnyG.skip 18 rfl (by kernel_rfl) (by kernel_rfl) (by kernel_rfl) (by kernel_rfl) (fun _ _ _ h => h) hS2 (by rfl) ?_
  simp only [Act.put, yq0, yq1, yq2, yq3, yq4, yq5]
  refine AnyG.skip 19 rfl (by kernel_rfl) (by kernel_rfl) (by kernel_rfl) (by kernel_rfl) (fun _ _ _ h => h) hS2 (by rfl) ?_
  simp only [Act.put, yq0, yq1, yq2, yq3, yq4, yq5]
  refine AnyG.skip 20 rfl (by kernel_rfl) (by kernel_rfl) (by kernel_rfl) (by kernel_rfl) (fun _ _ _ h => h) hS2 (by rfl) ?_
  simp only [Act.put, yq0, yq1, yq2, yq3, yq4, yq5]
  refine AnyG.skip 21 rfl (by kernel_rfl) (by kernel_rfl) (by kernel_rfl) (by kernel_rfl) (fun _ _ _ h => h) hS2 (by rfl) ?_
  simp only [Act.put, yq0, yq1, yq2, yq3, yq4, yq5]
  refine AnyG.take 22 (v := ?vv7) rfl (by kernel_rfl) (by kernel_rfl) (by kernel_rfl) (by kernel_rfl) (fun _ _ _ h => h) hS2 ?hy7 (by rfl) ?rest7
  case hy7 =>
   intro w0 h0
   go_simp
   try with_reducible rfl
  simp only [Act.put, yq0, yq1, yq2, yq3, yq4, yq5]
  refine AnyG.done (by kernel_rfl) ?_ _
  clear hS2 hS hb bV C1 V
  go_wp2
  go_ret
  exact ⟨rfl, bw2⟩
 | true =>
  obtain ⟨m, rfl, hm, hl⟩ := chk_len N xs hk
  have C1 : Hid (∀ w0, Below w.heap.size w w0 → Calls Tryz.prog 64 #[.agg #[.int .i64 (m : Int), .slice ao xs.length cap]] w0 fun e w' => e = .returned (.bool true) ∧ Below w0.heap.size w0 w') := fun w0 hb => by
   have := check_c (m : Int) ao xs cap w0 (h.x.keep hb)
   rw [hk] at this
   exact this
  have C3 : Hid (∀ w0, Calls Tryz.prog 66 #[.agg #[.int .i64 (m : Int), .slice ao xs.length cap]] w0 fun e w' => e = .returned (.int .i64 ((m / 512 + 1 : Nat) : Int)) ∧ Below w0.heap.size w0 w') := fun w0 => groups_c m hm ao xs.length cap w0
  obtain ⟨M, hM⟩ : ∃ M, Hid (M = m / 512 + 1) := ⟨_, rfl⟩
  rw [← hM.out] at C3
  have hMb : M ≤ 2049 := by have := hM.out; omega
  have HL : Hid (xs.length = (m + 63) / 64) := hl
  have hlx : xs.length ≤ 16384 := by omega
  clear hl
  by_cases h1 : su.length = M
  ·have h1' : ((su.length : Int) != (M : Int)) = false := by simp [h1]
   by_cases h2 : sb.length = xs.length
   ·have h2' : ((sb.length : Int) != (xs.length : Int)) = false := by simp [h2]
    have H2 : Hid (sb.length = xs.length) := h2
    have H1 : Hid (su.length = M) := h1
    have C4 : Hid (∀ (G : Nat) w0, G ≤ m / 512 → Below w.heap.size w w0 → Calls Tryz.prog 67 #[.agg #[.int .i64 (m : Int), .slice ao xs.length cap], .int .i64 (G : Int)] w0 fun e w' => ∃ bo bc, e = .returned (.slice bo (grp xs G).length bc) ∧ Wd w' bo (grp xs G) ∧ Below w0.heap.size w0 w') := fun G w0 hG hb => wordsOf_c m hm ao xs cap HL.out h.c G hG w0 (h.x.keep hb)
    clear h1 h2
    go_enter Tryz.func58, Tryz.ntmps58
    go_wp2
    rw [← hW]
    clear hW
    refine region_g [] (fun w' => Cel w' w.heap.size [.int .i64 (m : Int), .slice ao xs.length cap, .slice so su.length sc, .slice tO sb.length tc] 29) (by kernel_rfl) ?_
    have hS : Cel W.drew w.heap.size [.int .i64 (m : Int), .slice ao xs.length cap, .slice so su.length sc, .slice tO sb.length tc] 29 := B1
    have bV : Below w.heap.size w W.drew := bW.drew
    generalize W.drew = V at *
    clear B1 bW
    refine AnyG.take 0 (v := ?vv41) rfl (by kernel_rfl) (by kernel_rfl) (by kernel_rfl) (by kernel_rfl) (fun _ _ _ h => h) hS ?hy41 (by rfl) ?rest41
    case hy41 =>
     intro w0 h0
     go_simp
     try with_reducible rfl
    simp only [Act.put, yq0, yq1, yq2, yq3, yq4, yq5]
    refine AnyG.take 1 (v := ?vv42) rfl (by kernel_rfl) (by kernel_rfl) (by kernel_rfl) (by kernel_rfl) (fun _ _ _ h => h) hS ?hy42 (by rfl) ?rest42
    case hy42 =>
     intro w0 h0
     have c0 := h0.cell 0 rfl
     have c1 := h0.cell 1 rfl
     go_simp
     try with_reducible rfl
    simp only [Act.put, yq0, yq1, yq2, yq3, yq4, yq5]
    refine AnyG.one 2 (by kernel_rfl) rfl ?_
    intro K hK
    go_simp
    refine (C1.out _ bV).mono ?_
    rintro e w2 ⟨rfl, hb⟩
    have hS2 := hS.kept hb
    have bw2 := bV.trans (hb.mono bV.size)
    refine hK.out _ _ (fun _ => hS2) ?_
    clear hK K
    try simp only [Act.put, yq0, yq1, yq2, yq3, yq4, yq5]
    refine AnyG.take 3 (v := ?vv43) rfl (by kernel_rfl) (by kernel_rfl) (by kernel_rfl) (by kernel_rfl) (fun _ _ _ h => h) hS2 ?hy43 (by rfl) ?rest43
    case hy43 =>
     intro w0 h0
     go_simp
     try with_reducible rfl
    simp only [Act.put, yq0, yq1, yq2, yq3, yq4, yq5]
    refine AnyG.take 4 (v := ?vv44) rfl (by kernel_rfl) (by kernel_rfl) (by kernel_rfl) (by kernel_rfl) (fun _ _ _ h => h) hS2 ?hy44 (by rfl) ?rest44
    case hy44 =>
     intro w0 h0
     go_simp
     try with_reducible rfl
    simp only [Act.put, yq0, yq1, yq2, yq3, yq4, yq5]
    refine AnyG.take 5 (v := ?vv45) rfl (by kernel_rfl) (by kernel_rfl) (by kernel_rfl) (by kernel_rfl) (fun _ _ _ h => h) hS2 ?hy45 (by rfl) ?rest45
    case hy45 =>
     intro w0 h0
     go_simp
     try with_reducible rfl
    simp only [Act.put, yq0, yq1, yq2, yq3, yq4, yq5]
    refine AnyG.take 6 (v := ?vv46) rfl (by kernel_rfl) (by kernel_rfl) (by kernel_rfl) (by kernel_rfl) (fun _ _ _ h => h) hS2 ?hy46 (by rfl) ?rest46
    case hy46 =>
     intro w0 h0
     have c0 := h0.cell 2 rfl
     go_simp
     try with_reducible rfl
    simp only [Act.put, yq0, yq1, yq2, yq3, yq4, yq5]
    refine AnyG.take 7 (v := ?vv47) rfl (by kernel_rfl) (by kernel_rfl) (by kernel_rfl) (by kernel_rfl) (fun _ _ _ h => h) hS2 ?hy47 (by rfl) ?rest47
    case hy47 =>
     intro w0 h0
     go_simp
     try with_reducible rfl
    simp only [Act.put, yq0, yq1, yq2, yq3, yq4, yq5]
    refine AnyG.take 8 (v := ?vv48) rfl (by kernel_rfl) (by kernel_rfl) (by kernel_rfl) (by kernel_rfl) (fun _ _ _ h => h) hS2 ?hy48 (by rfl) ?rest48
    case hy48 =>
     intro w0 h0
     go_simp
     try with_reducible rfl
    simp only [Act.put, yq0, yq1, yq2, yq3, yq4, yq5]
    refine AnyG.take 9 (v := ?vv49) rfl (by kernel_rfl) (by kernel_rfl) (by kernel_rfl) (by kernel_rfl) (fun _ _ _ h => h) hS2 ?hy49 (by rfl) ?rest49
    case hy49 =>
     intro w0 h0
     have c0 := h0.cell 0 rfl
     have c1 := h0.cell 1 rfl
     go_simp
     try with_reducible rfl
    simp only [Act.put, yq0, yq1, yq2, yq3, yq4, yq5]
    refine AnyG.one 10 (by kernel_rfl) rfl ?_
    intro K hK
    go_simp
    refine (C3.out _).mono ?_
    rintro e w3 ⟨rfl, hb3⟩
    have hS3 := hS2.kept hb3
    have bw3 := bw2.trans (hb3.mono bw2.size)
    refine hK.out _ _ (fun _ => hS3) ?_
    clear hK K
    try simp only [Act.put, yq0, yq1, yq2, yq3, yq4, yq5]
    refine AnyG.take 11 (v := ?vv50) rfl (by kernel_rfl) (by kernel_rfl) (by kernel_rfl) (by kernel_rfl) (fun _ _ _ h => h) hS3 ?hy50 (by rfl) ?rest50
    case hy50 =>
     intro w0 h0
     go_simp
     try with_reducible rfl
    simp only [Act.put, yq0, yq1, yq2, yq3, yq4, yq5]
    refine AnyG.take 12 (v := ?vv51) rfl (by kernel_rfl) (by kernel_rfl) (by kernel_rfl) (by kernel_rfl) (fun _ _ _ h => h) hS3 ?hy51 (by rfl) ?rest51
    case hy51 =>
     intro w0 h0
     go_simp
     try with_reducible rfl
    simp only [Act.put, yq0, yq1, yq2, yq3, yq4, yq5]
    refine AnyG.take 13 (v := ?vv52) rfl (by kernel_rfl) (by kernel_rfl) (by kernel_rfl) (by kernel_rfl) (fun _ _ _ h => h) hS3 ?hy52 (by rfl) ?rest52
    case hy52 =>
     intro w0 h0
     go_simp
     try with_reducible rfl
    simp only [Act.put, yq0, yq1, yq2, yq3, yq4, yq5]
    refine AnyG.take 14 (v := ?vv53) rfl (by kernel_rfl) (by kernel_rfl) (by kernel_rfl) (by kernel_rfl) (fun _ _ _ h => h) hS3 ?hy53 (by rfl) ?rest53
    case hy53 =>
     intro w0 h0
     go_simp
     try with_reducible rfl
    simp only [Act.put, yq0, yq1, yq2, yq3, yq4, yq5]
    refine AnyG.take 15 (v := ?vv54) rfl (by kernel_rfl) (by kernel_rfl) (by kernel_rfl) (by kernel_rfl) (fun _ _ _ h => h) hS3 ?hy54 (by rfl) ?rest54
    case hy54 =>
     intro w0 h0
     have c0 := h0.cell 3 rfl
     go_simp
     try with_reducible rfl
    simp only [Act.put, yq0, yq1, yq2, yq3, yq4, yq5]
    refine AnyG.take 16 (v := ?vv55) rfl (by kernel_rfl) (by kernel_rfl) (by kernel_rfl) (by kernel_rfl) (fun _ _ _ h => h) hS3 ?hy55 (by rfl) ?rest55
    case hy55 =>
     intro w0 h0
     go_simp
     try with_reducible rfl
    simp only [Act.put, yq0, yq1, yq2, yq3, yq4, yq5]
    refine AnyG.take 17 (v := ?vv56) rfl (by kernel_rfl) (by kernel_rfl) (by kernel_rfl) (by kernel_rfl) (fun _ _ _ h => h) hS3 ?hy56 (by rfl) ?rest56
    case hy56 =>
     intro w0 h0
     go_simp
     try with_reducible rfl
    simp only [Act.put, yq0, yq1, yq2, yq3, yq4, yq5]
    refine AnyG.take 18 (v := ?vv57) rfl (by kernel_rfl) (by kernel_rfl) (by kernel_rfl) (by kernel_rfl) (fun _ _ _ h => h) hS3 ?hy57 (by rfl) ?rest57
    case hy57 =>
     intro w0 h0
     go_simp
     try with_reducible rfl
    simp only [Act.put, yq0, yq1, yq2, yq3, yq4, yq5]
    refine AnyG.take 19 (v := ?vv58) rfl (by kernel_rfl) (by kernel_rfl) (by kernel_rfl) (by kernel_rfl) (fun _ _ _ h => h) hS3 ?hy58 (by rfl) ?rest58
    case hy58 =>
     intro w0 h0
     have c0 := h0.cell 1 rfl
     go_simp
     try with_reducible rfl
    simp only [Act.put, yq0, yq1, yq2, yq3, yq4, yq5]
    refine AnyG.take 20 (v := ?vv59) rfl (by kernel_rfl) (by kernel_rfl) (by kernel_rfl) (by kernel_rfl) (fun _ _ _ h => h) hS3 ?hy59 (by rfl) ?rest59
    case hy59 =>
     intro w0 h0
     go_simp
     try with_reducible rfl
    simp only [Act.put, yq0, yq1, yq2, yq3, yq4, yq5]
    refine AnyG.take 21 (v := ?vv60) rfl (by kernel_rfl) (by kernel_rfl) (by kernel_rfl) (by kernel_rfl) (fun _ _ _ h => h) hS3 ?hy60 (by rfl) ?rest60
    case hy60 =>
     intro w0 h0
     go_simp
     try with_reducible rfl
    simp only [Act.put, yq0, yq1, yq2, yq3, yq4, yq5]
    refine AnyG.take 22 (v := ?vv61) rfl (by kernel_rfl) (by kernel_rfl) (by kernel_rfl) (by kernel_rfl) (fun _ _ _ h => h) hS3 ?hy61 (by rfl) ?rest61
    case hy61 =>
     intro w0 h0
     go_simp
     try with_reducible rfl
    simp only [Act.put, yq0, yq1, yq2, yq3, yq4, yq5]
    refine AnyG.done (by kernel_rfl) ?_ _
    clear hS2 hS hb hb3 bV bw2 C1 w2 V
    have q0 := hS3.cell 0 rfl
    have q1 := hS3.cell 1 rfl
    go_wp2_with fail
    refine (C3.out _).mono ?_
    rintro e w4 ⟨rfl, hb⟩
    have hS4 := hS3.kept hb
    have bw4 := bw3.trans (hb.mono bw3.size)
    clear hb q0 q1 C3 hS3 bw3
    go_wp2
    go_loopw [3, 34] (fun t s wr => ∃ G : Nat, G ≤ M ∧ s = .int .i64 G ∧ t = .int .i64 (cntB xs (512 * G) : Nat) ∧ Hid (Right m xs su sb G) ∧ Cel wr w.heap.size [.int .i64 (m : Int), .slice ao xs.length cap, .slice so su.length sc, .slice tO sb.length tc] 29 ∧ Below w.heap.size w wr) (fun _ s _ => M - (intOf s).toNat)
    case atStart => exact ⟨0, Nat.zero_le _, rfl, rfl, Right.zero m xs su sb, hS4, bw4⟩
    case round =>
     obtain ⟨G, hG, rfl, rfl, HR, hc, hbr⟩ := hrel
     clear hS4 bw4
     have q0 := hc.cell 0 rfl
     have q1 := hc.cell 1 rfl
     by_cases hlt : G < M
     ·have hlt2 : (G : Int) < (M : Int) := by omega
      have hG2 : G ≤ m / 512 := by have := hM.out; omega
      go_wp2_with fail
      refine (C4.out G _ hG2 hbr).mono ?_
      rintro e w5 ⟨wo, wc, rfl, hww, hb⟩
      have hc5 := hc.kept hb
      have bw5 := hbr.trans (hb.mono hbr.size)
      clear hb hc hbr q0 q1
      have C5 : Hid (∀ w0, w0 = w5 → Calls Tryz.prog 68 #[.slice wo (grp xs G).length wc] w0 fun e w' => e = .returned (.tuple #[.agg (iv (ahd (grp xs G))).toArray, .int .i64 (cntB (grp xs G) (64 * (grp xs G).length) : Nat)]) ∧ Below w0.heap.size w0 w') := fun w0 h0 => by subst h0; exact counted_c wo (grp xs G) wc w0 hww (fit_grp xs h.f G) (by rw [length_grp]; omega)
      have hall := cntB_all xs G
      have hc8 : (grp xs G).length ≤ 8 := by rw [length_grp]; omega
      have hend : 8 * G + (grp xs G).length ≤ sb.length := by rw [length_grp]; have := H2.out; have := HL.out; omega
      have hlS : G < su.length := by have := H1.out; omega
      have lD := length_ahd (grp xs G)
      have bZ := cntB_le xs (512 * G)
      have bA := cntB_le (grp xs G) (64 * (grp xs G).length)
      have hGb : G ≤ 2048 := by omega
      have B5 := pchk_bad5 m xs su sb hk HL.out G
      have B4 := pchk_bad4 m xs su sb hk G hG2
      have ST : Hid (gi su G = (cntB xs (512 * G) : Int) → (sb.drop (8 * G)).take (grp xs G).length = ahT xs G → Right m xs su sb (G + 1)) := fun a b => Right.step m xs su sb hk HL.out G hG2 HR.out a b
      have EQ : Hid (∀ w0 ga, Below w.heap.size w w0 → Cel w0 ga (iv (ahd (grp xs G))) 102 → Calls Tryz.prog 107 #[.slice (subO tO tc (8 * G)) (grp xs G).length (tc - 8 * G), .slice (some ⟨ga, 0, none⟩) (grp xs G).length 8] w0 fun e w' => e = .returned (.bool (decide ((sb.drop (8 * G)).take (grp xs G).length = ahT xs G))) ∧ Below w0.heap.size w0 w') := by
       intro w0 ga hb hca
       refine equal_c _ ((sb.drop (8 * G)).take (grp xs G).length) _ _ (by simp; omega) _ (ahT xs G) _ _ (by rw [length_ahT]) w0 (nd_sub (h.t.keep hb) (8 * G) _ hend h.tc) (nd_arr hca) (by simp; omega)
      obtain ⟨b1, o1, rfl, hb1, hcc1⟩ := h.s (by omega)
      have hcG := hcc1 G hlS
      have l4 : sb.length ≤ tc := h.tc
      clear hcc1 C4
      go_wp2_with fail
      refine (C5.out _ rfl).mono ?_
      rintro e w6 ⟨rfl, hb⟩
      have hc6 := hc5.kept hb
      have bw6 := bw5.trans (hb.mono bw5.size)
      clear hb C5 hc5 bw5 hww
      obtain ⟨D, hD⟩ : ∃ D, Hid (D = ahd (grp xs G)) := ⟨_, rfl⟩
      rw [← hD.out] at lD EQ ⊢
      obtain ⟨A, hA⟩ : ∃ A, A = cntB (grp xs G) (64 * (grp xs G).length) := ⟨_, rfl⟩
      rw [← hA] at hall bA ⊢
      obtain ⟨Z, hZ⟩ : ∃ Z, Z = cntB xs (512 * G) := ⟨_, rfl⟩
      rw [← hZ] at hall bZ B4 ST ⊢
      obtain ⟨c, hcl⟩ : ∃ c, c = (grp xs G).length := ⟨_, rfl⟩
      rw [← hcl] at hc8 bA hend B5 EQ ST ⊢
      have HALL : Hid (cntB xs (512 * (G + 1)) = Z + A) := hall
      clear hall hA hZ hcl HR
      go_wp2_with (refine alloc_arr ?_)
      intro w7 hc7 hb7 hs7
      go_wp2_with (refine store_arr w6.heap.size _ _ rfl rfl hc7 (by simp) lD ?_)
      intro w8 hC8 ho8
      have bb8 := hb7.trans (ho8.below (Nat.le_refl _))
      have hc8b := hc6.kept bb8
      have bw8 := bw6.trans (bb8.mono bw6.size)
      clear hb7 hs7 hc7 ho8 bb8 hc6 bw6 w7
      generalize w6.heap.size = ga at *
      simp only [Act.put, yq3, List.set]
      go_wp2
      refine region_g [] (fun w' => Cel w' w.heap.size [.int .i64 (m : Int), .slice ao xs.length cap, .slice (some ⟨b1, o1, none⟩) su.length sc, .slice tO sb.length tc] 29 ∧ w'.cell? ⟨b1, o1 + G, none⟩ = some (.int .i64 (gi su G))) (by kernel_rfl) ?_
      have hS : Cel w8.drew w.heap.size [.int .i64 (m : Int), .slice ao xs.length cap, .slice (some ⟨b1, o1, none⟩) su.length sc, .slice tO sb.length tc] 29 ∧ w8.drew.cell? ⟨b1, o1 + G, none⟩ = some (.int .i64 (gi su G)) := ⟨hc8b, (bw8.drew.cell (p := ⟨b1, o1 + G, none⟩) hb1).trans hcG⟩
      have bV : Below w.heap.size w w8.drew := bw8.drew
      have hCd : Cel w8.drew ga (iv D) 102 := hC8
      generalize w8.drew = V at *
      have hlS2 : (G : Int) < (su.length : Int) := by omega
      have m1 : IntKind.i64.wrap ((G : Int) * 8) = ((8 * G : Nat) : Int) := by rw [IntKind.wrap_i64]; omega
      have m2 : IntKind.i64.wrap (((8 * G : Nat) : Int) + (c : Int)) = ((8 * G + c : Nat) : Int) := by rw [IntKind.wrap_i64]; omega
      have m2b : IntKind.i64.wrap (8 * (G : Int) + (c : Int)) = ((8 * G + c : Nat) : Int) := by rw [IntKind.wrap_i64]; omega
      have l5 : 8 * G + c ≤ tc := by omega
      have l5b : ((8 * G + c : Nat) : Int) ≤ (tc : Int) := by omega
      have c1 : (c : Int) ≤ 8 := by omega
      clear hC8 hc8b bw8 hcG
      by_cases v1 : gi su G = (Z : Int)
      ·have v1b : (gi su G != (Z : Int)) = false := by simp [v1]
       refine AnyG.take 0 (v := ?vv101) rfl (by kernel_rfl) (by kernel_rfl) (by kernel_rfl) (by kernel_rfl) (fun _ _ _ h => h) hS ?hy101 (by rfl) ?rest101
       case hy101 =>
        intro w0 h0
        go_simp
        try with_reducible rfl
       simp only [Act.put, yq0, yq1, yq2, yq3, yq4, yq5]
       refine AnyG.take 1 (v := ?vv102) rfl (by kernel_rfl) (by kernel_rfl) (by kernel_rfl) (by kernel_rfl) (fun _ _ _ h => h) hS ?hy102 (by rfl) ?rest102
       case hy102 =>
        intro w0 h0
        have c2 := h0.1.cell 2 rfl
        go_simp
        try with_reducible rfl
       simp only [Act.put, yq0, yq1, yq2, yq3, yq4, yq5]
       refine AnyG.take 2 (v := ?vv103) rfl (by kernel_rfl) (by kernel_rfl) (by kernel_rfl) (by kernel_rfl) (fun _ _ _ h => h) hS ?hy103 (by rfl) ?rest103
       case hy103 =>
        intro w0 h0
        go_simp
        try with_reducible rfl
       simp only [Act.put, yq0, yq1, yq2, yq3, yq4, yq5]
       refine AnyG.take 3 (v := ?vv104) rfl (by kernel_rfl) (by kernel_rfl) (by kernel_rfl) (by kernel_rfl) (fun _ _ _ h => h) hS ?hy104 (by rfl) ?rest104
       case hy104 =>
        intro w0 h0
        go_simp
        try with_reducible rfl
       simp only [Act.put, yq0, yq1, yq2, yq3, yq4, yq5]
       refine AnyG.take 4 (v := ?vv105) rfl (by kernel_rfl) (by kernel_rfl) (by kernel_rfl) (by kernel_rfl) (fun _ _ _ h => h) hS ?hy105 (by rfl) ?rest105
       case hy105 =>
        intro w0 h0
        have c2 := h0.2
        go_simp
        try with_reducible rfl
       simp only [Act.put, yq0, yq1, yq2, yq3, yq4, yq5]
       refine AnyG.take 5 (v := ?vv106) rfl (by kernel_rfl) (by kernel_rfl) (by kernel_rfl) (by kernel_rfl) (fun _ _ _ h => h) hS ?hy106 (by rfl) ?rest106
       case hy106 =>
        intro w0 h0
        go_simp
        try with_reducible rfl
       simp only [Act.put, yq0, yq1, yq2, yq3, yq4, yq5]
       refine AnyG.take 6 (v := ?vv107) rfl (by kernel_rfl) (by kernel_rfl) (by kernel_rfl) (by kernel_rfl) (fun _ _ _ h => h) hS ?hy107 (by rfl) ?rest107
       case hy107 =>
        intro w0 h0
        go_simp
        try with_reducible rfl
       simp only [Act.put, yq0, yq1, yq2, yq3, yq4, yq5]
       refine AnyG.take 7 (v := ?vv108) rfl (by kernel_rfl) (by kernel_rfl) (by kernel_rfl) (by kernel_rfl) (fun _ _ _ h => h) hS ?hy108 (by rfl) ?rest108
       case hy108 =>
        intro w0 h0
        go_simp
        try with_reducible rfl
       simp only [Act.put, yq0, yq1, yq2, yq3, yq4, yq5]
       refine AnyG.take 8 (v := ?vv109) rfl (by kernel_rfl) (by kernel_rfl) (by kernel_rfl) (by kernel_rfl) (fun _ _ _ h => h) hS ?hy109 (by rfl) ?rest109
       case hy109 =>
        intro w0 h0
        go_simp
        try with_reducible rfl
       simp only [Act.put, yq0, yq1, yq2, yq3, yq4, yq5]
       refine AnyG.take 9 (v := ?vv110) rfl (by kernel_rfl) (by kernel_rfl) (by kernel_rfl) (by kernel_rfl) (fun _ _ _ h => h) hS ?hy110 (by rfl) ?rest110
       case hy110 =>
        intro w0 h0
        have c2 := h0.1.cell 3 rfl
        go_simp
        try with_reducible rfl
       simp only [Act.put, yq0, yq1, yq2, yq3, yq4, yq5]
       refine AnyG.take 10 (v := ?vv111) rfl (by kernel_rfl) (by kernel_rfl) (by kernel_rfl) (by kernel_rfl) (fun _ _ _ h => h) hS ?hy111 (by rfl) ?rest111
       case hy111 =>
        intro w0 h0
        go_simp
        try with_reducible rfl
       simp only [Act.put, yq0, yq1, yq2, yq3, yq4, yq5]
       refine AnyG.take 11 (v := ?vv112) rfl (by kernel_rfl) (by kernel_rfl) (by kernel_rfl) (by kernel_rfl) (fun _ _ _ h => h) hS ?hy112 (by rfl) ?rest112
       case hy112 =>
        intro w0 h0
        go_simp
        try with_reducible rfl
       simp only [Act.put, yq0, yq1, yq2, yq3, yq4, yq5]
       refine AnyG.take 12 (v := ?vv113) rfl (by kernel_rfl) (by kernel_rfl) (by kernel_rfl) (by kernel_rfl) (fun _ _ _ h => h) hS ?hy113 (by rfl) ?rest113
       case hy113 =>
        intro w0 h0
        go_simp
        try with_reducible rfl
       simp only [Act.put, yq0, yq1, yq2, yq3, yq4, yq5]
       refine AnyG.take 13 (v := ?vv114) rfl (by kernel_rfl) (by kernel_rfl) (by kernel_rfl) (by kernel_rfl) (fun _ _ _ h => h) hS ?hy114 (by rfl) ?rest114
       case hy114 =>
        intro w0 h0
        go_simp
        try with_reducible rfl
       simp only [Act.put, yq0, yq1, yq2, yq3, yq4, yq5]
       refine AnyG.take 14 (v := ?vv115) rfl (by kernel_rfl) (by kernel_rfl) (by kernel_rfl) (by kernel_rfl) (fun _ _ _ h => h) hS ?hy115 (by rfl) ?rest115
       case hy115 =>
        intro w0 h0
        go_simp
        try with_reducible rfl
       simp only [Act.put, yq0, yq1, yq2, yq3, yq4, yq5]
       refine AnyG.take 15 (v := ?vv116) rfl (by kernel_rfl) (by kernel_rfl) (by kernel_rfl) (by kernel_rfl) (fun _ _ _ h => h) hS ?hy116 (by rfl) ?rest116
       case hy116 =>
        intro w0 h0
        go_simp
        try with_reducible rfl
       simp only [Act.put, yq0, yq1, yq2, yq3, yq4, yq5]
       refine AnyG.take 16 (v := ?vv117) rfl (by kernel_rfl) (by kernel_rfl) (by kernel_rfl) (by kernel_rfl) (fun _ _ _ h => h) hS ?hy117 (by rfl) ?rest117
       case hy117 =>
        intro w0 h0
        go_simp
        try with_reducible rfl
       simp only [Act.put, yq0, yq1, yq2, yq3, yq4, yq5]
       refine AnyG.take 17 (v := .slice (subO tO tc (8 * G)) c (tc - 8 * G)) rfl (by kernel_rfl) (by kernel_rfl) (by kernel_rfl) (by kernel_rfl) (fun _ _ _ h => h) hS ?hy170 (by rfl) ?rest170
       case hy170 =>
        intro w0 h0
        have z1 : (8 * (G : Int)).toNat = 8 * G := by omega
        have z2 : (8 * (G : Int) + (c : Int)).toNat = 8 * G + c := by omega
        cases tO with
        | none =>
         go_simp
         rw [if_pos ⟨by omega, by omega⟩, if_pos ⟨by omega, by omega⟩]
         rfl
        | some a0 =>
         go_simp
         rw [if_pos ⟨by omega, by omega⟩, if_pos ⟨by omega, by omega⟩]
         rfl
       simp only [Act.put, yq0, yq1, yq2, yq3, yq4, yq5]
       refine AnyG.take 18 (v := ?vv118) rfl (by kernel_rfl) (by kernel_rfl) (by kernel_rfl) (by kernel_rfl) (fun _ _ _ h => h) hS ?hy118 (by rfl) ?rest118
       case hy118 =>
        intro w0 h0
        go_simp
        try with_reducible rfl
       simp only [Act.put, yq0, yq1, yq2, yq3, yq4, yq5]
       refine AnyG.take 19 (v := ?vv119) rfl (by kernel_rfl) (by kernel_rfl) (by kernel_rfl) (by kernel_rfl) (fun _ _ _ h => h) hS ?hy119 (by rfl) ?rest119
       case hy119 =>
        intro w0 h0
        go_simp
        try with_reducible rfl
       simp only [Act.put, yq0, yq1, yq2, yq3, yq4, yq5]
       refine AnyG.take 20 (v := ?vv120) rfl (by kernel_rfl) (by kernel_rfl) (by kernel_rfl) (by kernel_rfl) (fun _ _ _ h => h) hS ?hy120 (by rfl) ?rest120
       case hy120 =>
        intro w0 h0
        go_simp
        try with_reducible rfl
       simp only [Act.put, yq0, yq1, yq2, yq3, yq4, yq5]
       refine AnyG.one 21 (by kernel_rfl) rfl ?_
       intro K hK
       go_simp
       refine (EQ.out _ ga bV hCd).mono ?_
       rintro e w2 ⟨rfl, hb⟩
       have hS2 := And.intro (hS.1.kept hb) ((hb.cell (p := ⟨b1, o1 + G, none⟩) (Nat.lt_of_lt_of_le hb1 bV.size)).trans hS.2)
       have bw2 := bV.trans (hb.mono bV.size)
       refine hK.out _ _ (fun _ => hS2) ?_
       clear hK K
       try simp only [Act.put, yq0, yq1, yq2, yq3, yq4, yq5]
       by_cases v2 : (sb.drop (8 * G)).take c = ahT xs G
       ·have RR := ST.out v1 v2
        rw [decide_eq_true v2]
        refine AnyG.take 22 (v := ?vv151) rfl (by kernel_rfl) (by kernel_rfl) (by kernel_rfl) (by kernel_rfl) (fun _ _ _ h => h) hS2 ?hy151 (by rfl) ?rest151
        case hy151 =>
         intro w0 h0
         go_simp
         try with_reducible rfl
        simp only [Act.put, yq0, yq1, yq2, yq3, yq4, yq5]
        refine AnyG.take 23 (v := ?vv152) rfl (by kernel_rfl) (by kernel_rfl) (by kernel_rfl) (by kernel_rfl) (fun _ _ _ h => h) hS2 ?hy152 (by rfl) ?rest152
        case hy152 =>
         intro w0 h0
         go_simp
         try with_reducible rfl
        simp only [Act.put, yq0, yq1, yq2, yq3, yq4, yq5]
        refine AnyG.done (by kernel_rfl) ?_ _
        have HR2 : Hid (Right m xs su sb (G + 1)) := RR
        clear RR ST EQ B5 B4 hCd hS bV hb
        go_wp2
        refine ⟨⟨G + 1, by omega, by go_num, ?_, HR2, hS2.1, bw2⟩, by simp only [intOf]; omega⟩
        rw [HALL.out]
        go_num
       ·have RF : Hid (pchk (m : Int) xs su sb = false) := B5 v2
        rw [decide_eq_false v2]
        refine AnyG.take 22 (v := ?vv201) rfl (by kernel_rfl) (by kernel_rfl) (by kernel_rfl) (by kernel_rfl) (fun _ _ _ h => h) hS2 ?hy201 (by rfl) ?rest201
        case hy201 =>
         intro w0 h0
         go_simp
         try with_reducible rfl
        simp only [Act.put, yq0, yq1, yq2, yq3, yq4, yq5]
        refine AnyG.take 23 (v := ?vv202) rfl (by kernel_rfl) (by kernel_rfl) (by kernel_rfl) (by kernel_rfl) (fun _ _ _ h => h) hS2 ?hy202 (by rfl) ?rest202
        case hy202 =>
         intro w0 h0
         go_simp
         try with_reducible rfl
        simp only [Act.put, yq0, yq1, yq2, yq3, yq4, yq5]
        refine AnyG.done (by kernel_rfl) ?_ _
        clear ST EQ B5 B4 hCd hS bV hb
        go_wp2
        go_ret
        rw [RF.out]
        exact ⟨rfl, bw2⟩
      ·have v1b : (gi su G != (Z : Int)) = true := by simp [v1]
       have RF : Hid (pchk (m : Int) xs su sb = false) := B4 v1
       refine AnyG.take 0 (v := ?vv251) rfl (by kernel_rfl) (by kernel_rfl) (by kernel_rfl) (by kernel_rfl) (fun _ _ _ h => h) hS ?hy251 (by rfl) ?rest251
       case hy251 =>
        intro w0 h0
        go_simp
        try with_reducible rfl
       simp only [Act.put, yq0, yq1, yq2, yq3, yq4, yq5]
       refine AnyG.take 1 (v := ?vv252) rfl (by kernel_rfl) (by kernel_rfl) (by kernel_rfl) (by kernel_rfl) (fun _ _ _ h => h) hS ?hy252 (by rfl) ?rest252
       case hy252 =>
        intro w0 h0
        have c2 := h0.1.cell 2 rfl
        go_simp
        try with_reducible rfl
       simp only [Act.put, yq0, yq1, yq2, yq3, yq4, yq5]
       refine AnyG.take 2 (v := ?vv253) rfl (by kernel_rfl) (by kernel_rfl) (by kernel_rfl) (by kernel_rfl) (fun _ _ _ h => h) hS ?hy253 (by rfl) ?rest253
       case hy253 =>
        intro w0 h0
        go_simp
        try with_reducible rfl
       simp only [Act.put, yq0, yq1, yq2, yq3, yq4, yq5]
       refine AnyG.take 3 (v := ?vv254) rfl (by kernel_rfl) (by kernel_rfl) (by kernel_rfl) (by kernel_rfl) (fun _ _ _ h => h) hS ?hy254 (by rfl) ?rest254
       case hy254 =>
        intro w0 h0
        go_simp
        try with_reducible rfl
       simp only [Act.put, yq0, yq1, yq2, yq3, yq4, yq5]
       refine AnyG.take 4 (v := ?vv255) rfl (by kernel_rfl) (by kernel_rfl) (by kernel_rfl) (by kernel_rfl) (fun _ _ _ h => h) hS ?hy255 (by rfl) ?rest255
       case hy255 =>
        intro w0 h0
        have c2 := h0.2
        go_simp
        try with_reducible rfl
       simp only [Act.put, yq0, yq1, yq2, yq3, yq4, yq5]
       refine AnyG.take 5 (v := ?vv256) rfl (by kernel_rfl) (by kernel_rfl) (by kernel_rfl) (by kernel_rfl) (fun _ _ _ h => h) hS ?hy256 (by rfl) ?rest256
       case hy256 =>
        intro w0 h0
        go_simp
        try with_reducible rfl
       simp only [Act.put, yq0, yq1, yq2, yq3, yq4, yq5]
       refine AnyG.take 6 (v := ?vv257) rfl (by kernel_rfl) (by kernel_rfl) (by kernel_rfl) (by kernel_rfl) (fun _ _ _ h => h) hS ?hy257 (by rfl) ?rest257
       case hy257 =>
        intro w0 h0
        go_simp
        try with_reducible rfl
       simp only [Act.put, yq0, yq1, yq2, yq3, yq4, yq5]
       refine AnyG.take 7 (v := ?vv258) rfl (by kernel_rfl) (by kernel_rfl) (by kernel_rfl) (by kernel_rfl) (fun _ _ _ h => h) hS ?hy258 (by rfl) ?rest258
       case hy258 =>
        intro w0 h0
        go_simp
        try with_reducible rfl
       simp only [Act.put, yq0, yq1, yq2, yq3, yq4, yq5]
       refine AnyG.skip 8 rfl (by kernel_rfl) (by kernel_rfl) (by kernel_rfl) (by kernel_rfl) (fun _ _ _ h => h) hS (by rfl) ?_
       simp only [Act.put, yq0, yq1, yq2, yq3, yq4, yq5]
       refine AnyG.skip 9 rfl (by kernel_rfl) (by kernel_rfl) (by kernel_rfl) (by kernel_rfl) (fun _ _ _ h => h) hS (by rfl) ?_
       simp only [Act.put, yq0, yq1, yq2, yq3, yq4, yq5]
       refine AnyG.skip 10 rfl (by kernel_rfl) (by kernel_rfl) (by kernel_rfl) (by kernel_rfl) (fun _ _ _ h => h) hS (by rfl) ?_
       simp only [Act.put, yq0, yq1, yq2, yq3, yq4, yq5]
       refine AnyG.skip 11 rfl (by kernel_rfl) (by kernel_rfl) (by kernel_rfl) (by kernel_rfl) (fun _ _ _ h => h) hS (by rfl) ?_
       simp only [Act.put, yq0, yq1, yq2, yq3, yq4, yq5]
       refine AnyG.skip 12 rfl (by kernel_rfl) (by kernel_rfl) (by kernel_rfl) (by kernel_rfl) (fun _ _ _ h => h) hS (by rfl) ?_
       simp only [Act.put, yq0, yq1, yq2, yq3, yq4, yq5]
       refine AnyG.skip 13 rfl (by kernel_rfl) (by kernel_rfl) (by kernel_rfl) (by kernel_rfl) (fun _ _ _ h => h) hS (by rfl) ?_
       simp only [Act.put, yq0, yq1, yq2, yq3, yq4, yq5]
       refine AnyG.skip 14 rfl (by kernel_rfl) (by kernel_rfl) (by kernel_rfl) (by kernel_rfl) (fun _ _ _ h => h) hS (by rfl) ?_
       simp only [Act.put, yq0, yq1, yq2, yq3, yq4, yq5]
       refine AnyG.skip 15 rfl (by kernel_rfl) (by kernel_rfl) (by kernel_rfl) (by kernel_rfl) (fun _ _ _ h => h) hS (by rfl) ?_
       simp only [Act.put, yq0, yq1, yq2, yq3, yq4, yq5]
       refine AnyG.skip 16 rfl (by kernel_rfl) (by kernel_rfl) (by kernel_rfl) (by kernel_rfl) (fun _ _ _ h => h) hS (by rfl) ?_
       simp only [Act.put, yq0, yq1, yq2, yq3, yq4, yq5]
       refine AnyG.skip 17 rfl (by kernel_rfl) (by kernel_rfl) (by kernel_rfl) (by kernel_rfl) (fun _ _ _ h => h) hS (by rfl) ?_
       simp only [Act.put, yq0, yq1, yq2, yq3, yq4, yq5]
       refine AnyG.skip 18 rfl (by kernel_rfl) (by kernel_rfl) (by kernel_rfl) (by kernel_rfl) (fun _ _ _ h => h) hS (by rfl) ?_
       simp only [Act.put, yq0, yq1, yq2, yq3, yq4, yq5]
       refine AnyG.skip 19 rfl (by kernel_rfl) (by kernel_rfl) (by kernel_rfl) (by kernel_rfl) (fun _ _ _ h => h) hS (by rfl) ?_
       simp only [Act.put, yq0, yq1, yq2, yq3, yq4, yq5]
       refine AnyG.skip 20 rfl (by kernel_rfl) (by kernel_rfl) (by kernel_rfl) (by kernel_rfl) (fun _ _ _ h => h) hS (by rfl) ?_
       simp only [Act.put, yq0, yq1, yq2, yq3, yq4, yq5]
       refine AnyG.skip 21 rfl (by kernel_rfl) (by kernel_rfl) (by kernel_rfl) (by kernel_rfl) (fun _ _ _ h => h) hS (by rfl) ?_
       simp only [Act.put, yq0, yq1, yq2, yq3, yq4, yq5]
       refine AnyG.skip 22 rfl (by kernel_rfl) (by kernel_rfl) (by kernel_rfl) (by kernel_rfl) (fun _ _ _ h => h) hS (by rfl) ?_
       simp only [Act.put, yq0, yq1, yq2, yq3, yq4, yq5]
       refine AnyG.take 23 (v := ?vv259) rfl (by kernel_rfl) (by kernel_rfl) (by kernel_rfl) (by kernel_rfl) (fun _ _ _ h => h) hS ?hy259 (by rfl) ?rest259
       case hy259 =>
        intro w0 h0
        go_simp
        try with_reducible rfl
       simp only [Act.put, yq0, yq1, yq2, yq3, yq4, yq5]
       refine AnyG.done (by kernel_rfl) ?_ _
       clear ST EQ B5 B4 hCd hS
       go_wp2
       go_ret
       rw [RF.out]
       exact ⟨rfl, bV⟩
     ·obtain rfl : G = M := by omega
      have hlt2 : ¬ (G : Int) < (G : Int) := by omega
      have RT : Hid (pchk (m : Int) xs su sb = true) := by
       have a := HR.out
       have b := H1.out
       rw [hM.out] at a b
       exact Right.last m xs su sb hk HL.out b H2.out a
      clear q0 q1
      go_wp2
      go_ret
      rw [RT.out]
      exact ⟨rfl, hbr⟩
   ·have h2' : ((sb.length : Int) != (xs.length : Int)) = true := by simp; omega
    have R : Hid (pchk (m : Int) xs su sb = false) := pchk_bad3 _ xs su sb h2
    rw [R.out]
    clear h1 h2 h
    go_enter Tryz.func58, Tryz.ntmps58
    go_wp2
    rw [← hW]
    clear hW
    refine region_g [] (fun w' => Cel w' w.heap.size [.int .i64 (m : Int), .slice ao xs.length cap, .slice so su.length sc, .slice tO sb.length tc] 29) (by kernel_rfl) ?_
    have hS : Cel W.drew w.heap.size [.int .i64 (m : Int), .slice ao xs.length cap, .slice so su.length sc, .slice tO sb.length tc] 29 := B1
    have bV : Below w.heap.size w W.drew := bW.drew
    generalize W.drew = V at *
    clear B1 bW
    refine AnyG.take 0 (v := ?vv301) rfl (by kernel_rfl) (by kernel_rfl) (by kernel_rfl) (by kernel_rfl) (fun _ _ _ h => h) hS ?hy301 (by rfl) ?rest301
    case hy301 =>
     intro w0 h0
     go_simp
     try with_reducible rfl
    simp only [Act.put, yq0, yq1, yq2, yq3, yq4, yq5]
    refine AnyG.take 1 (v := ?vv302) rfl (by kernel_rfl) (by kernel_rfl) (by kernel_rfl) (by kernel_rfl) (fun _ _ _ h => h) hS ?hy302 (by rfl) ?rest302
    case hy302 =>
     intro w0 h0
     have c0 := h0.cell 0 rfl
     have c1 := h0.cell 1 rfl
     go_simp
     try with_reducible rfl
    simp only [Act.put, yq0, yq1, yq2, yq3, yq4, yq5]
    refine AnyG.one 2 (by kernel_rfl) rfl ?_
    intro K hK
    go_simp
    refine (C1.out _ bV).mono ?_
    rintro e w2 ⟨rfl, hb⟩
    have hS2 := hS.kept hb
    have bw2 := bV.trans (hb.mono bV.size)
    refine hK.out _ _ (fun _ => hS2) ?_
    clear hK K
    try simp only [Act.put, yq0, yq1, yq2, yq3, yq4, yq5]
    refine AnyG.take 3 (v := ?vv303) rfl (by kernel_rfl) (by kernel_rfl) (by kernel_rfl) (by kernel_rfl) (fun _ _ _ h => h) hS2 ?hy303 (by rfl) ?rest303
    case hy303 =>
     intro w0 h0
     go_simp
     try with_reducible rfl
    simp only [Act.put, yq0, yq1, yq2, yq3, yq4, yq5]
    refine AnyG.take 4 (v := ?vv304) rfl (by kernel_rfl) (by kernel_rfl) (by kernel_rfl) (by kernel_rfl) (fun _ _ _ h => h) hS2 ?hy304 (by rfl) ?rest304
    case hy304 =>
     intro w0 h0
     go_simp
     try with_reducible rfl
    simp only [Act.put, yq0, yq1, yq2, yq3, yq4, yq5]
    refine AnyG.take 5 (v := ?vv305) rfl (by kernel_rfl) (by kernel_rfl) (by kernel_rfl) (by kernel_rfl) (fun _ _ _ h => h) hS2 ?hy305 (by rfl) ?rest305
    case hy305 =>
     intro w0 h0
     go_simp
     try with_reducible rfl
    simp only [Act.put, yq0, yq1, yq2, yq3, yq4, yq5]
    refine AnyG.take 6 (v := ?vv306) rfl (by kernel_rfl) (by kernel_rfl) (by kernel_rfl) (by kernel_rfl) (fun _ _ _ h => h) hS2 ?hy306 (by rfl) ?rest306
    case hy306 =>
     intro w0 h0
     have c0 := h0.cell 2 rfl
     go_simp
     try with_reducible rfl
    simp only [Act.put, yq0, yq1, yq2, yq3, yq4, yq5]
    refine AnyG.take 7 (v := ?vv307) rfl (by kernel_rfl) (by kernel_rfl) (by kernel_rfl) (by kernel_rfl) (fun _ _ _ h => h) hS2 ?hy307 (by rfl) ?rest307
    case hy307 =>
     intro w0 h0
     go_simp
     try with_reducible rfl
    simp only [Act.put, yq0, yq1, yq2, yq3, yq4, yq5]
    refine AnyG.take 8 (v := ?vv308) rfl (by kernel_rfl) (by kernel_rfl) (by kernel_rfl) (by kernel_rfl) (fun _ _ _ h => h) hS2 ?hy308 (by rfl) ?rest308
    case hy308 =>
     intro w0 h0
     go_simp
     try with_reducible rfl
    simp only [Act.put, yq0, yq1, yq2, yq3, yq4, yq5]
    refine AnyG.take 9 (v := ?vv309) rfl (by kernel_rfl) (by kernel_rfl) (by kernel_rfl) (by kernel_rfl) (fun _ _ _ h => h) hS2 ?hy309 (by rfl) ?rest309
    case hy309 =>
     intro w0 h0
     have c0 := h0.cell 0 rfl
     have c1 := h0.cell 1 rfl
     go_simp
     try with_reducible rfl
    simp only [Act.put, yq0, yq1, yq2, yq3, yq4, yq5]
    refine AnyG.one 10 (by kernel_rfl) rfl ?_
    intro K hK
    go_simp
    refine (C3.out _).mono ?_
    rintro e w3 ⟨rfl, hb3⟩
    have hS3 := hS2.kept hb3
    have bw3 := bw2.trans (hb3.mono bw2.size)
    refine hK.out _ _ (fun _ => hS3) ?_
    clear hK K
    try simp only [Act.put, yq0, yq1, yq2, yq3, yq4, yq5]
    refine AnyG.take 11 (v := ?vv310) rfl (by kernel_rfl) (by kernel_rfl) (by kernel_rfl) (by kernel_rfl) (fun _ _ _ h => h) hS3 ?hy310 (by rfl) ?rest310
    case hy310 =>
     intro w0 h0
     go_simp
     try with_reducible rfl
    simp only [Act.put, yq0, yq1, yq2, yq3, yq4, yq5]
    refine AnyG.take 12 (v := ?vv311) rfl (by kernel_rfl) (by kernel_rfl) (by kernel_rfl) (by kernel_rfl) (fun _ _ _ h => h) hS3 ?hy311 (by rfl) ?rest311
    case hy311 =>
     intro w0 h0
     go_simp
     try with_reducible rfl
    simp only [Act.put, yq0, yq1, yq2, yq3, yq4, yq5]
    refine AnyG.take 13 (v := ?vv312) rfl (by kernel_rfl) (by kernel_rfl) (by kernel_rfl) (by kernel_rfl) (fun _ _ _ h => h) hS3 ?hy312 (by rfl) ?rest312
    case hy312 =>
     intro w0 h0
     go_simp
     try with_reducible rfl
    simp only [Act.put, yq0, yq1, yq2, yq3, yq4, yq5]
    refine AnyG.take 14 (v := ?vv313) rfl (by kernel_rfl) (by kernel_rfl) (by kernel_rfl) (by kernel_rfl) (fun _ _ _ h => h) hS3 ?hy313 (by rfl) ?rest313
    case hy313 =>
     intro w0 h0
     go_simp
     try with_reducible rfl
    simp only [Act.put, yq0, yq1, yq2, yq3, yq4, yq5]
    refine AnyG.take 15 (v := ?vv314) rfl (by kernel_rfl) (by kernel_rfl) (by kernel_rfl) (by kernel_rfl) (fun _ _ _ h => h) hS3 ?hy314 (by rfl) ?rest314
    case hy314 =>
     intro w0 h0
     have c0 := h0.cell 3 rfl
     go_simp
     try with_reducible rfl
    simp only [Act.put, yq0, yq1, yq2, yq3, yq4, yq5]
    refine AnyG.take 16 (v := ?vv315) rfl (by kernel_rfl) (by kernel_rfl) (by kernel_rfl) (by kernel_rfl) (fun _ _ _ h => h) hS3 ?hy315 (by rfl) ?rest315
    case hy315 =>
     intro w0 h0
     go_simp
     try with_reducible rfl
    simp only [Act.put, yq0, yq1, yq2, yq3, yq4, yq5]
    refine AnyG.take 17 (v := ?vv316) rfl (by kernel_rfl) (by kernel_rfl) (by kernel_rfl) (by kernel_rfl) (fun _ _ _ h => h) hS3 ?hy316 (by rfl) ?rest316
    case hy316 =>
     intro w0 h0
     go_simp
     try with_reducible rfl
    simp only [Act.put, yq0, yq1, yq2, yq3, yq4, yq5]
    refine AnyG.take 18 (v := ?vv317) rfl (by kernel_rfl) (by kernel_rfl) (by kernel_rfl) (by kernel_rfl) (fun _ _ _ h => h) hS3 ?hy317 (by rfl) ?rest317
    case hy317 =>
     intro w0 h0
     go_simp
     try with_reducible rfl
    simp only [Act.put, yq0, yq1, yq2, yq3, yq4, yq5]
    refine AnyG.take 19 (v := ?vv318) rfl (by kernel_rfl) (by kernel_rfl) (by kernel_rfl) (by kernel_rfl) (fun _ _ _ h => h) hS3 ?hy318 (by rfl) ?rest318
    case hy318 =>
     intro w0 h0
     have c0 := h0.cell 1 rfl
     go_simp
     try with_reducible rfl
    simp only [Act.put, yq0, yq1, yq2, yq3, yq4, yq5]
    refine AnyG.take 20 (v := ?vv319) rfl (by kernel_rfl) (by kernel_rfl) (by kernel_rfl) (by kernel_rfl) (fun _ _ _ h => h) hS3 ?hy319 (by rfl) ?rest319
    case hy319 =>
     intro w0 h0
     go_simp
     try with_reducible rfl
    simp only [Act.put, yq0, yq1, yq2, yq3, yq4, yq5]
    refine AnyG.take 21 (v := ?vv320) rfl (by kernel_rfl) (by kernel_rfl) (by kernel_rfl) (by kernel_rfl) (fun _ _ _ h => h) hS3 ?hy320 (by rfl) ?rest320
    case hy320 =>
     intro w0 h0
     go_simp
     try with_reducible rfl
    simp only [Act.put, yq0, yq1, yq2, yq3, yq4, yq5]
    refine AnyG.take 22 (v := ?vv321) rfl (by kernel_rfl) (by kernel_rfl) (by kernel_rfl) (by kernel_rfl) (fun _ _ _ h => h) hS3 ?hy321 (by rfl) ?rest321
    case hy321 =>
     intro w0 h0
     go_simp
     try with_reducible rfl
    simp only [Act.put, yq0, yq1, yq2, yq3, yq4, yq5]
    refine AnyG.done (by kernel_rfl) ?_ _
    clear hS2 hS hb hb3 bV bw2 C1 C3 hS3
    go_wp2
    go_ret
    exact ⟨rfl, bw3⟩
  ·have h1' : ((su.length : Int) != (M : Int)) = true := by simp; omega
   have R : Hid (pchk (m : Int) xs su sb = false) := pchk_bad2 m xs su sb (by rw [← hM.out]; exact h1)
   rw [R.out]
   clear h1 h
   go_enter Tryz.func58, Tryz.ntmps58
   go_wp2
   rw [← hW]
   clear hW
   refine region_g [] (fun w' => Cel w' w.heap.size [.int .i64 (m : Int), .slice ao xs.length cap, .slice so su.length sc, .slice tO sb.length tc] 29) (by kernel_rfl) ?_
   have hS : Cel W.drew w.heap.size [.int .i64 (m : Int), .slice ao xs.length cap, .slice so su.length sc, .slice tO sb.length tc] 29 := B1
   have bV : Below w.heap.size w W.drew := bW.drew
   generalize W.drew = V at *
   clear B1 bW
   refine AnyG.take 0 (v := ?vv401) rfl (by kernel_rfl) (by kernel_rfl) (by kernel_rfl) (by kernel_rfl) (fun _ _ _ h => h) hS ?hy401 (by rfl) ?rest401
   case hy401 =>
    intro w0 h0
    go_simp
    try with_reducible rfl
   simp only [Act.put, yq0, yq1, yq2, yq3, yq4, yq5]
   refine AnyG.take 1 (v := ?vv402) rfl (by kernel_rfl) (by kernel_rfl) (by kernel_rfl) (by kernel_rfl) (fun _ _ _ h => h) hS ?hy402 (by rfl) ?rest402
   case hy402 =>
    intro w0 h0
    have c0 := h0.cell 0 rfl
    have c1 := h0.cell 1 rfl
    go_simp
    try with_reducible rfl
   simp only [Act.put, yq0, yq1, yq2, yq3, yq4, yq5]
   refine AnyG.one 2 (by kernel_rfl) rfl ?_
   intro K hK
   go_simp
   refine (C1.out _ bV).mono ?_
   rintro e w2 ⟨rfl, hb⟩
   have hS2 := hS.kept hb
   have bw2 := bV.trans (hb.mono bV.size)
   refine hK.out _ _ (fun _ => hS2) ?_
   clear hK K
   try simp only [Act.put, yq0, yq1, yq2, yq3, yq4, yq5]
   refine AnyG.take 3 (v := ?vv403) rfl (by kernel_rfl) (by kernel_rfl) (by kernel_rfl) (by kernel_rfl) (fun _ _ _ h => h) hS2 ?hy403 (by rfl) ?rest403
   case hy403 =>
    intro w0 h0
    go_simp
    try with_reducible rfl
   simp only [Act.put, yq0, yq1, yq2, yq3, yq4, yq5]
   refine AnyG.take 4 (v := ?vv404) rfl (by kernel_rfl) (by kernel_rfl) (by kernel_rfl) (by kernel_rfl) (fun _ _ _ h => h) hS2 ?hy404 (by rfl) ?rest404
   case hy404 =>
    intro w0 h0
    go_simp
    try with_reducible rfl
   simp only [Act.put, yq0, yq1, yq2, yq3, yq4, yq5]
   refine AnyG.take 5 (v := ?vv405) rfl (by kernel_rfl) (by kernel_rfl) (by kernel_rfl) (by kernel_rfl) (fun _ _ _ h => h) hS2 ?hy405 (by rfl) ?rest405
   case hy405 =>
    intro w0 h0
    go_simp
    try with_reducible rfl
   simp only [Act.put, yq0, yq1, yq2, yq3, yq4, yq5]
   refine AnyG.take 6 (v := ?vv406) rfl (by kernel_rfl) (by kernel_rfl) (by kernel_rfl) (by kernel_rfl) (fun _ _ _ h => h) hS2 ?hy406 (by rfl) ?rest406
   case hy406 =>
    intro w0 h0
    have c0 := h0.cell 2 rfl
    go_simp
    try with_reducible rfl
   simp only [Act.put, yq0, yq1, yq2, yq3, yq4, yq5]
   refine AnyG.take 7 (v := ?vv407) rfl (by kernel_rfl) (by kernel_rfl) (by kernel_rfl) (by kernel_rfl) (fun _ _ _ h => h) hS2 ?hy407 (by rfl) ?rest407
   case hy407 =>
    intro w0 h0
    go_simp
    try with_reducible rfl
   simp only [Act.put, yq0, yq1, yq2, yq3, yq4, yq5]
   refine AnyG.take 8 (v := ?vv408) rfl (by kernel_rfl) (by kernel_rfl) (by kernel_rfl) (by kernel_rfl) (fun _ _ _ h => h) hS2 ?hy408 (by rfl) ?rest408
   case hy408 =>
    intro w0 h0
    go_simp
    try with_reducible rfl
   simp only [Act.put, yq0, yq1, yq2, yq3, yq4, yq5]
   refine AnyG.take 9 (v := ?vv409) rfl (by kernel_rfl) (by kernel_rfl) (by kernel_rfl) (by kernel_rfl) (fun _ _ _ h => h) hS2 ?hy409 (by rfl) ?rest409
   case hy409 =>
    intro w0 h0
    have c0 := h0.cell 0 rfl
    have c1 := h0.cell 1 rfl
    go_simp
    try with_reducible rfl
   simp only [Act.put, yq0, yq1, yq2, yq3, yq4, yq5]
   refine AnyG.one 10 (by kernel_rfl) rfl ?_
   intro K hK
   go_simp
   refine (C3.out _).mono ?_
   rintro e w3 ⟨rfl, hb3⟩
   have hS3 := hS2.kept hb3
   have bw3 := bw2.trans (hb3.mono bw2.size)
   refine hK.out _ _ (fun _ => hS3) ?_
   clear hK K
   try simp only [Act.put, yq0, yq1, yq2, yq3, yq4, yq5]
   refine AnyG.take 11 (v := ?vv410) rfl (by kernel_rfl) (by kernel_rfl) (by kernel_rfl) (by kernel_rfl) (fun _ _ _ h => h) hS3 ?hy410 (by rfl) ?rest410
   case hy410 =>
    intro w0 h0
    go_simp
    try with_reducible rfl
   simp only [Act.put, yq0, yq1, yq2, yq3, yq4, yq5]
   refine AnyG.take 12 (v := ?vv411) rfl (by kernel_rfl) (by kernel_rfl) (by kernel_rfl) (by kernel_rfl) (fun _ _ _ h => h) hS3 ?hy411 (by rfl) ?rest411
   case hy411 =>
    intro w0 h0
    go_simp
    try with_reducible rfl
   simp only [Act.put, yq0, yq1, yq2, yq3, yq4, yq5]
   refine AnyG.take 13 (v := ?vv412) rfl (by kernel_rfl) (by kernel_rfl) (by kernel_rfl) (by kernel_rfl) (fun _ _ _ h => h) hS3 ?hy412 (by rfl) ?rest412
   case hy412 =>
    intro w0 h0
    go_simp
    try with_reducible rfl
   simp only [Act.put, yq0, yq1, yq2, yq3, yq4, yq5]
   refine AnyG.skip 14 rfl (by kernel_rfl) (by kernel_rfl) (by kernel_rfl) (by kernel_rfl) (fun _ _ _ h => h) hS3 (by rfl) ?_
   simp only [Act.put, yq0, yq1, yq2, yq3, yq4, yq5]
   refine AnyG.skip 15 rfl (by kernel_rfl) (by kernel_rfl) (by kernel_rfl) (by kernel_rfl) (fun _ _ _ h => h) hS3 (by rfl) ?_
   simp only [Act.put, yq0, yq1, yq2, yq3, yq4, yq5]
   refine AnyG.skip 16 rfl (by kernel_rfl) (by kernel_rfl) (by kernel_rfl) (by kernel_rfl) (fun _ _ _ h => h) hS3 (by rfl) ?_
   simp only [Act.put, yq0, yq1, yq2, yq3, yq4, yq5]
   refine AnyG.skip 17 rfl (by kernel_rfl) (by kernel_rfl) (by kernel_rfl) (by kernel_rfl) (fun _ _ _ h => h) hS3 (by rfl) ?_
   simp only [Act.put, yq0, yq1, yq2, yq3, yq4, yq5]
   refine AnyG.skip 18 rfl (by kernel_rfl) (by kernel_rfl) (by kernel_rfl) (by kernel_rfl) (fun _ _ _ h => h) hS3 (by rfl) ?_
   simp only [Act.put, yq0, yq1, yq2, yq3, yq4, yq5]
   refine AnyG.skip 19 rfl (by kernel_rfl) (by kernel_rfl) (by kernel_rfl) (by kernel_rfl) (fun _ _ _ h => h) hS3 (by rfl) ?_
   simp only [Act.put, yq0, yq1, yq2, yq3, yq4, yq5]
   refine AnyG.skip 20 rfl (by kernel_rfl) (by kernel_rfl) (by kernel_rfl) (by kernel_rfl) (fun _ _ _ h => h) hS3 (by rfl) ?_
   simp only [Act.put, yq0, yq1, yq2, yq3, yq4, yq5]
   refine AnyG.skip 21 rfl (by kernel_rfl) (by kernel_rfl) (by kernel_rfl) (by kernel_rfl) (fun _ _ _ h => h) hS3 (by rfl) ?_
   simp only [Act.put, yq0, yq1, yq2, yq3, yq4, yq5]
   refine AnyG.take 22 (v := ?vv413) rfl (by kernel_rfl) (by kernel_rfl) (by kernel_rfl) (by kernel_rfl) (fun _ _ _ h => h) hS3 ?hy413 (by rfl) ?rest413
   case hy413 =>
    intro w0 h0
    go_simp
    try with_reducible rfl
   simp only [Act.put, yq0, yq1, yq2, yq3, yq4, yq5]
   refine AnyG.done (by kernel_rfl) ?_ _
   clear hS2 hS hb hb3 bV bw2 C1 C3 hS3
   go_wp2
   go_ret
   exact ⟨rfl, bw3⟩
end Go.Proofs.YtpeecabfcgijhaaGreatDoor
