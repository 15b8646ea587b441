/-
  The contract of the landed rowsBits; rows of a text. The contracts of the landed blocksBits and shapeBits.
-/
import Derived.Test.YtcaalcjcpddhaaaGreatS21
set_option linter.unusedVariables false
set_option linter.unusedSimpArgs false
set_option maxRecDepth 100000
namespace Go.Proofs.YtcaalcjcpddhaaaGreat.Zz
open Go.RowKit Num Hp
namespace Pn
def RWs (w : World) (ao : Option Addr) (m : Nat) (N O : Nat → Nat) : Prop := 0 < m → ∃ g, ao = some ⟨g, 0, none⟩ ∧ g < w.heap.size ∧ ∀ i, i < m → w.cell? ⟨g, i * 2, none⟩ = some (.int .i64 (N i : Nat)) ∧ w.cell? ⟨g, i * 2 + 1, none⟩ = some (.int .i64 (O i : Nat))
theorem RWs.keep {w w' : World} {ao : Option Addr} {m : Nat} {N O : Nat → Nat} (h : RWs w ao m N O) (hb : Below w.heap.size w w') : RWs w' ao m N O := fun h0 => by
 obtain ⟨g, e, hg, hc⟩ := h h0
 exact ⟨g, e, Nat.lt_of_lt_of_le hg hb.size, fun i hi => ⟨(hb.cell (p := ⟨g, i * 2, none⟩) hg).trans (hc i hi).1, (hb.cell (p := ⟨g, i * 2 + 1, none⟩) hg).trans (hc i hi).2⟩⟩
theorem TX.lv {w : World} {l : List Int} {gl : Nat} {an : Option Addr} {mn cn : Nat} (h : TX w l gl an mn cn) : RWs w (some ⟨gl, 0, none⟩) 8 (fun _ => Hv.tot (cntOf l) 256) (fun i => os (cntOf l) i 256) := fun _ =>
 ⟨gl, rfl, h.1.lt, fun i hi => ⟨h.1.cell (i * 2) (by unfold lvC; rw [bl2_fst _ _ _ _ hi, if_neg (Nat.not_lt_zero _)]), h.1.cell (i * 2 + 1) (by unfold lvC; rw [bl2_snd _ _ _ _ hi, if_neg (Nat.not_lt_zero _)])⟩⟩
theorem TX.nd {w : World} {l : List Int} {gl : Nat} {an : Option Addr} {mn cn : Nat} (h : TX w l gl an mn cn) (hT : okT l = true) : mn ≤ 10240 ∧ ∃ N O, RWs w an mn N O ∧ (∀ i, i < mn → N i ≤ 8192 ∧ O i ≤ N i) ∧ ∀ r, Hv.tot (fun i => row r (N i) (O i)) mn = nds (hlen (cntOf l) 256) (cod (hlen (cntOf l) 256)) (cntOf l) r 40 := by
 obtain ⟨hw, ht⟩ := okT_parts hT
 have hLok := lok_hlen l (win_more hw)
 have hlv := lok_v (lok_lst hLok)
 rw [cnt_lst hLok.out] at hlv
 obtain ⟨_, B, ns, N, O, e, h2, h3⟩ := h
 subst e
 refine ⟨?_, N, O, fun h0 => ?_, fun i hi => h3.bd ht (Nat.le_refl _) (fun _ => rfl) hi, fun r => h3.sum hlv.2 hlv.1 r⟩
 ·have sub : ∀ p ∈ ns, p ∈ Sh.nds (hlen (cntOf l) 256) (cod (hlen (cntOf l) 256)) := fun p hp => by
   obtain ⟨L, x⟩ := p
   refine (Sh.mem_nds _ _ L x hlv.2).2 ?_
   rcases (h3.mem L x).1 hp with ⟨c, c1, c2, c3⟩ | ⟨c1, _⟩
   ·exact ⟨by have := hlv.1 c; omega, (Sh.isN_iff _ _ L x).2 ⟨c, c1, c2, c3⟩⟩
   ·omega
  have h9 := few h3.nd sub
  have e2 : ∀ q, ((List.range q).flatMap fun L => (Sh.lvF (hlen (cntOf l) 256) (cod (hlen (cntOf l) 256)) L 0).map fun x => (L, x)).length ≤ q * 256 := fun q => by
   induction q with
   | zero => exact Nat.zero_le _
   | succ q ih =>
    rw [List.range_succ, List.flatMap_append, List.length_append]
    have := lvF_len (v := hlen (cntOf l) 256) (k := cod (hlen (cntOf l) 256)) q 0
    simp only [List.flatMap_cons, List.flatMap_nil, List.append_nil, List.length_map]
    omega
  exact Nat.le_trans h9 (e2 40)
 ·rcases h2.2 with ⟨_, h⟩ | ⟨g, cap, cur, h, _⟩
  ·omega
  ·rw [h] at h2
   have hc := Ag.owns_cells h2
   cases h
   exact ⟨g, rfl, hc.1, fun i hi => ⟨hc.2 (i * 2) _ (bl2_fst _ _ _ _ hi), hc.2 (i * 2 + 1) _ (bl2_snd _ _ _ _ hi)⟩⟩
end Pn
set_option maxHeartbeats 4000000 in
theorem prows_c (k : Int) (ao : Option Addr) (m cap : Nat) (N O : Nat → Nat) (w : World) (hx : Pn.RWs w ao m N O) (hm : m ≤ 10240) (hb : ∀ i, i < m → N i ≤ 8192 ∧ O i ≤ N i) :
  Calls Tryz.prog 84 #[.int .i64 k, .slice ao m cap] w fun e w' => e = .returned (.int .i64 (Hv.tot (fun i => Pn.row k (N i) (O i)) m : Nat)) ∧ Below w.heap.size w w' := by
 have HX := hide hx
 have HBD := hide hb
 clear hx hb
 go_enter Tryz.func84, Tryz.ntmps84
 go_wp2
 go_loopw [5, 10] (fun vs vi wr => ∃ q s : Nat, q ≤ m ∧ s ≤ q * 700000 ∧ vi = .int .i64 (q : Nat) ∧ vs = .int .i64 (s : Nat) ∧ Hid (s = Hv.tot (fun i => Pn.row k (N i) (O i)) q) ∧ Hid (Below w.heap.size w wr)) (fun _ vi _ => m - (intOf vi).toNat)
 case atStart => exact ⟨0, 0, Nat.zero_le _, Nat.zero_le _, rfl, rfl, rfl, Below.refl _ _⟩
 case round =>
  obtain ⟨q, s, hq, hs, rfl, rfl, HS, HB⟩ := hrel
  by_cases hlt : q < m
  ·have hltz : (q : Int) < (m : Int) := by omega
   obtain ⟨g, rfl, hg, hc⟩ := HX.out (by omega)
   have c0 := (HB.out.cell (p := ⟨g, q * 2, none⟩) hg).trans (hc q hlt).1
   have c1 := (HB.out.cell (p := ⟨g, q * 2 + 1, none⟩) hg).trans (hc q hlt).2
   obtain ⟨b1, b2⟩ := HBD.out q hlt
   have RC := hide fun w0 => prow0_c k (N q : Nat) (O q : Nat) w0
   rw [rowI_in (by omega) b2] at RC
   have hr := Pn.row_le k (n := N q) (m := O q) (by omega) b2
   have HS1 : Hid (s + Pn.row k (N q) (O q) = Hv.tot (fun i => Pn.row k (N i) (O i)) (q + 1)) := by show _ = _; rw [Hv.tot, HS.out]
   have HBA : Hid (Below w.heap.size w (wr.alloc (.cells #[.int .i64 (N q : Int), .int .i64 (O q : Int)] 139))) := HB.out.trans ((below_alloc wr _).mono HB.out.size)
   have s1 : s + Pn.row k (N q) (O q) ≤ (q + 1) * 700000 := by rw [Nat.succ_mul]; omega
   generalize Pn.row k (N q) (O q) = y at *
   generalize N q = n1 at *
   generalize O q = o1 at *
   clear hc HS HB
   go_wp2_with fail
   refine (RC.out _).mono ?_
   rintro e w1 ⟨rfl, h1⟩
   subst h1
   go_wp2
   exact ⟨⟨q + 1, s + y, by omega, s1, by go_num, by go_num, HS1, HBA⟩, by simp only [intOf]; omega⟩
  ·obtain rfl : q = m := by omega
   go_wp2
   go_ret
   rw [← HS.out]
   exact ⟨rfl, HB.out⟩
end Go.Proofs.YtcaalcjcpddhaaaGreat.Zz
namespace Go.Proofs.YtcaalcjcpddhaaaGreat.Zz
open Go.RowKit Num Hp
namespace Pn
theorem up_parts (n z : Nat) (hz : 0 < z) : up n z = n / z + (if n % z = 0 then 0 else 1) := by
 unfold up
 have h := Nat.div_add_mod n z
 have hlt := Nat.mod_lt n hz
 generalize n / z = q at *
 generalize n % z = r at *
 subst h
 split
 ·rename_i h
  subst h
  rw [Nat.add_zero, Nat.add_zero, show z * q + z - 1 = (z - 1) + z * q by omega, Nat.add_mul_div_left _ _ hz, Nat.div_eq_of_lt (by omega), Nat.zero_add]
 ·rw [show z * q + r + z - 1 = (r - 1) + z * (q + 1) by rw [Nat.mul_succ]; omega, Nat.add_mul_div_left _ _ hz, Nat.div_eq_of_lt (by omega), Nat.zero_add]
end Pn
set_option maxHeartbeats 4000000 in
theorem pblocks_c (i k m : Int) (G n gl : Nat) (an : Option Addr) (mn cn D : Nat) (w : World) (g1 : 4 ≤ G) (g2 : G ≤ 12) (hn : n ≤ 8192) :
  Calls Tryz.prog 85 #[.agg #[.int .i64 (n : Nat), .slice (some ⟨gl, 0, none⟩) 8 8, .slice an mn cn, .int .i64 (D : Nat)], .agg #[.int .i64 4, .int .i64 i, .int .i64 (G : Nat), .int .i64 k, .int .i64 m]] w fun e w' => e = .returned (.int .i64 (Pn.bst i k (2 ^ G) n : Nat)) ∧ Below w.heap.size w w' := by
 obtain ⟨W, hW⟩ : ∃ W, W = (w.alloc (.cells #[.int .i64 (n : Nat), .slice (some ⟨gl, 0, none⟩) 8 8, .slice an mn cn, .int .i64 (D : Nat)] 66)).alloc (.cells #[.int .i64 4, .int .i64 i, .int .i64 (G : Nat), .int .i64 k, .int .i64 m] 44) := ⟨_, rfl⟩
 have A1 := hide (show Cel W w.heap.size [.int .i64 (n : Nat), .slice (some ⟨gl, 0, none⟩) 8 8, .slice an mn cn, .int .i64 (D : Nat)] 66 by rw [hW]; exact (Cel.new w _ _).alloc _)
 have A2 := hide (show Cel W (w.heap.size + 1) [.int .i64 4, .int .i64 i, .int .i64 (G : Nat), .int .i64 k, .int .i64 m] 44 by rw [hW]; exact Cel.new2 w _ _ _)
 have HbW := hide (show Below w.heap.size w W by rw [hW]; exact (below_alloc w _).alloc (by simp) _)
 have a0 := A1.out.cell 0 rfl
 have a2 := A2.out.cell 2 rfl
 obtain ⟨z, hz⟩ : ∃ z : Nat, Hid (z = 2 ^ G) := ⟨_, rfl⟩
 have z1 : 16 ≤ z := by rw [hz.out]; exact Nat.le_trans (by decide) (Nat.pow_le_pow_right (by decide) g1 : 2 ^ 4 ≤ 2 ^ G)
 have z2 : z ≤ 4096 := by rw [hz.out]; exact Nat.le_trans (Nat.pow_le_pow_right (by decide) g2 : 2 ^ G ≤ 2 ^ 12) (by decide)
 have ez : (2 : Int) ^ G = (z : Int) := by rw [hz.out, Int.natCast_pow]; rfl
 rw [← hz.out]
 obtain ⟨f, hf⟩ : ∃ f, Hid (f = n / z) := ⟨_, rfl⟩
 obtain ⟨e, he⟩ : ∃ e, Hid (e = n % z) := ⟨_, rfl⟩
 have en : Hid ((n : Int) / (z : Int) = (f : Int)) := by show _ = _; rw [hf.out]; rfl
 have ef := hide (wq n z f hf.out (by rw [hf.out]; have := Nat.div_le_self n z; omega))
 have ee : (n : Int) % (z : Int) = (e : Int) := by rw [he.out]; rfl
 have hfn : f ≤ n := by rw [hf.out]; exact Nat.div_le_self _ _
 have hez : e < z := by rw [he.out]; exact Nat.mod_lt _ (by omega)
 have ezz : Hid (((z : Int) == 0) = false) := by show _ = _; simp; omega
 have ezz2 := ezz.out
 have K1 := hide fun w0 => pblock_c 4 i (G : Int) k m z (by omega) w0
 have K2 := hide fun w0 => pblock_c 4 i (G : Int) k m e (by omega) w0
 have b1 := Pn.blk_le i k (s := z) (by omega)
 have b2 := Pn.blk_le i k (s := e) (by omega)
 have HE : Hid (Pn.bst i k z n = f * (4096 + Pn.blk i k z) + (if e = 0 then 0 else 4096 + Pn.blk i k e)) := by
  show _ = _
  unfold Pn.bst
  rw [Pn.up_parts n z (by omega), ← hf.out, ← he.out, Nat.mul_add, Nat.mul_add]
  split
  ·omega
  ·omega
 obtain ⟨y1, hy1⟩ : ∃ y, Hid (y = 4096 + Pn.blk i k z) := ⟨_, rfl⟩
 obtain ⟨y2, hy2⟩ : ∃ y, Hid (y = 4096 + Pn.blk i k e) := ⟨_, rfl⟩
 rw [← hy1.out] at K1 HE
 rw [← hy2.out] at K2 HE
 have l1 : y1 ≤ 200004096 := by rw [hy1.out]; omega
 have l2 : y2 ≤ 200004096 := by rw [hy2.out]; omega
 have hp := Nat.mul_le_mul hfn l1
 obtain ⟨p, hp1⟩ : ∃ p, Hid (p = f * y1) := ⟨_, rfl⟩
 have ep : Hid ((f : Int) * (y1 : Int) = (p : Int)) := by show _ = _; rw [hp1.out, Int.natCast_mul]
 have lp : p ≤ 1638433554432 := by rw [hp1.out]; omega
 rw [← hp1.out] at HE
 clear hf he hy1 hy2 hp hp1 b1 b2 hz
 go_enter Tryz.func85, Tryz.ntmps85
 go_wp2_with fail
 rw [← hW]
 clear hW
 go_wp2
 refine region_g [] (fun w' => Cel w' w.heap.size [.int .i64 (n : Nat), .slice (some ⟨gl, 0, none⟩) 8 8, .slice an mn cn, .int .i64 (D : Nat)] 66 ∧ Cel w' (w.heap.size + 1) [.int .i64 4, .int .i64 i, .int .i64 (G : Nat), .int .i64 k, .int .i64 m] 44 ∧ Below w.heap.size w w') (by kernel_rfl) ?_
 have hS : (fun w' => Cel w' w.heap.size [.int .i64 (n : Nat), .slice (some ⟨gl, 0, none⟩) 8 8, .slice an mn cn, .int .i64 (D : Nat)] 66 ∧ Cel w' (w.heap.size + 1) [.int .i64 4, .int .i64 i, .int .i64 (G : Nat), .int .i64 k, .int .i64 m] 44 ∧ Below w.heap.size w w') W.drew := ⟨A1.out.drew, A2.out.drew, HbW.out.drew⟩
 clear A1 A2 HbW a0 a2
 generalize W.drew = V at *
 refine AnyG.take 0 (v := ?vv1) rfl (by kernel_rfl) (by kernel_rfl) (by kernel_rfl) (by kernel_rfl) (fun _ _ _ h => h) hS ?hy1 (by rfl) ?rest1
 case hy1 =>
  intro w0 h0
  go_simp
  try with_reducible rfl
 simp only [Act.put, yq0, yq1, yq2, yq3, yq4, yq5]
 refine AnyG.take 1 (v := ?vv2) rfl (by kernel_rfl) (by kernel_rfl) (by kernel_rfl) (by kernel_rfl) (fun _ _ _ h => h) hS ?hy2 (by rfl) ?rest2
 case hy2 =>
  intro w0 h0
  have d0 := h0.1.cell 0 rfl
  go_simp
  try with_reducible rfl
 simp only [Act.put, yq0, yq1, yq2, yq3, yq4, yq5]
 refine AnyG.take 2 (v := ?vv3) rfl (by kernel_rfl) (by kernel_rfl) (by kernel_rfl) (by kernel_rfl) (fun _ _ _ h => h) hS ?hy3 (by rfl) ?rest3
 case hy3 =>
  intro w0 h0
  go_simp
  try with_reducible rfl
 simp only [Act.put, yq0, yq1, yq2, yq3, yq4, yq5]
 refine AnyG.take 3 (v := .int .i64 (f : Int)) rfl (by kernel_rfl) (by kernel_rfl) (by kernel_rfl) (by kernel_rfl) (fun _ _ _ h => h) hS ?hy4 (by rfl) ?rest4
 case hy4 =>
  intro w0 h0
  have wr : IntKind.i64.wrap ((n : Int) / (z : Int)) = (f : Int) := by rw [en.out, IntKind.wrap_i64]; omega
  have z0 : ¬ z = 0 := by omega
  go_simp
  try with_reducible rfl
  try (rw [IntKind.wrap_i64]; omega)
 simp only [Act.put, yq0, yq1, yq2, yq3, yq4, yq5]
 refine AnyG.take 4 (v := ?vv5) rfl (by kernel_rfl) (by kernel_rfl) (by kernel_rfl) (by kernel_rfl) (fun _ _ _ h => h) hS ?hy5 (by rfl) ?rest5
 case hy5 =>
  intro w0 h0
  have e0 := h0.2.1.cell 0 rfl
  have e1 := h0.2.1.cell 1 rfl
  have e2 := h0.2.1.cell 2 rfl
  have e3 := h0.2.1.cell 3 rfl
  have e4 := h0.2.1.cell 4 rfl
  go_simp
  try with_reducible rfl
 simp only [Act.put, yq0, yq1, yq2, yq3, yq4, yq5]
 refine AnyG.take 5 (v := ?vv6) rfl (by kernel_rfl) (by kernel_rfl) (by kernel_rfl) (by kernel_rfl) (fun _ _ _ h => h) hS ?hy6 (by rfl) ?rest6
 case hy6 =>
  intro w0 h0
  go_simp
  try with_reducible rfl
 simp only [Act.put, yq0, yq1, yq2, yq3, yq4, yq5]
 refine AnyG.one 6 (by kernel_rfl) rfl ?_
 intro K hK
 go_simp
 refine (K1.out _).mono ?_
 rintro _ v1 ⟨rfl, hb⟩
 have hS1 : (fun w' => Cel w' w.heap.size [.int .i64 (n : Nat), .slice (some ⟨gl, 0, none⟩) 8 8, .slice an mn cn, .int .i64 (D : Nat)] 66 ∧ Cel w' (w.heap.size + 1) [.int .i64 4, .int .i64 i, .int .i64 (G : Nat), .int .i64 k, .int .i64 m] 44 ∧ Below w.heap.size w w') v1 := ⟨hS.1.kept hb, hS.2.1.kept hb, hS.2.2.trans (hb.mono hS.2.2.size)⟩
 clear hb hS
 refine hK.out _ _ (fun _ => hS1) ?_
 clear hK K
 try simp only [Act.put, yq0, yq1, yq2, yq3, yq4, yq5]
 refine AnyG.take 7 (v := .int .i64 (p : Int)) rfl (by kernel_rfl) (by kernel_rfl) (by kernel_rfl) (by kernel_rfl) (fun _ _ _ h => h) hS1 ?hy7 (by rfl) ?rest7
 case hy7 =>
  intro w0 h0
  have wr : IntKind.i64.wrap ((f : Int) * (y1 : Int)) = (p : Int) := by rw [ep.out, IntKind.wrap_i64]; omega
  go_simp
  try with_reducible rfl
  try (rw [IntKind.wrap_i64]; omega)
 simp only [Act.put, yq0, yq1, yq2, yq3, yq4, yq5]
 refine AnyG.take 8 (v := ?vv8) rfl (by kernel_rfl) (by kernel_rfl) (by kernel_rfl) (by kernel_rfl) (fun _ _ _ h => h) hS1 ?hy8 (by rfl) ?rest8
 case hy8 =>
  intro w0 h0
  go_simp
  try with_reducible rfl
 simp only [Act.put, yq0, yq1, yq2, yq3, yq4, yq5]
 refine AnyG.done (by kernel_rfl) ?_ _
 have HT1 := hide hS1.1
 have HC1 := hide hS1.2.1
 have HB1 := hide hS1.2.2
 clear hS1
 have d0 := HT1.out.cell 0 rfl
 have e0 := HC1.out.cell 0 rfl
 have e1 := HC1.out.cell 1 rfl
 have e2 := HC1.out.cell 2 rfl
 have e3 := HC1.out.cell 3 rfl
 have e4 := HC1.out.cell 4 rfl
 by_cases h0 : e = 0
 ·subst h0
  rw [if_pos rfl] at HE
  have ez0 : ¬ (0 : Int) < ((0 : Nat) : Int) := by omega
  go_wp2
  go_ret
  rw [HE.out]
  exact ⟨by go_num, HB1.out⟩
 ·rw [if_neg h0] at HE
  have ez0 : (0 : Int) < (e : Int) := by omega
  go_wp2_with fail
  refine (K2.out _).mono ?_
  rintro _ v2 ⟨rfl, hb⟩
  have HB2 := hide (HB1.out.trans (hb.mono HB1.out.size))
  clear hb d0 e0 e1 e2 e3 e4
  go_wp2
  go_ret
  rw [HE.out]
  exact ⟨by go_num, HB2.out⟩
set_option maxHeartbeats 4000000 in
theorem pshapeB_c (s i g k m : Int) (hc : Pn.CfI s i g k m) (l : List Int) (hT : Pn.okT l = true) (n gl : Nat) (hn : Hid (n = Hv.tot (cntOf l) 256)) (an : Option Addr) (mn cn D : Nat) (w : World) (hx : Pn.TX w l gl an mn cn) :
  Calls Tryz.prog 57 #[.agg #[.int .i64 (n : Nat), .slice (some ⟨gl, 0, none⟩) 8 8, .slice an mn cn, .int .i64 (D : Nat)], .agg #[.int .i64 s, .int .i64 i, .int .i64 g, .int .i64 k, .int .i64 m]] w fun e w' => e = .returned (.int .i64 (Pn.txt s i g k l : Nat)) ∧ Below w.heap.size w w' := by
 obtain ⟨hw, ht⟩ := Pn.okT_parts hT
 obtain ⟨W, hW⟩ : ∃ W, W = (w.alloc (.cells #[.int .i64 (n : Nat), .slice (some ⟨gl, 0, none⟩) 8 8, .slice an mn cn, .int .i64 (D : Nat)] 66)).alloc (.cells #[.int .i64 s, .int .i64 i, .int .i64 g, .int .i64 k, .int .i64 m] 44) := ⟨_, rfl⟩
 have A1 := hide (show Cel W w.heap.size [.int .i64 (n : Nat), .slice (some ⟨gl, 0, none⟩) 8 8, .slice an mn cn, .int .i64 (D : Nat)] 66 by rw [hW]; exact (Cel.new w _ _).alloc _)
 have A2 := hide (show Cel W (w.heap.size + 1) [.int .i64 s, .int .i64 i, .int .i64 g, .int .i64 k, .int .i64 m] 44 by rw [hW]; exact Cel.new2 w _ _ _)
 have HbW := hide (show Below w.heap.size w W by rw [hW]; exact (below_alloc w _).alloc (by simp) _)
 have c0 := A2.out.cell 0 rfl
 have c3 := A2.out.cell 3 rfl
 have t0 := A1.out.cell 0 rfl
 have t1 := A1.out.cell 1 rfl
 have t2 := A1.out.cell 2 rfl
 have l1 := Pn.rws_le k (cntOf l) rfl ht 8
 have l2 := Pn.ndv_le k ht
 have R1 : Hid (∀ w0, Below w.heap.size w w0 → Calls Tryz.prog 84 #[.int .i64 k, .slice (some ⟨gl, 0, none⟩) 8 8] w0 fun e w' => e = .returned (.int .i64 (Pn.rws k (cntOf l) (Hv.tot (cntOf l) 256) 8 : Nat)) ∧ Below w0.heap.size w0 w') := fun w0 h => by
  have := prows_c k (some ⟨gl, 0, none⟩) 8 8 _ _ w0 ((hx.lv).keep h) (by omega) (fun i hi => ⟨ht, Pn.os_le _ i 256⟩)
  rw [show Hv.tot (fun i => Pn.row k (Hv.tot (cntOf l) 256) (Pn.os (cntOf l) i 256)) 8 = Pn.rws k (cntOf l) (Hv.tot (cntOf l) 256) 8 from Pn.rwu_rws k _ _] at this
  exact this
 obtain ⟨m1, N, O, n1, n2, n3⟩ := hx.nd hT
 have R2 : Hid (∀ w0, Below w.heap.size w w0 → Calls Tryz.prog 84 #[.int .i64 k, .slice an mn cn] w0 fun e w' => e = .returned (.int .i64 (Pn.nds (hlen (cntOf l) 256) (cod (hlen (cntOf l) 256)) (cntOf l) k 40 : Nat)) ∧ Below w0.heap.size w0 w') := fun w0 h => by
  have := prows_c k an mn cn N O w0 (n1.keep h) m1 n2
  rw [n3 k] at this
  exact this
 have TE : Hid (∀ n, n = Hv.tot (cntOf l) 256 → Pn.txt s i g k l = if s = 1 then Pn.rws k (cntOf l) n 8 else if s = 3 then Pn.rws k (cntOf l) n 8 + 256 else if s = 2 then 1536 + Pn.nds (hlen (cntOf l) 256) (cod (hlen (cntOf l) 256)) (cntOf l) k 40 else Pn.bst i k (2 ^ g.toNat) n) := fun n hn => by subst hn; rfl
 have HTE := hide (TE.out n hn.out)
 unfold Pn.ndv at l2
 rw [← hn.out] at R1 ht l1
 generalize Pn.rws k (cntOf l) n 8 = a1 at *
 generalize Pn.nds (hlen (cntOf l) 256) (cod (hlen (cntOf l) 256)) (cntOf l) k 40 = a2 at *
 generalize Pn.txt s i g k l = a3 at *
 clear TE hx hw n1 n2 n3 A1 A2 hT hn
 by_cases h1 : s = 1
 ·subst h1
  rw [if_pos rfl] at HTE
  clear hc
  go_enter Tryz.func57, Tryz.ntmps57
  go_wp2_with fail
  rw [← hW]
  go_wp2_with fail
  refine (R1.out _ HbW.out).mono ?_
  rintro _ v1 ⟨rfl, hb⟩
  have HB1 := hide (HbW.out.trans (hb.mono HbW.out.size))
  clear hb hW
  go_wp2
  go_ret
  rw [HTE.out]
  exact ⟨rfl, HB1.out⟩
 ·have h1z : (s == 1) = false := by simp; omega
  rw [if_neg h1] at HTE
  by_cases h3 : s = 3
  ·subst h3
   rw [if_pos rfl] at HTE
   clear hc
   go_enter Tryz.func57, Tryz.ntmps57
   go_wp2_with fail
   rw [← hW]
   go_wp2_with fail
   refine (R1.out _ HbW.out).mono ?_
   rintro _ v1 ⟨rfl, hb⟩
   have HB1 := hide (HbW.out.trans (hb.mono HbW.out.size))
   clear hb hW
   go_wp2
   go_ret
   rw [HTE.out]
   exact ⟨by go_num, HB1.out⟩
  ·have h3z : (s == 3) = false := by simp; omega
   rw [if_neg h3] at HTE
   by_cases h2 : s = 2
   ·subst h2
    rw [if_pos rfl] at HTE
    clear hc
    go_enter Tryz.func57, Tryz.ntmps57
    go_wp2_with fail
    rw [← hW]
    go_wp2_with fail
    refine (R2.out _ HbW.out).mono ?_
    rintro _ v1 ⟨rfl, hb⟩
    have HB1 := hide (HbW.out.trans (hb.mono HbW.out.size))
    clear hb hW
    go_wp2
    go_ret
    rw [HTE.out]
    exact ⟨by go_num, HB1.out⟩
   ·have h2z : (s == 2) = false := by simp; omega
    rw [if_neg h2] at HTE
    obtain ⟨hs4, i1, i3, G, rfl, g1, g2⟩ := hc.sh.resolve_left (by omega)
    subst hs4
    rw [Int.toNat_natCast] at HTE
    have e1 := HbW
    have t3 : W.cell? ⟨w.heap.size, 3, none⟩ = some (.int .i64 (D : Nat)) := by rw [hW]; exact ((Cel.new w _ _).alloc _).cell 3 rfl
    have c1 : W.cell? ⟨w.heap.size + 1, 1, none⟩ = some (.int .i64 i) := by rw [hW]; exact (Cel.new2 w _ _ _).cell 1 rfl
    have c2 : W.cell? ⟨w.heap.size + 1, 2, none⟩ = some (.int .i64 (G : Nat)) := by rw [hW]; exact (Cel.new2 w _ _ _).cell 2 rfl
    have c4 : W.cell? ⟨w.heap.size + 1, 4, none⟩ = some (.int .i64 m) := by rw [hW]; exact (Cel.new2 w _ _ _).cell 4 rfl
    have BK := hide fun w0 => pblocks_c i k m G n gl an mn cn D w0 g1 g2 ht
    generalize Pn.bst i k (2 ^ G) n = a4 at *
    clear hc e1
    go_enter Tryz.func57, Tryz.ntmps57
    go_wp2_with fail
    rw [← hW]
    go_wp2_with fail
    refine (BK.out _).mono ?_
    rintro _ v1 ⟨rfl, hb⟩
    have HB1 := hide (HbW.out.trans (hb.mono HbW.out.size))
    clear hb hW
    go_wp2
    go_ret
    rw [HTE.out]
    exact ⟨rfl, HB1.out⟩
end Go.Proofs.YtcaalcjcpddhaaaGreat.Zz
