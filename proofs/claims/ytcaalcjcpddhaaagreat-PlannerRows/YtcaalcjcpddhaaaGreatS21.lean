/-
  The contract of the program's Cost. The contract of the landed textOf. The contract of the document's Steps. The contracts of the landed upTo, worst, blockOf.
-/
import Derived.Test.YtcaalcjcpddhaaaGreatS20
import Derived.Test.YtcaalcjcpddhaaaGreatS08
set_option linter.unusedVariables false
set_option linter.unusedSimpArgs false
set_option maxRecDepth 100000
namespace Go.Proofs.YtcaalcjcpddhaaaGreat.Zz
open Go.RowKit Num Ji Hp
theorem tot_le (a b : Nat → Nat) (ha : ∀ i, a i ≤ 1048576) (hb : ∀ i, b i ≤ 40) (k : Nat) : Hv.tot (fun i => a i * b i) k ≤ k * 41943040 := by
 induction k with
 | zero => exact Nat.zero_le _
 | succ k ih =>
  rw [Nat.add_mul, Nat.one_mul]
  unfold Hv.tot
  refine Nat.add_le_add ih ?_
  exact Nat.le_trans (Nat.mul_le_mul (ha k) (hb k)) (by decide)
theorem cnt_le40 {l : List Int} (h : ∀ i, i < l.length → 0 ≤ gi l i ∧ gi l i ≤ 40) (c : Nat) : cntOf l c ≤ 40 := by
 unfold cntOf
 by_cases g : c < l.length
 ·have := h c g; omega
 ·have : gi l c = 0 := by unfold gi; rw [List.getD_eq_getElem?_getD, List.getElem?_eq_none (by omega)]; rfl
  omega
set_option maxHeartbeats 4000000 in
theorem jcost_c (ao : Option Addr) (c : List Int) (cap : Nat) (bo : Option Addr) (l : List Int) (dap : Nat) (w : World) (hx : Nd w ao c) (hy : Nd w bo l) (hc : c.length ≤ 1048576) (hl : l.length ≤ 1048576) :
  Calls Tryz.prog 50 #[.slice ao c.length cap, .slice bo l.length dap] w fun e w' => e = .returned (.int .i64 (costv c l : Nat)) ∧ Below w.heap.size w w' := by
 have C1 := hide (jwithin_c ao c cap 1048576 w hx hc)
 have C2 : Hid (∀ w0, Below w.heap.size w w0 → Calls Tryz.prog 74 #[.slice bo l.length dap, .int .i64 40] w0 fun e w' => e = .returned (.bool (win l 40)) ∧ Below w0.heap.size w0 w') := fun w0 hb => jwithin_c bo l dap 40 w0 (hy.keep hb) hl
 cases k1 : win c 1048576 with
 | false =>
  have R : Hid (costv c l = 0) := by show costv c l = 0; unfold costv; rw [k1]; rfl
  rw [k1] at C1
  clear hx hy k1
  go_enter Tryz.func50, Tryz.ntmps50
  go_wp2_with fail
  refine (C1.out).mono ?_
  rintro e w1 ⟨rfl, hb⟩
  go_wp2
  go_ret
  rw [R.out]
  exact ⟨rfl, hb⟩
 | true =>
  rw [k1] at C1
  cases k2 : win l 40 with
  | false =>
   have R : Hid (costv c l = 0) := by show costv c l = 0; unfold costv; rw [k1, k2]; rfl
   rw [k2] at C2
   clear hx hy k1 k2
   go_enter Tryz.func50, Tryz.ntmps50
   go_wp2_with fail
   refine (C1.out).mono ?_
   rintro e w1 ⟨rfl, hb⟩
   go_wp2_with fail
   refine (C2.out _ hb).mono ?_
   rintro e w2 ⟨rfl, hb2⟩
   have hb3 := hb.trans (hb2.mono hb.size)
   go_wp2
   go_ret
   rw [R.out]
   exact ⟨rfl, hb3⟩
  | true =>
   rw [k2] at C2
   obtain ⟨c256, cb⟩ := win_len k1
   obtain ⟨l256, lb⟩ := win_len k2
   obtain ⟨A, hA⟩ : ∃ A, Hid (A = cntOf c) := ⟨_, rfl⟩
   obtain ⟨B, hB⟩ : ∃ B, Hid (B = cntOf l) := ⟨_, rfl⟩
   have R : Hid (costv c l = Hv.tot (fun i => A i * B i) 256) := by show costv c l = _; unfold costv; rw [k1, k2, hA.out, hB.out]; rfl
   have TA : ∀ i, A i ≤ 1048576 := by rw [hA.out]; exact cntI_le cb
   have TB : ∀ i, B i ≤ 40 := by rw [hB.out]; exact cnt_le40 lb
   have HTT := hide (tot_le A B TA TB)
   have HTA := hide TA
   have HTB := hide TB
   obtain ⟨b, off, rfl, hbw, hcc⟩ := hx (by omega)
   obtain ⟨b2, off2, rfl, hbw2, hcc2⟩ := hy (by omega)
   have HCC : Hid (∀ i, i < 256 → w.cell? ⟨b, off + i, none⟩ = some (.int .i64 (A i : Nat))) := fun i hi => by
    have h1 := hcc i (by omega)
    have h2 := cb i (by omega)
    rw [hA.out]
    unfold cntOf
    rw [h1]
    congr 2
    omega
   have HCD : Hid (∀ i, i < 256 → w.cell? ⟨b2, off2 + i, none⟩ = some (.int .i64 (B i : Nat))) := fun i hi => by
    have h1 := hcc2 i (by omega)
    have h2 := lb i (by omega)
    rw [hB.out]
    unfold cntOf
    rw [h1]
    congr 2
    omega
   have HC256 := hide c256
   have hcl : c.length ≤ 256 := by omega
   have hll : c.length ≤ l.length := by omega
   clear hcc hcc2 cb lb TA TB k1 k2 c256 l256 hx hy
   go_enter Tryz.func50, Tryz.ntmps50
   go_wp2_with fail
   refine (C1.out).mono ?_
   rintro e w1 ⟨rfl, hb⟩
   go_wp2_with fail
   refine (C2.out _ hb).mono ?_
   rintro e w2 ⟨rfl, hb2⟩
   have HB3 := hide (hb.trans (hb2.mono hb.size))
   clear hb hb2 C1 C2
   go_wp2
   go_loopw [5, 18] (fun vs vi wr => ∃ (q s : Nat), q ≤ c.length ∧ vi = .int .i64 q ∧ vs = .int .i64 s ∧ Hid (s = Hv.tot (fun i => A i * B i) q) ∧ wr = w2) (fun _ vi _ => c.length - (intOf vi).toNat)
   case atStart => exact ⟨0, 0, Nat.zero_le _, rfl, rfl, rfl, rfl⟩
   case round =>
    obtain ⟨q, s, hq, rfl, rfl, HI, hw⟩ := hrel
    subst hw
    by_cases hlt : q < c.length
    ·have hltz : (q : Int) < (c.length : Int) := by omega
     have hlt2 : (q : Int) < (l.length : Int) := by omega
     have e1 := (HB3.out.cell (p := ⟨b, off + q, none⟩) hbw).trans (HCC.out q (by omega))
     have e2 := (HB3.out.cell (p := ⟨b2, off2 + q, none⟩) hbw2).trans (HCD.out q (by omega))
     have b1 := HTA.out q
     have b2' := HTB.out q
     have HI1 : Hid (s + A q * B q = Hv.tot (fun i => A i * B i) (q + 1)) := by show _ = Hv.tot _ q + A q * B q; rw [HI.out]
     have bs : s ≤ 10737418240 := by
      have := HTT.out q
      have h3 := HI.out
      have : q * 41943040 ≤ 256 * 41943040 := Nat.mul_le_mul_right _ (by omega)
      omega
     generalize A q = x at *
     generalize B q = y at *
     have xy : x * y ≤ 1048576 * 40 := Nat.mul_le_mul b1 b2'
     have exy : (x : Int) * (y : Int) = ((x * y : Nat) : Int) := by rw [Int.natCast_mul]
     generalize x * y = z at *
     go_wp2
     exact ⟨⟨q + 1, s + z, by omega, by go_num, by go_num, HI1, trivial⟩, by simp only [intOf]; omega⟩
    ·obtain rfl : q = c.length := by omega
     have HR : Hid (costv c l = s) := by
      have := HI.out
      rw [HC256.out] at this
      show costv c l = s
      rw [R.out, this]
     go_wp2
     go_ret
     rw [HR.out]
     exact ⟨rfl, HB3.out⟩
end Go.Proofs.YtcaalcjcpddhaaaGreat.Zz
namespace Go.Proofs.YtcaalcjcpddhaaaGreat.Zz
open Go.RowKit Num Hp
theorem owns_any {w : World} {base e size n : Nat} {v : Value} {vs : List Value} (h : w.ownsRow base e size v n vs) : ∃ a c, v = .slice a n c := by
 rcases h.2 with ⟨h, h2⟩ | ⟨g, cap, _, h, _⟩
 ·exact ⟨none, 0, by rw [h, h2]⟩
 ·exact ⟨_, cap, h⟩
theorem tot_none {f : Nat → Nat} : ∀ {q : Nat}, Hv.tot f q = 0 → ∀ i, i < q → f i = 0
 | q + 1, h, i, hi => by
  rw [Hv.tot] at h
  by_cases e : i = q
  ·subst e; omega
  ·exact tot_none (q := q) (by omega) i (by omega)
theorem tot_zero {f : Nat → Nat} : ∀ {q : Nat}, (∀ i, i < q → f i = 0) → Hv.tot f q = 0
 | 0, _ => rfl
 | q + 1, h => by rw [Hv.tot, tot_zero (q := q) fun i hi => h i (by omega), h q (by omega)]
namespace Pn
theorem cst_none {l : List Int} (h : Hv.tot (cntOf l) 256 = 0) : cst l = 0 := by
 unfold cst costv
 split
 ·exact tot_zero fun i hi => by rw [tot_none h i hi, Nat.zero_mul]
 ·rfl
def TX (w : World) (l : List Int) (gl : Nat) (an : Option Addr) (mn cn : Nat) : Prop := Cel w gl (lvC (cntOf l) 256 0) 139 ∧ ∃ B ns N O, mn = ns.length ∧ w.ownsRow B 139 2 (.slice an ns.length cn) ns.length (bl2 ns.length (fun i => .int .i64 (N i : Nat)) (fun i => .int .i64 (O i : Nat))) ∧ Met (hlen (cntOf l) 256) (cod (hlen (cntOf l) 256)) (cntOf l) 256 0 ns N O
theorem TX.keep {w w' : World} {l : List Int} {gl : Nat} {an : Option Addr} {mn cn : Nat} (h : TX w l gl an mn cn) (hb : Below w.heap.size w w') : TX w' l gl an mn cn := by
 obtain ⟨h1, B, ns, N, O, e, h2, h3⟩ := h
 exact ⟨h1.kept hb, B, ns, N, O, e, Ag.owns_keep h2 hb, h3⟩
def dpt (l : List Int) : Nat := shp 2 l (Hv.tot (cntOf l) 256)
theorem dpt_eq (l : List Int) : dpt l = max 1 (up (cst l) (max 1 (Hv.tot (cntOf l) 256))) := by
 unfold dpt shp
 rw [if_pos rfl]
 split
 ·rename_i h
  rw [h, cst_none h]
  rfl
 ·rename_i h
  rw [show max 1 (Hv.tot (cntOf l) 256) = Hv.tot (cntOf l) 256 by omega]
end Pn
set_option maxHeartbeats 2000000 in
theorem ptext_bad (ao : Option Addr) (l : List Int) (cap : Nat) (w : World) (hx : Nd w ao l) (hl : l.length ≤ 1048576) (hT : Pn.okT l = false) :
  Calls Tryz.prog 23 #[.slice ao l.length cap] w fun e w' => e = .returned (.tuple #[.agg #[.int .i64 0, .slice none 0 0, .slice none 0 0, .int .i64 0], .bool false]) ∧ Below w.heap.size w w' := by
 obtain ⟨W, hW⟩ : ∃ W, W = w.alloc (.cells #[.int .i64 0, .slice none 0 0, .slice none 0 0, .int .i64 0] 66) := ⟨_, rfl⟩
 have HbW := hide (show Below w.heap.size w W by rw [hW]; exact below_alloc w _)
 have R := (show Cel W w.heap.size [.int .i64 0, .slice none 0 0, .slice none 0 0, .int .i64 0] 66 by rw [hW]; exact Cel.new w _ _)
 have HRC := hide R
 have A0 : Hid (∀ w0, Below w.heap.size w w0 → Calls Tryz.prog 47 #[.slice ao l.length cap] w0 fun e w' => e = .returned (.tuple #[.int .i64 (Pn.sumN l : Nat), .bool false]) ∧ w' = w0) := fun w0 h => by
  have := psum_c ao l cap w0 (hx.keep h) hl
  rw [hT] at this
  exact this
 generalize Pn.sumN l = sn at *
 clear hx hl hT R
 go_enter Tryz.func23, Tryz.ntmps23
 go_wp2_with fail
 rw [← hW]
 refine (A0.out _ HbW.out).mono ?_
 rintro e w1 ⟨rfl, rfl⟩
 clear hW
 go_wp2_with (refine store_cel w.heap.size [.int .i64 0, .slice none 0 0, .slice none 0 0, .int .i64 0] [.int .i64 0, .slice none 0 0, .slice none 0 0, .int .i64 0] (by rfl) rfl HRC.out rfl (by kernel_rfl) (by simp [Value.oneCell']) ?_)
 intro w8 hc8 ho8
 have HB := hide (HbW.out.trans (ho8.below (Nat.le_refl _)))
 have x0 := hc8.cell 0 rfl
 have x1 := hc8.cell 1 rfl
 have x2 := hc8.cell 2 rfl
 have x3 := hc8.cell 3 rfl
 clear hc8 ho8 HbW HRC
 go_wp2
 refine bodyPost_ret (v := .tuple #[.agg #[.int .i64 0, .slice none 0 0, .slice none 0 0, .int .i64 0], .bool false]) (by simp [results, Tryz.results23, go_sem, x0, x1, x2, x3]) rfl ?_
 exact ⟨rfl, HB.out⟩
set_option maxHeartbeats 4000000 in
theorem ptext_c (ao : Option Addr) (l : List Int) (cap : Nat) (w : World) (hx : Nd w ao l) (hl : l.length ≤ 1048576) (hT : Pn.okT l = true) :
  Calls Tryz.prog 23 #[.slice ao l.length cap] w fun e w' => ∃ gl an mn cn, e = .returned (.tuple #[.agg #[.int .i64 (Hv.tot (cntOf l) 256 : Nat), .slice (some ⟨gl, 0, none⟩) 8 8, .slice an mn cn, .int .i64 (Pn.dpt l : Nat)], .bool true]) ∧ Pn.TX w' l gl an mn cn ∧ Below w.heap.size w w' := by
 obtain ⟨hw, ht⟩ := Pn.okT_parts hT
 obtain ⟨h256, hbd⟩ := win_len hw
 have hLok := lok_hlen l (win_more hw)
 have hlv := lok_v (lok_lst hLok)
 rw [cnt_lst hLok.out] at hlv
 obtain ⟨W, hW⟩ : ∃ W, W = w.alloc (.cells #[.int .i64 0, .slice none 0 0, .slice none 0 0, .int .i64 0] 66) := ⟨_, rfl⟩
 have HbW := hide (show Below w.heap.size w W by rw [hW]; exact below_alloc w _)
 have HRC := hide (show Cel W w.heap.size [.int .i64 0, .slice none 0 0, .slice none 0 0, .int .i64 0] 66 by rw [hW]; exact Cel.new w _ _)
 have A0 : Hid (∀ w0, Below w.heap.size w w0 → Calls Tryz.prog 47 #[.slice ao l.length cap] w0 fun e w' => e = .returned (.tuple #[.int .i64 (Hv.tot (cntOf l) 256 : Nat), .bool true]) ∧ w' = w0) := fun w0 h => by
  have := psum_c ao l cap w0 (hx.keep h) hl
  unfold Pn.sumN at this
  rw [hT, if_pos rfl] at this
  exact this
 have A1 : Hid (∀ w0, Below w.heap.size w w0 → Calls Tryz.prog 48 #[.slice ao l.length cap] w0 fun e w' => LO w0 (hls l) e w') := fun w0 h => jlen_c ao l cap w0 (hx.keep h) hl (win_more hw)
 unfold LO at A1
 have A2 : Hid (∀ g w0, Cel w0 g (ivh (hls l)) 3 → Calls Tryz.prog 49 #[.slice (some ⟨g, 0, none⟩) 256 256] w0 fun e w' => CO w0 (hlen (cntOf l) 256) e w') := fun g w0 h => by
  have := jcodes_c (some ⟨g, 0, none⟩) (lst (hlen (cntOf l) 256)) 256 w0 (nd_hls h) (by rw [length_lst]; omega) (lok_lst hLok)
  rw [length_lst, cnt_lst hLok.out] at this
  exact this
 unfold CO at A2
 have A3 : Hid (∀ g w0, Cel w0 g (ivh (hls l)) 3 → Below w.heap.size w w0 → Calls Tryz.prog 50 #[.slice ao l.length cap, .slice (some ⟨g, 0, none⟩) 256 256] w0 fun e w' => e = .returned (.int .i64 (Pn.cst l : Nat)) ∧ Below w0.heap.size w0 w') := fun g w0 h hb => by
  have := jcost_c ao l cap (some ⟨g, 0, none⟩) (lst (hlen (cntOf l) 256)) 256 w0 (hx.keep hb) (nd_hls h) (by omega) (by rw [length_lst]; omega)
  rw [length_lst] at this
  exact this
 have A5 : Hid (∀ w0, Below w.heap.size w w0 → Calls Tryz.prog 51 #[.slice ao l.length cap] w0 fun e w' => ∃ g, e = .returned (.slice (some ⟨g, 0, none⟩) 8 8) ∧ Cel w' g (Pn.lvC (cntOf l) 256 0) 139 ∧ w0.heap.size ≤ g ∧ Below w0.heap.size w0 w') := fun w0 h => plevels_c ao l cap w0 (hx.keep h) hw ht
 have A6 : Hid (∀ g w0, Cel w0 g (cds (hlen (cntOf l) 256)) 137 → Below w.heap.size w w0 → Calls Tryz.prog 52 #[.slice ao l.length cap, .slice (some ⟨g, 0, none⟩) 256 256] w0 fun e w' => ∃ vn ns N O, e = .returned vn ∧ w'.ownsRow (w0.heap.size + 1) 139 2 vn ns.length (bl2 ns.length (fun i => .int .i64 (N i : Nat)) (fun i => .int .i64 (O i : Nat))) ∧ Pn.Met (hlen (cntOf l) 256) (cod (hlen (cntOf l) 256)) (cntOf l) 256 0 ns N O ∧ Below w0.heap.size w0 w') := fun g w0 h hb => pnodes_c ao l cap g _ w0 (hx.keep hb) hw ht h hlv.1 hlv.2
 have cle := Pn.cst_le hw ht
 obtain ⟨n, hn⟩ : ∃ n, Hid (n = Hv.tot (cntOf l) 256) := ⟨_, rfl⟩
 obtain ⟨M, hM⟩ : ∃ M, M = max 1 n := ⟨_, rfl⟩
 obtain ⟨cs, hcs⟩ : ∃ cs, Hid (cs = Pn.cst l) := ⟨_, rfl⟩
 rw [← hcs.out] at A3 cle
 have A4 := hide fun w0 => pparts_c cs M (by omega) (by omega) (by rw [← hn.out] at ht; omega) w0
 obtain ⟨u, hu⟩ : ∃ u, Hid (u = Pn.up cs M) := ⟨_, rfl⟩
 have hule : u ≤ 327680 := by rw [hu.out]; exact Nat.le_trans (Pn.up_le cs M (by omega)) cle
 obtain ⟨D, hD⟩ : ∃ D, Hid (D = Pn.dpt l) := ⟨_, rfl⟩
 have hDu : D = max 1 u := by rw [hD.out, Pn.dpt_eq, ← hn.out, ← hcs.out, ← hM, hu.out]
 rw [← hu.out] at A4
 rw [← hn.out] at A0 ht ⊢
 rw [← hD.out]
 rw [h256] at A0 A1 A3 A5 A6 ⊢
 have q1 : (1 ≤ (n : Int) ∧ n = M) ∨ (¬ 1 ≤ (n : Int) ∧ 1 = M) := by omega
 have q2 : (1 ≤ (u : Int) ∧ u = D) ∨ (¬ 1 ≤ (u : Int) ∧ 1 = D) := by omega
 clear hM hDu hD hu hcs hx hw hbd h256 hLok hlv hl hT
 rcases q1 with ⟨q1, hM⟩ | ⟨q1, hM⟩
 ·subst hM
  rcases q2 with ⟨q2, hD⟩ | ⟨q2, hD⟩
  ·subst hD
   go_enter Tryz.func23, Tryz.ntmps23
   go_wp2_with fail
   rw [← hW]
   refine (A0.out _ HbW.out).mono ?_
   rintro e w1 ⟨rfl, rfl⟩
   clear hW
   go_wp2_with fail
   refine (A1.out _ HbW.out).mono ?_
   rintro e w2 ⟨gL, rfl, hl2, _, hb2⟩
   have HL2 := hide hl2
   have HB2 := hide (HbW.out.trans (hb2.mono HbW.out.size))
   have HR2 := hide (HRC.out.kept hb2)
   clear hb2 hl2 HbW HRC A1
   go_wp2_with fail
   refine (A2.out gL w2 HL2.out).mono ?_
   rintro e w3 ⟨gC, rfl, hc3, _, hb3⟩
   have HC3 := hide hc3
   have HB3 := hide (HB2.out.trans (hb3.mono HB2.out.size))
   have HL3 := hide (HL2.out.kept hb3)
   have HR3 := hide (HR2.out.kept hb3)
   clear hb3 hc3 HB2 HL2 HR2 A2
   go_wp2_with fail
   refine (A3.out gL w3 HL3.out HB3.out).mono ?_
   rintro e w4 ⟨rfl, hb4⟩
   have HB4 := hide (HB3.out.trans (hb4.mono HB3.out.size))
   have HC4 := hide (HC3.out.kept hb4)
   have HR4 := hide (HR3.out.kept hb4)
   clear hb4 HB3 HL3 HC3 HR3 A3
   go_wp2_with fail
   refine (A4.out _).mono ?_
   rintro e w5 ⟨rfl, rfl⟩
   go_wp2_with fail
   refine (A5.out _ HB4.out).mono ?_
   rintro e w6 ⟨gl, rfl, hv6, hgl6, hb6⟩
   have HGL : Hid (gl ≠ w.heap.size) := by have := HR4.out.lt; show gl ≠ _; omega
   have HB6 := hide (HB4.out.trans (hb6.mono HB4.out.size))
   have HC6 := hide (HC4.out.kept hb6)
   have HR6 := hide (HR4.out.kept hb6)
   have HV6 := hide hv6
   have HZ6 : Hid (w.heap.size < w6.heap.size) := HR6.out.lt
   clear hb6 hv6 hgl6 HB4 HC4 HR4 A5
   go_wp2_with fail
   refine (A6.out gC w6 HC6.out HB6.out).mono ?_
   rintro e w7 ⟨vn, ns, N, O, rfl, ho7, hm7, hb7⟩
   obtain ⟨a6, c6, rfl⟩ := owns_any ho7
   have HB7 := hide (HB6.out.trans (hb7.mono HB6.out.size))
   have HR7 := hide (HR6.out.kept hb7)
   have HV7 := hide (HV6.out.kept hb7)
   have HO7 := hide ho7
   have HM7 := hide hm7
   clear hb7 ho7 hm7 HB6 HC6 HR6 HV6 A6
   have r0 := HR7.out.cell 0 rfl
   have r1 := HR7.out.cell 1 rfl
   have r2 := HR7.out.cell 2 rfl
   have r3 := HR7.out.cell 3 rfl
   go_wp2_with (refine store_cel w.heap.size [.int .i64 0, .slice none 0 0, .slice none 0 0, .int .i64 0] [.int .i64 (n : Nat), .slice (some ⟨gl, 0, none⟩) 8 8, .slice a6 ns.length c6, .int .i64 (u : Nat)] (by rfl) rfl HR7.out rfl (by kernel_rfl) (by simp [Value.oneCell']) ?_)
   intro w8 hc8 ho8
   have HT8 : Hid (Pn.TX w8 l gl a6 ns.length c6) := by
    refine ⟨ho8.cel HV7.out HGL.out, w6.heap.size + 1, ns, N, O, rfl, Ag.owns_of HO7.out (fun b hb => ho8.block b (by have := (HO7.out.lt b hb).1; have := HZ6.out; omega)), HM7.out⟩
   have HB := hide (HB7.out.trans (ho8.below (Nat.le_refl _)))
   have x0 := hc8.cell 0 rfl
   have x1 := hc8.cell 1 rfl
   have x2 := hc8.cell 2 rfl
   have x3 := hc8.cell 3 rfl
   clear hc8 ho8 HB7 HR7 HV7 HO7 HM7 r0 r1 r2 r3
   go_wp2
   refine bodyPost_ret (v := .tuple #[.agg #[.int .i64 n, .slice (some ⟨gl, 0, none⟩) 8 8, .slice a6 ns.length c6, .int .i64 u], .bool true]) (by simp [results, Tryz.results23, go_sem, x0, x1, x2, x3]) rfl ?_
   exact ⟨gl, a6, ns.length, c6, rfl, HT8.out, HB.out⟩
  ·subst hD
   go_enter Tryz.func23, Tryz.ntmps23
   go_wp2_with fail
   rw [← hW]
   refine (A0.out _ HbW.out).mono ?_
   rintro e w1 ⟨rfl, rfl⟩
   clear hW
   go_wp2_with fail
   refine (A1.out _ HbW.out).mono ?_
   rintro e w2 ⟨gL, rfl, hl2, _, hb2⟩
   have HL2 := hide hl2
   have HB2 := hide (HbW.out.trans (hb2.mono HbW.out.size))
   have HR2 := hide (HRC.out.kept hb2)
   clear hb2 hl2 HbW HRC A1
   go_wp2_with fail
   refine (A2.out gL w2 HL2.out).mono ?_
   rintro e w3 ⟨gC, rfl, hc3, _, hb3⟩
   have HC3 := hide hc3
   have HB3 := hide (HB2.out.trans (hb3.mono HB2.out.size))
   have HL3 := hide (HL2.out.kept hb3)
   have HR3 := hide (HR2.out.kept hb3)
   clear hb3 hc3 HB2 HL2 HR2 A2
   go_wp2_with fail
   refine (A3.out gL w3 HL3.out HB3.out).mono ?_
   rintro e w4 ⟨rfl, hb4⟩
   have HB4 := hide (HB3.out.trans (hb4.mono HB3.out.size))
   have HC4 := hide (HC3.out.kept hb4)
   have HR4 := hide (HR3.out.kept hb4)
   clear hb4 HB3 HL3 HC3 HR3 A3
   go_wp2_with fail
   refine (A4.out _).mono ?_
   rintro e w5 ⟨rfl, rfl⟩
   go_wp2_with fail
   refine (A5.out _ HB4.out).mono ?_
   rintro e w6 ⟨gl, rfl, hv6, hgl6, hb6⟩
   have HGL : Hid (gl ≠ w.heap.size) := by have := HR4.out.lt; show gl ≠ _; omega
   have HB6 := hide (HB4.out.trans (hb6.mono HB4.out.size))
   have HC6 := hide (HC4.out.kept hb6)
   have HR6 := hide (HR4.out.kept hb6)
   have HV6 := hide hv6
   have HZ6 : Hid (w.heap.size < w6.heap.size) := HR6.out.lt
   clear hb6 hv6 hgl6 HB4 HC4 HR4 A5
   go_wp2_with fail
   refine (A6.out gC w6 HC6.out HB6.out).mono ?_
   rintro e w7 ⟨vn, ns, N, O, rfl, ho7, hm7, hb7⟩
   obtain ⟨a6, c6, rfl⟩ := owns_any ho7
   have HB7 := hide (HB6.out.trans (hb7.mono HB6.out.size))
   have HR7 := hide (HR6.out.kept hb7)
   have HV7 := hide (HV6.out.kept hb7)
   have HO7 := hide ho7
   have HM7 := hide hm7
   clear hb7 ho7 hm7 HB6 HC6 HR6 HV6 A6
   have r0 := HR7.out.cell 0 rfl
   have r1 := HR7.out.cell 1 rfl
   have r2 := HR7.out.cell 2 rfl
   have r3 := HR7.out.cell 3 rfl
   go_wp2_with (refine store_cel w.heap.size [.int .i64 0, .slice none 0 0, .slice none 0 0, .int .i64 0] [.int .i64 (n : Nat), .slice (some ⟨gl, 0, none⟩) 8 8, .slice a6 ns.length c6, .int .i64 1] (by rfl) rfl HR7.out rfl (by kernel_rfl) (by simp [Value.oneCell']) ?_)
   intro w8 hc8 ho8
   have HT8 : Hid (Pn.TX w8 l gl a6 ns.length c6) := by
    refine ⟨ho8.cel HV7.out HGL.out, w6.heap.size + 1, ns, N, O, rfl, Ag.owns_of HO7.out (fun b hb => ho8.block b (by have := (HO7.out.lt b hb).1; have := HZ6.out; omega)), HM7.out⟩
   have HB := hide (HB7.out.trans (ho8.below (Nat.le_refl _)))
   have x0 := hc8.cell 0 rfl
   have x1 := hc8.cell 1 rfl
   have x2 := hc8.cell 2 rfl
   have x3 := hc8.cell 3 rfl
   clear hc8 ho8 HB7 HR7 HV7 HO7 HM7 r0 r1 r2 r3
   go_wp2
   refine bodyPost_ret (v := .tuple #[.agg #[.int .i64 n, .slice (some ⟨gl, 0, none⟩) 8 8, .slice a6 ns.length c6, .int .i64 1], .bool true]) (by simp [results, Tryz.results23, go_sem, x0, x1, x2, x3]) rfl ?_
   exact ⟨gl, a6, ns.length, c6, rfl, HT8.out, HB.out⟩
 ·subst hM
  rcases q2 with ⟨q2, hD⟩ | ⟨q2, hD⟩
  ·subst hD
   go_enter Tryz.func23, Tryz.ntmps23
   go_wp2_with fail
   rw [← hW]
   refine (A0.out _ HbW.out).mono ?_
   rintro e w1 ⟨rfl, rfl⟩
   clear hW
   go_wp2_with fail
   refine (A1.out _ HbW.out).mono ?_
   rintro e w2 ⟨gL, rfl, hl2, _, hb2⟩
   have HL2 := hide hl2
   have HB2 := hide (HbW.out.trans (hb2.mono HbW.out.size))
   have HR2 := hide (HRC.out.kept hb2)
   clear hb2 hl2 HbW HRC A1
   go_wp2_with fail
   refine (A2.out gL w2 HL2.out).mono ?_
   rintro e w3 ⟨gC, rfl, hc3, _, hb3⟩
   have HC3 := hide hc3
   have HB3 := hide (HB2.out.trans (hb3.mono HB2.out.size))
   have HL3 := hide (HL2.out.kept hb3)
   have HR3 := hide (HR2.out.kept hb3)
   clear hb3 hc3 HB2 HL2 HR2 A2
   go_wp2_with fail
   refine (A3.out gL w3 HL3.out HB3.out).mono ?_
   rintro e w4 ⟨rfl, hb4⟩
   have HB4 := hide (HB3.out.trans (hb4.mono HB3.out.size))
   have HC4 := hide (HC3.out.kept hb4)
   have HR4 := hide (HR3.out.kept hb4)
   clear hb4 HB3 HL3 HC3 HR3 A3
   go_wp2_with fail
   refine (A4.out _).mono ?_
   rintro e w5 ⟨rfl, rfl⟩
   go_wp2_with fail
   refine (A5.out _ HB4.out).mono ?_
   rintro e w6 ⟨gl, rfl, hv6, hgl6, hb6⟩
   have HGL : Hid (gl ≠ w.heap.size) := by have := HR4.out.lt; show gl ≠ _; omega
   have HB6 := hide (HB4.out.trans (hb6.mono HB4.out.size))
   have HC6 := hide (HC4.out.kept hb6)
   have HR6 := hide (HR4.out.kept hb6)
   have HV6 := hide hv6
   have HZ6 : Hid (w.heap.size < w6.heap.size) := HR6.out.lt
   clear hb6 hv6 hgl6 HB4 HC4 HR4 A5
   go_wp2_with fail
   refine (A6.out gC w6 HC6.out HB6.out).mono ?_
   rintro e w7 ⟨vn, ns, N, O, rfl, ho7, hm7, hb7⟩
   obtain ⟨a6, c6, rfl⟩ := owns_any ho7
   have HB7 := hide (HB6.out.trans (hb7.mono HB6.out.size))
   have HR7 := hide (HR6.out.kept hb7)
   have HV7 := hide (HV6.out.kept hb7)
   have HO7 := hide ho7
   have HM7 := hide hm7
   clear hb7 ho7 hm7 HB6 HC6 HR6 HV6 A6
   have r0 := HR7.out.cell 0 rfl
   have r1 := HR7.out.cell 1 rfl
   have r2 := HR7.out.cell 2 rfl
   have r3 := HR7.out.cell 3 rfl
   go_wp2_with (refine store_cel w.heap.size [.int .i64 0, .slice none 0 0, .slice none 0 0, .int .i64 0] [.int .i64 (n : Nat), .slice (some ⟨gl, 0, none⟩) 8 8, .slice a6 ns.length c6, .int .i64 (u : Nat)] (by rfl) rfl HR7.out rfl (by kernel_rfl) (by simp [Value.oneCell']) ?_)
   intro w8 hc8 ho8
   have HT8 : Hid (Pn.TX w8 l gl a6 ns.length c6) := by
    refine ⟨ho8.cel HV7.out HGL.out, w6.heap.size + 1, ns, N, O, rfl, Ag.owns_of HO7.out (fun b hb => ho8.block b (by have := (HO7.out.lt b hb).1; have := HZ6.out; omega)), HM7.out⟩
   have HB := hide (HB7.out.trans (ho8.below (Nat.le_refl _)))
   have x0 := hc8.cell 0 rfl
   have x1 := hc8.cell 1 rfl
   have x2 := hc8.cell 2 rfl
   have x3 := hc8.cell 3 rfl
   clear hc8 ho8 HB7 HR7 HV7 HO7 HM7 r0 r1 r2 r3
   go_wp2
   refine bodyPost_ret (v := .tuple #[.agg #[.int .i64 n, .slice (some ⟨gl, 0, none⟩) 8 8, .slice a6 ns.length c6, .int .i64 u], .bool true]) (by simp [results, Tryz.results23, go_sem, x0, x1, x2, x3]) rfl ?_
   exact ⟨gl, a6, ns.length, c6, rfl, HT8.out, HB.out⟩
  ·subst hD
   go_enter Tryz.func23, Tryz.ntmps23
   go_wp2_with fail
   rw [← hW]
   refine (A0.out _ HbW.out).mono ?_
   rintro e w1 ⟨rfl, rfl⟩
   clear hW
   go_wp2_with fail
   refine (A1.out _ HbW.out).mono ?_
   rintro e w2 ⟨gL, rfl, hl2, _, hb2⟩
   have HL2 := hide hl2
   have HB2 := hide (HbW.out.trans (hb2.mono HbW.out.size))
   have HR2 := hide (HRC.out.kept hb2)
   clear hb2 hl2 HbW HRC A1
   go_wp2_with fail
   refine (A2.out gL w2 HL2.out).mono ?_
   rintro e w3 ⟨gC, rfl, hc3, _, hb3⟩
   have HC3 := hide hc3
   have HB3 := hide (HB2.out.trans (hb3.mono HB2.out.size))
   have HL3 := hide (HL2.out.kept hb3)
   have HR3 := hide (HR2.out.kept hb3)
   clear hb3 hc3 HB2 HL2 HR2 A2
   go_wp2_with fail
   refine (A3.out gL w3 HL3.out HB3.out).mono ?_
   rintro e w4 ⟨rfl, hb4⟩
   have HB4 := hide (HB3.out.trans (hb4.mono HB3.out.size))
   have HC4 := hide (HC3.out.kept hb4)
   have HR4 := hide (HR3.out.kept hb4)
   clear hb4 HB3 HL3 HC3 HR3 A3
   go_wp2_with fail
   refine (A4.out _).mono ?_
   rintro e w5 ⟨rfl, rfl⟩
   go_wp2_with fail
   refine (A5.out _ HB4.out).mono ?_
   rintro e w6 ⟨gl, rfl, hv6, hgl6, hb6⟩
   have HGL : Hid (gl ≠ w.heap.size) := by have := HR4.out.lt; show gl ≠ _; omega
   have HB6 := hide (HB4.out.trans (hb6.mono HB4.out.size))
   have HC6 := hide (HC4.out.kept hb6)
   have HR6 := hide (HR4.out.kept hb6)
   have HV6 := hide hv6
   have HZ6 : Hid (w.heap.size < w6.heap.size) := HR6.out.lt
   clear hb6 hv6 hgl6 HB4 HC4 HR4 A5
   go_wp2_with fail
   refine (A6.out gC w6 HC6.out HB6.out).mono ?_
   rintro e w7 ⟨vn, ns, N, O, rfl, ho7, hm7, hb7⟩
   obtain ⟨a6, c6, rfl⟩ := owns_any ho7
   have HB7 := hide (HB6.out.trans (hb7.mono HB6.out.size))
   have HR7 := hide (HR6.out.kept hb7)
   have HV7 := hide (HV6.out.kept hb7)
   have HO7 := hide ho7
   have HM7 := hide hm7
   clear hb7 ho7 hm7 HB6 HC6 HR6 HV6 A6
   have r0 := HR7.out.cell 0 rfl
   have r1 := HR7.out.cell 1 rfl
   have r2 := HR7.out.cell 2 rfl
   have r3 := HR7.out.cell 3 rfl
   go_wp2_with (refine store_cel w.heap.size [.int .i64 0, .slice none 0 0, .slice none 0 0, .int .i64 0] [.int .i64 (n : Nat), .slice (some ⟨gl, 0, none⟩) 8 8, .slice a6 ns.length c6, .int .i64 1] (by rfl) rfl HR7.out rfl (by kernel_rfl) (by simp [Value.oneCell']) ?_)
   intro w8 hc8 ho8
   have HT8 : Hid (Pn.TX w8 l gl a6 ns.length c6) := by
    refine ⟨ho8.cel HV7.out HGL.out, w6.heap.size + 1, ns, N, O, rfl, Ag.owns_of HO7.out (fun b hb => ho8.block b (by have := (HO7.out.lt b hb).1; have := HZ6.out; omega)), HM7.out⟩
   have HB := hide (HB7.out.trans (ho8.below (Nat.le_refl _)))
   have x0 := hc8.cell 0 rfl
   have x1 := hc8.cell 1 rfl
   have x2 := hc8.cell 2 rfl
   have x3 := hc8.cell 3 rfl
   clear hc8 ho8 HB7 HR7 HV7 HO7 HM7 r0 r1 r2 r3
   go_wp2
   refine bodyPost_ret (v := .tuple #[.agg #[.int .i64 n, .slice (some ⟨gl, 0, none⟩) 8 8, .slice a6 ns.length c6, .int .i64 1], .bool true]) (by simp [results, Tryz.results23, go_sem, x0, x1, x2, x3]) rfl ?_
   exact ⟨gl, a6, ns.length, c6, rfl, HT8.out, HB.out⟩
end Go.Proofs.YtcaalcjcpddhaaaGreat.Zz
namespace Go.Proofs.YtcaalcjcpddhaaaGreat.Zz
open Go.RowKit Num Hp
section
variable {P : Program} {ops : Array Oper} {Q : Exit → Act → World → Prop} {md : Region.Mode} {S E : World → Prop}
end
namespace Pn
def fac (k : Int) : Nat := if k = 1 then 1 else if k = 2 then 4 else 3
def shS (s i : Int) (l : List Int) (n : Nat) : Nat := if s = 4 then 1 + shp i l n else shp s l n
def stpN (z : Co.Zf) (l : List Int) : Nat := if (okT l && Co.okZ z) = true then shS z.1 z.2.1 l (Hv.tot (cntOf l) 256) * fac z.2.2.2.1 * z.2.2.2.2.toNat else 0
theorem shS_le (s i : Int) {l : List Int} {n : Nat} (hw : win l 8192 = true) (ht : Hv.tot (cntOf l) 256 ≤ 8192) : shS s i l n ≤ 327681 := by
 have h1 := shp_le s (n := n) hw ht
 have h2 := shp_le i (n := n) hw ht
 unfold shS
 split <;> omega
theorem fac_le (k : Int) : fac k ≤ 4 := by
 unfold fac
 split
 ·omega
 ·split <;> omega
end Pn
end Go.Proofs.YtcaalcjcpddhaaaGreat.Zz
namespace Go.Proofs.YtcaalcjcpddhaaaGreat.Zz
open Go.RowKit Num Hp
theorem pupTo_c (n : Nat) (w : World) :
  Calls Tryz.prog 116 #[.int .i64 (n : Nat)] w fun e w' => e = .returned (.func (.func 118) #[] #[.pointer (some ⟨w.heap.size, 0, none⟩)]) ∧ Cel w' w.heap.size [.int .i64 (n : Nat)] 3 ∧ Below w.heap.size w w' := by
 have C := hide (Cel.new w [.int .i64 (n : Nat)] 3)
 have B := hide (below_alloc w (.cells #[.int .i64 (n : Nat)] 3))
 go_enter Tryz.func116, Tryz.ntmps116
 go_wp2
 go_ret
 exact ⟨rfl, C.out, B.out⟩
set_option maxHeartbeats 2000000 in
theorem pworst_c (k : Int) (s : Nat) (hs : s ≤ 8192) (w : World) :
  Calls Tryz.prog 110 #[.int .i64 k, .int .i64 (s : Nat)] w fun e w' => e = .returned (.int .i64 (Pn.wst k s : Nat)) ∧ Below w.heap.size w w' := by
 obtain ⟨W, hW⟩ : ∃ W, W = (w.alloc (.cells #[.int .i64 k] 3)).alloc (.cells #[.int .i64 (s : Nat)] 3) := ⟨_, rfl⟩
 have A1 := hide (show Cel W w.heap.size [.int .i64 k] 3 by rw [hW]; exact (Cel.new w _ _).alloc _)
 have A2 := hide (show Cel W (w.heap.size + 1) [.int .i64 (s : Nat)] 3 by rw [hW]; exact Cel.new2 w _ _ _)
 have HbW := hide (show Below w.heap.size w W by rw [hW]; exact (below_alloc w _).alloc (by simp) _)
 have UP := hide (pupTo_c s)
 have LE : Hid (∀ gU w0, Cel w0 gU [.int .i64 (s : Nat)] 3 → Cel w0 w.heap.size [.int .i64 k] 3 → Cel w0 (w.heap.size + 1) [.int .i64 (s : Nat)] 3 → Calls Tryz.prog 115 #[.func (.func 118) #[] #[.pointer (some ⟨gU, 0, none⟩)], .func (.func 114) #[] #[.pointer (some ⟨w.heap.size, 0, none⟩), .pointer (some ⟨w.heap.size + 1, 0, none⟩)]] w0 fun e w' => e = .returned (.int .i64 (Pn.wsA k s (s + 1) : Nat)) ∧ Below w0.heap.size w0 w') := fun gU w0 h1 h2 h3 => pleastI_c k s gU w.heap.size (w.heap.size + 1) w0 hs h1 h2 h3
 have RW : Hid (∀ w0, Calls Tryz.prog 7 #[.int .i64 k, .int .i64 (s : Nat), .int .i64 (Pn.wsA k s (s + 1) : Nat)] w0 fun e w' => e = .returned (.int .i64 (Pn.wst k s : Nat)) ∧ w' = w0) := fun w0 => by
  have := prow0_c k s (Pn.wsA k s (s + 1) : Nat) w0
  rw [rowI_in (by omega) (by have := Pn.wsA_lt k s (q := s + 1) (by omega); omega), Pn.wsA_wst] at this
  exact this
 generalize Pn.wsA k s (s + 1) = a at *
 generalize Pn.wst k s = y at *
 go_enter Tryz.func110, Tryz.ntmps110
 go_wp2_with fail
 rw [← hW]
 clear hW
 try go_wp2
 refine region_g [] (fun w' => Cel w' w.heap.size [.int .i64 k] 3 ∧ Cel w' (w.heap.size + 1) [.int .i64 (s : Nat)] 3 ∧ Below w.heap.size w w') (by kernel_rfl) ?_
 have hS : (fun w' => Cel w' w.heap.size [.int .i64 k] 3 ∧ Cel w' (w.heap.size + 1) [.int .i64 (s : Nat)] 3 ∧ Below w.heap.size w w') W.drew := ⟨A1.out.drew, A2.out.drew, HbW.out.drew⟩
 clear A1 A2 HbW
 generalize W.drew = V at *
 refine AnyG.take 0 (v := ?vv1) rfl (by kernel_rfl) (by kernel_rfl) (by kernel_rfl) (by kernel_rfl) (fun _ _ _ h => h) hS ?hy1 (by rfl) ?rest1
 case hy1 =>
  intro w0 h0
  have d0 := h0.1.cell 0 rfl
  go_simp
  try with_reducible rfl
 simp only [Act.put, yq0, yq1, yq2, yq3, yq4, yq5]
 refine AnyG.take 1 (v := ?vv2) rfl (by kernel_rfl) (by kernel_rfl) (by kernel_rfl) (by kernel_rfl) (fun _ _ _ h => h) hS ?hy2 (by rfl) ?rest2
 case hy2 =>
  intro w0 h0
  have d1 := h0.2.1.cell 0 rfl
  go_simp
  try with_reducible rfl
 simp only [Act.put, yq0, yq1, yq2, yq3, yq4, yq5]
 refine AnyG.take 2 (v := ?vv3) rfl (by kernel_rfl) (by kernel_rfl) (by kernel_rfl) (by kernel_rfl) (fun _ _ _ h => h) hS ?hy3 (by rfl) ?rest3
 case hy3 =>
  intro w0 h0
  have d1 := h0.2.1.cell 0 rfl
  go_simp
  try with_reducible rfl
 simp only [Act.put, yq0, yq1, yq2, yq3, yq4, yq5]
 refine AnyG.take 4 (v := ?vv4) rfl (by kernel_rfl) (by kernel_rfl) (by kernel_rfl) (by kernel_rfl) (fun _ _ _ h => h) hS ?hy4 (by rfl) ?rest4
 case hy4 =>
  intro w0 h0
  go_simp
  try with_reducible rfl
 simp only [Act.put, yq0, yq1, yq2, yq3, yq4, yq5]
 refine AnyG.one 3 (by kernel_rfl) rfl ?_
 intro K hK
 go_simp
 refine (UP.out V).mono ?_
 rintro _ v1 ⟨rfl, hcu, hb⟩
 have hS1 : (fun w' => Cel w' w.heap.size [.int .i64 k] 3 ∧ Cel w' (w.heap.size + 1) [.int .i64 (s : Nat)] 3 ∧ Below w.heap.size w w') v1 := ⟨hS.1.kept hb, hS.2.1.kept hb, hS.2.2.trans (hb.mono hS.2.2.size)⟩
 clear hb hS
 refine hK.out _ _ (fun _ => hS1) ?_
 clear hK K
 try simp only [Act.put, yq0, yq1, yq2, yq3, yq4, yq5]
 refine AnyG.one 5 (by kernel_rfl) rfl ?_
 intro K hK
 go_simp
 refine (LE.out _ v1 hcu hS1.1 hS1.2.1).mono ?_
 rintro _ v2 ⟨rfl, hb⟩
 have hS2 : (fun w' => Cel w' w.heap.size [.int .i64 k] 3 ∧ Cel w' (w.heap.size + 1) [.int .i64 (s : Nat)] 3 ∧ Below w.heap.size w w') v2 := ⟨hS1.1.kept hb, hS1.2.1.kept hb, hS1.2.2.trans (hb.mono hS1.2.2.size)⟩
 clear hb hS1 hcu
 refine hK.out _ _ (fun _ => hS2) ?_
 clear hK K
 try simp only [Act.put, yq0, yq1, yq2, yq3, yq4, yq5]
 refine AnyG.one 6 (by kernel_rfl) rfl ?_
 intro K hK
 go_simp
 refine (RW.out _).mono ?_
 rintro _ v3 ⟨rfl, rfl⟩
 refine hK.out _ _ (fun _ => hS2) ?_
 clear hK K
 try simp only [Act.put, yq0, yq1, yq2, yq3, yq4, yq5]
 refine AnyG.take 7 (v := ?vv5) rfl (by kernel_rfl) (by kernel_rfl) (by kernel_rfl) (by kernel_rfl) (fun _ _ _ h => h) hS2 ?hy5 (by rfl) ?rest5
 case hy5 =>
  intro w0 h0
  go_simp
  try with_reducible rfl
 simp only [Act.put, yq0, yq1, yq2, yq3, yq4, yq5]
 refine AnyG.done (by kernel_rfl) ?_ _
 have HB := hide hS2.2.2
 clear hS2
 go_wp2
 go_ret
 exact ⟨rfl, HB.out⟩
set_option maxHeartbeats 2000000 in
theorem pblock_c (a i g k m : Int) (s : Nat) (hs : s ≤ 8192) (w : World) :
  Calls Tryz.prog 102 #[.agg #[.int .i64 a, .int .i64 i, .int .i64 g, .int .i64 k, .int .i64 m], .int .i64 (s : Nat)] w fun e w' => e = .returned (.int .i64 (4096 + Pn.blk i k s : Nat)) ∧ Below w.heap.size w w' := by
 have R1 := hide (pworst_c k s hs)
 have hw : Pn.wst k s ≤ 700000 := by
  have := Pn.wsq_le k (s := s) (by omega) (s + 1) (Nat.le_refl _)
  unfold Pn.wst
  omega
 have E : Hid (Pn.blk i k s = if i = 1 then 8 * Pn.wst k s else if i = 3 then 8 * Pn.wst k s + 256 else 1536 + min 255 s * Pn.wst k s) := rfl
 obtain ⟨W, hW⟩ : ∃ W, W = w.alloc (.cells #[.int .i64 a, .int .i64 i, .int .i64 g, .int .i64 k, .int .i64 m] 44) := ⟨_, rfl⟩
 have bW := hide (show Below w.heap.size w W by rw [hW]; exact below_alloc w _)
 have B1 : Cel W w.heap.size [.int .i64 a, .int .i64 i, .int .i64 g, .int .i64 k, .int .i64 m] 44 := by rw [hW]; exact Cel.new w _ _
 have c1 := B1.cell 1 rfl
 have c3 := B1.cell 3 rfl
 generalize Pn.wst k s = y at *
 have lW := hide B1.lt
 clear B1
 by_cases h1 : i = 1
 ·subst h1
  rw [if_pos rfl] at E
  go_enter Tryz.func102, Tryz.ntmps102
  go_wp2_with fail
  rw [← hW]
  go_wp2_with fail
  refine (R1.out _).mono ?_
  rintro e w1 ⟨rfl, hb1⟩
  replace bW := hide (bW.out.trans (hb1.mono bW.out.size))
  replace c1 := (hb1.cell (p := ⟨w.heap.size, 1, none⟩) lW.out).trans c1
  clear hW hb1 c3
  go_wp2
  go_ret
  rw [E.out]
  exact ⟨by go_num, bW.out⟩
 ·have h1z : (i == 1) = false := by simp; omega
  rw [if_neg h1] at E
  by_cases h3 : i = 3
  ·subst h3
   rw [if_pos rfl] at E
   go_enter Tryz.func102, Tryz.ntmps102
   go_wp2_with fail
   rw [← hW]
   go_wp2_with fail
   refine (R1.out _).mono ?_
   rintro e w1 ⟨rfl, hb1⟩
   replace bW := hide (bW.out.trans (hb1.mono bW.out.size))
   replace c1 := (hb1.cell (p := ⟨w.heap.size, 1, none⟩) lW.out).trans c1
   clear hW hb1 c3
   go_wp2
   go_ret
   rw [E.out]
   exact ⟨by go_num, bW.out⟩
  ·have h3z : (i == 3) = false := by simp; omega
   rw [if_neg h3] at E
   by_cases hm : s < 255
   ·have hmz : ¬ (255 : Int) ≤ (s : Int) := by omega
    rw [show min 255 s = s by omega] at E
    have hp := Nat.mul_le_mul (show s ≤ 255 by omega) hw
    have ez : (s : Int) * (y : Int) = ((s * y : Nat) : Int) := by rw [Int.natCast_mul]
    generalize s * y = p at *
    go_enter Tryz.func102, Tryz.ntmps102
    go_wp2_with fail
    rw [← hW]
    go_wp2_with fail
    refine (R1.out _).mono ?_
    rintro e w1 ⟨rfl, hb1⟩
    replace bW := hide (bW.out.trans (hb1.mono bW.out.size))
    replace c1 := (hb1.cell (p := ⟨w.heap.size, 1, none⟩) lW.out).trans c1
    clear hW hb1 c3
    go_wp2
    go_ret
    rw [E.out]
    exact ⟨by go_num, bW.out⟩
   ·have hmy : (255 : Int) ≤ (s : Int) := by omega
    rw [show min 255 s = 255 by omega] at E
    go_enter Tryz.func102, Tryz.ntmps102
    go_wp2_with fail
    rw [← hW]
    go_wp2_with fail
    refine (R1.out _).mono ?_
    rintro e w1 ⟨rfl, hb1⟩
    replace bW := hide (bW.out.trans (hb1.mono bW.out.size))
    replace c1 := (hb1.cell (p := ⟨w.heap.size, 1, none⟩) lW.out).trans c1
    clear hW hb1 c3
    go_wp2
    go_ret
    rw [E.out]
    exact ⟨by go_num, bW.out⟩
end Go.Proofs.YtcaalcjcpddhaaaGreat.Zz
