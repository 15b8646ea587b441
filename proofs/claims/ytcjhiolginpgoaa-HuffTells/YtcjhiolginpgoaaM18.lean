/-
  The contract of the program's Next at the end of a row. Plain: the counts of the statements' heads: their lengths and codes. The contract of the statements' heads. Arguments of the statements opened: numbers, bytes. The document's things in memory; the contract of its least. Appends to a row of the call's own, out of whatever source (nothing among them): as a step of a list of operations, and of a region that draws its order.
-/
import Derived.Test.YtcjhiolginpgoaaM17
import Derived.Test.YtcjhiolginpgoaaM16
import Derived.Test.YtcjhiolginpgoaaM15
import Derived.Test.YtcjhiolginpgoaaM04
import Derived.ChangeOld
import Derived.Test.YtcjhiolginpgoaaM14
import Derived.Test.YtcjhiolginpgoaaM02
import Derived.Test.YtcjhiolginpgoaaRows
import Derived.WalkKit
import Derived.OwnWalk
import Derived.Deep.AppendLies
namespace Go.Proofs.Ytcjhiolginpgoaa
open Go.RowKit Num Bit Ji Hp Ka Hr
set_option linter.unusedVariables false
set_option linter.unusedSimpArgs false
set_option maxRecDepth 100000

set_option maxHeartbeats 4000000 in
theorem jnext_short (g cap : Nat) (v : Nat → Nat) (N : Nat) (B : Nat → Bool) (ao : Option Addr) (n cap2 : Nat) (w : World) (hC : Cel w g (cds v) 33) (hv : Lok v) (hW : Wd w ao (rowOf N B)) (hn : n = (rowOf N B).length) (hN : N ≤ 1048576) :
    Calls Try.prog 18 #[.slice (some ⟨g, 0, none⟩) 256 cap, .agg #[.int .i64 (N : Nat), .slice ao n cap2], .int .i64 (N : Nat)] w fun e w' => e = .returned (.tuple #[.int .i64 0, .int .i64 0, .int .i64 160]) ∧ Below w.heap.size w w' := by
  subst hn
  have hk := chk_rowOf N B hN
  have CC := hide (fun w0 (hb : Below w.heap.size w w0) => jcanon_c g cap v w0 (hC.keep hb hC.lt) hv)
  have CK : Hid (∀ w0, Below w.heap.size w w0 → Calls Try.prog 32 #[.agg #[.int .i64 (N : Nat), .slice ao (rowOf N B).length cap2]] w0 fun e w' => e = .returned (.bool true) ∧ Below w0.heap.size w0 w') := fun w0 hb => by
    have := check_c (N : Nat) ao (rowOf N B) cap2 w0 (hW.keep hb)
    rw [hk] at this
    exact this
  have CG : Hid (∀ (w0 : World), Below w.heap.size w w0 → Calls Try.prog 34 #[.agg #[.int .i64 (N : Nat), .slice ao (rowOf N B).length cap2], .int .i64 (N : Nat)] w0 fun e w' => e = .returned (.tuple #[.bool false, .int .i64 3]) ∧ Below w0.heap.size w0 w') := fun w0 hb => by
    have := get_c (N : Nat) ao (rowOf N B) cap2 (N : Nat) w0 (hW.keep hb) (fit_rowOf _ _)
    have e1 : getE (N : Nat) (rowOf N B) (N : Nat) = 3 := by unfold getE; rw [if_neg (by rw [hk]; simp), if_pos (by omega)]
    have e2 : getB (N : Nat) (rowOf N B) (N : Nat) = false := by
      unfold getB
      rw [decide_eq_false (show ¬ (0 ≤ ((N : Nat) : Int) ∧ ((N : Nat) : Int) < (N : Nat)) by omega)]
      simp
    rw [e1, e2] at this
    exact this
  clear hC hv hW hk
  generalize (rowOf N B).length = n at *
  have HB0 := hide (below_alloc w (.cells #[.int .i64 (N : Nat), .slice ao n cap2] 45))
  have HX0 := hide (Cel.new w [.int .i64 (N : Nat), .slice ao n cap2] 45)
  go_enter Try.func18, Try.ntmps18
  go_wp2_with fail
  refine wp_scope_labels (fun l a' w' => False) (fun l a' _ => 0) ?_ (fun l a' w' h => h.elim)
  have c0 := HX0.out.cell 0 rfl
  have c1 := HX0.out.cell 1 rfl
  go_wp2_with fail
  refine (CC.out _ HB0.out).mono ?_
  rintro e w1 ⟨rfl, hb1⟩
  have HX1' := hide (HX0.out.kept hb1)
  have HB1' := hide (HB0.out.trans (hb1.mono HB0.out.size))
  clear hb1 c0 c1
  have c0 := HX1'.out.cell 0 rfl
  have c1 := HX1'.out.cell 1 rfl
  go_wp2_with fail
  refine (CK.out _ HB1'.out).mono ?_
  rintro e w2 ⟨rfl, hb2⟩
  have HX2' := hide (HX1'.out.kept hb2)
  have HB2' := hide (HB1'.out.trans (hb2.mono HB1'.out.size))
  clear hb2 c0 c1 HX1' HB1' HX0 HB0 CC CK
  have HBX := hide (HX2'.out.alloc (.cells #[.int .i64 0, .int .u64 0] 33))
  have HBB := hide (HB2'.out.alloc HB2'.out.size (.cells #[.int .i64 0, .int .u64 0] 33))
  have c0 := HX2'.out.cell 0 rfl
  have c1 := HX2'.out.cell 1 rfl
  have az : ¬ ((N : Nat) : Int) < 0 := by omega
  have az2 : ¬ ((N : Nat) : Int) < ((N : Nat) : Int) := by omega
  have b0 := HBX.out.cell 0 rfl
  have b1 := HBX.out.cell 1 rfl
  go_wp2_with fail
  clear c0 c1 HX2' HB2'
  generalize w2.alloc (.cells #[.int .i64 0, .int .u64 0] 33) = W at *
  go_step3
  go_wp2_with fail
  refine (CG.out _ HBB.out).mono ?_
  rintro e w3 ⟨rfl, hb3⟩
  have HB3 := hide (HBB.out.trans (hb3.mono HBB.out.size))
  clear hb3
  go_wp2
  simp only [Exit.jumpS]
  go_ret3
  exact ⟨rfl, HB3.out⟩
end Go.Proofs.Ytcjhiolginpgoaa

namespace Go.Proofs.Ytcjhiolginpgoaa
open Go.RowKit Num Bit Ji Hp Ka Hr
set_option linter.unusedVariables false
set_option maxRecDepth 100000

def hl0 : List Nat := (((List.replicate 256 0).set 97 3).set 98 1).set 99 1
def hlI : List Int := hl0.map fun n : Nat => (n : Int)
theorem hu : used (cntOf hlI) 256 = [97, 98, 99] := by decide +kernel
theorem hv97 : hlen (cntOf hlI) 256 97 = 1 := by decide +kernel
theorem hv98 : hlen (cntOf hlI) 256 98 = 2 := by decide +kernel
theorem hv99 : hlen (cntOf hlI) 256 99 = 2 := by decide +kernel
theorem hwin : win hlI 1048576 = true := by decide +kernel

theorem nd_cel {w : World} {g : Nat} {ys : List Nat} (h : Cel w g (ivh ys) 3) : Nd w (some ⟨g, 0, none⟩) (ys.map fun n : Nat => (n : Int)) := fun _ => by
  refine ⟨g, 0, rfl, h.lt, fun i hi => ?_⟩
  have hi : i < ys.length := by simpa using hi
  rw [Nat.zero_add, h.cell i (ivh_get _ i hi)]
  unfold gi
  rw [List.getD_eq_getElem?_getD, List.getD_eq_getElem?_getD, List.getElem?_map, List.getElem?_eq_getElem hi]
  rfl
/-- The lengths of counts may be. -/
theorem lok_hlen (l : List Int) (h : win l 1048576 = true) : Lok (hlen (cntOf l) 256) := by
  obtain ⟨h1, h2⟩ := win_len h
  obtain ⟨f1, f2, _⟩ := hlen_fit (cntOf l) (cnt_le h2)
  exact ⟨f2, fun c hc => hlen_none _ c (fun g => by have := (mem_used.1 g).1; omega), f1⟩
theorem hls_lst (l : List Int) : (hls l).map (fun n : Nat => (n : Int)) = lst (hlen (cntOf l) 256) := by
  unfold hls lst
  rw [List.map_map]
  rfl
theorem nd_hls {w : World} {g : Nat} {l : List Int} (h : Cel w g (ivh (hls l)) 3) : Nd w (some ⟨g, 0, none⟩) (lst (hlen (cntOf l) 256)) := by
  have := nd_cel h
  rw [hls_lst] at this
  exact this
/-- Codes of such lengths. -/
theorem jcodes_hls (g : Nat) (l : List Int) (w : World) (h : Cel w g (ivh (hls l)) 3) (hw : win l 1048576 = true) :
    Calls Try.prog 10 #[.slice (some ⟨g, 0, none⟩) 256 256] w fun e w' => CO w (hlen (cntOf l) 256) e w' := by
  have hv := lok_hlen l hw
  have := jcodes_c (some ⟨g, 0, none⟩) (lst (hlen (cntOf l) 256)) 256 w (nd_hls h) (by rw [length_lst]; omega) (lok_lst hv)
  rw [length_lst, cnt_lst hv.out] at this
  exact this
theorem hcell {w : World} {g : Nat} {l : List Int} (h : Cel w g (ivh (hls l)) 3) (c : Nat) (hc : c < 256) : w.cell? ⟨g, c, none⟩ = some (.int .i64 (hlen (cntOf l) 256 c : Nat)) := by
  have := h.cell c (ivh_get _ c (by simp [hls]; omega))
  rw [this]
  unfold hls
  rw [List.getD_eq_getElem?_getD, List.getElem?_map, List.getElem?_range hc]
  rfl
/-- The codes of the heads. -/
theorem hcode (c : Nat) : cod (hlen (cntOf hlI) 256) c = cod (hlen (cntOf hlI) 256) c := rfl
theorem vrest (c : Nat) (h : c ≠ 97 ∧ c ≠ 98 ∧ c ≠ 99) : hlen (cntOf hlI) 256 c = 0 := hlen_none _ c (fun g => by
  rw [hu] at g
  simp at g
  omega)
def vv (c : Nat) : Nat := if c = 97 then 1 else if c = 98 then 2 else if c = 99 then 2 else 0
theorem vv_eq : hlen (cntOf hlI) 256 = vv := by
  funext c
  unfold vv
  by_cases h1 : c = 97
  · subst h1; rw [if_pos rfl, hv97]
  · by_cases h2 : c = 98
    · subst h2; rw [if_neg (by omega), if_pos rfl, hv98]
    · by_cases h3 : c = 99
      · subst h3; rw [if_neg (by omega), if_neg (by omega), if_pos rfl, hv99]
      · rw [if_neg h1, if_neg h2, if_neg h3, vrest c ⟨h1, h2, h3⟩]
theorem k97 : cod vv 97 = 0 := by decide +kernel
theorem k98 : cod vv 98 = 2 := by decide +kernel
theorem k99 : cod vv 99 = 3 := by decide +kernel
theorem k99' : code vv 256 99 = 3 := by decide +kernel
theorem hcost : costv hlI (lst vv) = 7 := by decide +kernel
theorem hlI_eq : hl0.map (fun n : Nat => (n : Int)) = hlI := rfl
end Go.Proofs.Ytcjhiolginpgoaa

namespace Go.Proofs.Ytcjhiolginpgoaa
open Go.RowKit Num Bit Ji Hp Ka Hr
set_option linter.unusedVariables false
set_option linter.unusedSimpArgs false
set_option maxRecDepth 100000

set_option maxHeartbeats 8000000 in
theorem jheads_c (w : World) : Calls Try.prog 8 #[] w fun e w' => e = .returned (.bool true) ∧ Below w.heap.size w w' := by
  obtain ⟨i0, hi, hz0, hz1, hz2⟩ := info_parts info_i64
  have HV : Hid (Lok vv) := by have := lok_hlen hlI hwin; rw [vv_eq] at this; exact this
  have CL : Hid (∀ (g : Nat) (w0 : World), Cel w0 g (ivh hl0) 3 → Calls Try.prog 9 #[.slice (some ⟨g, 0, none⟩) 256 256] w0 fun e w' => LO w0 (hls hlI) e w') := fun g w0 h => jlen_c (some ⟨g, 0, none⟩) hlI 256 w0 (nd_cel h) (by decide) hwin
  have CD : Hid (∀ (g : Nat) (w0 : World), Cel w0 g (ivh (hls hlI)) 3 → Calls Try.prog 10 #[.slice (some ⟨g, 0, none⟩) 256 256] w0 fun e w' => CO w0 vv e w') := fun g w0 h => by
    have := jcodes_hls g hlI w0 h hwin
    rw [vv_eq] at this
    exact this
  have CP : Hid (∀ (w0 : World), Calls Try.prog 17 #[.agg #[.int .i64 0, .slice none 0 0], .agg #[.int .i64 2, .int .u64 3]] w0 fun e w' => ∃ bo dap, e = .returned (.tuple #[.agg #[.int .i64 2, .slice bo (rowOf 2 (putB 0 (fun _ => false) 3 2)).length dap], .int .i64 0]) ∧ OutF w0 w' bo (rowOf 2 (putB 0 (fun _ => false) 3 2)) dap) := fun w0 => jput_c 0 2 3 (fun _ => false) none 0 0 w0 rfl (fun h => absurd h (by simp [rowOf])) (by decide) (by decide) (by decide) (by decide)
  have CN : Hid (∀ (g : Nat) (bo : Option Addr) (dap : Nat) (w0 : World), Cel w0 g (cds vv) 33 → Wd w0 bo (rowOf 2 (putB 0 (fun _ => false) 3 2)) → Calls Try.prog 18 #[.slice (some ⟨g, 0, none⟩) 256 256, .agg #[.int .i64 2, .slice bo (rowOf 2 (putB 0 (fun _ => false) 3 2)).length dap], .int .i64 0] w0 fun e w' => e = .returned (.tuple #[.int .i64 99, .int .i64 2, .int .i64 0]) ∧ Below w0.heap.size w0 w') := fun g bo dap w0 hc hw => jnext_c g 256 vv 2 0 99 (putB 0 (fun _ => false) 3 2) bo _ dap w0 hc HV.out hw rfl (by decide) (by decide) (by decide) (by decide) (fun i hi => by
    rw [k99']
    unfold putB
    rw [if_neg (by omega)]
    congr 1
    have : vv 99 = 2 := rfl
    omega)
  have CS : Hid (∀ (g : Nat) (bo : Option Addr) (dap : Nat) (w0 : World), Cel w0 g (cds vv) 33 → Wd w0 bo (rowOf 2 (putB 0 (fun _ => false) 3 2)) → Calls Try.prog 18 #[.slice (some ⟨g, 0, none⟩) 256 256, .agg #[.int .i64 2, .slice bo (rowOf 2 (putB 0 (fun _ => false) 3 2)).length dap], .int .i64 2] w0 fun e w' => e = .returned (.tuple #[.int .i64 0, .int .i64 0, .int .i64 160]) ∧ Below w0.heap.size w0 w') := fun g bo dap w0 hc hw => jnext_short g 256 vv 2 (putB 0 (fun _ => false) 3 2) bo _ dap w0 hc HV.out hw rfl (by decide)
  have CT : Hid (∀ (g1 g2 : Nat) (w0 : World), Cel w0 g1 (ivh hl0) 3 → Cel w0 g2 (ivh (hls hlI)) 3 → Calls Try.prog 15 #[.slice (some ⟨g1, 0, none⟩) 256 256, .slice (some ⟨g2, 0, none⟩) 256 256] w0 fun e w' => e = .returned (.int .i64 7) ∧ Below w0.heap.size w0 w') := fun g1 g2 w0 h1 h2 => by
    have := jcost_c (some ⟨g1, 0, none⟩) hlI 256 (some ⟨g2, 0, none⟩) (lst vv) 256 w0 (nd_cel h1) (by have := nd_hls h2; rw [vv_eq] at this; exact this) (by decide) (by rw [length_lst]; omega)
    rw [hcost, length_lst] at this
    exact this
  go_enter Try.func8, Try.ntmps8
  go_wp2_with (at_make; refine wpList_make_full _ rfl _ _ 22 rfl w.heap.size 3 i0 (.int .i64 0) 1 Try.underlying22 hi hz0 hz1 .i64 .i64 _ _ 256 rfl rfl rfl rfl ?b2 ?b3 ?b4 ?_)
  case b3 => unfold maxLen; omega
  intro w1 hown hgr
  have B1 := cel_made1 hown
  have hb1 : Below w.heap.size w w1 := (Below.refl _ _).grown hgr (Nat.le_refl _) (fun k h => by cases h)
  have n97 := B1.cell 97 (ivh_get _ 97 (by decide))
  have n98 := B1.cell 98 (ivh_get _ 98 (by decide))
  have n99 := B1.cell 99 (ivh_get _ 99 (by decide))
  have f97 := B1.frozen 97
  have f98 := B1.frozen 98
  have f99 := B1.frozen 99
  have HC1 : Hid (Cel (((w1.setCell ⟨w.heap.size, 97, none⟩ (.int .i64 3)).setCell ⟨w.heap.size, 98, none⟩ (.int .i64 1)).setCell ⟨w.heap.size, 99, none⟩ (.int .i64 1)) w.heap.size (ivh hl0) 3) := by
    have := ((B1.set 97 (.int .i64 (3 : Nat))).set 98 (.int .i64 (1 : Nat))).set 99 (.int .i64 (1 : Nat))
    rw [ivh_set, ivh_set, ivh_set] at this
    exact this
  have HB1 : Hid (Below w.heap.size w (((w1.setCell ⟨w.heap.size, 97, none⟩ (.int .i64 3)).setCell ⟨w.heap.size, 98, none⟩ (.int .i64 1)).setCell ⟨w.heap.size, 99, none⟩ (.int .i64 1))) := ((hb1.setCell (Nat.le_refl _) _).setCell (Nat.le_refl _) _).setCell (Nat.le_refl _) _
  clear hown hgr hb1 hi hz0 hz1 hz2 B1
  go_wp2_with fail
  clear n97 n98 n99 f97 f98 f99
  generalize ((w1.setCell ⟨w.heap.size, 97, none⟩ (.int .i64 3)).setCell ⟨w.heap.size, 98, none⟩ (.int .i64 1)).setCell ⟨w.heap.size, 99, none⟩ (.int .i64 1) = W at *
  obtain ⟨gA, hgA⟩ : ∃ gA, Hid (gA = w.heap.size) := ⟨_, rfl⟩
  rw [← hgA.out] at HC1 ⊢
  refine (CL.out gA W HC1.out).mono ?_
  rintro e w2 ⟨gl, rfl, cl2, hgl, hb2⟩
  have HA2 := hide (HC1.out.kept hb2)
  have HL2 := hide cl2
  have HB2 := hide (HB1.out.trans (hb2.mono HB1.out.size))
  clear cl2 hgl hb2 HC1 HB1
  go_wp2_with fail
  refine (CD.out gl w2 HL2.out).mono ?_
  rintro e w3 ⟨gc, rfl, cc3, hgc, hb3⟩
  have HA3 := hide (HA2.out.kept hb3)
  have HL3 := hide (HL2.out.kept hb3)
  have HC3 := hide cc3
  have HB3 := hide (HB2.out.trans (hb3.mono HB2.out.size))
  clear cc3 hgc hb3 HA2 HL2 HB2
  have m0 : w3.cell? ⟨gc, 99 * 2, none⟩ = some (.int .i64 2) := HC3.out.cell (99 * 2) (cds_fst vv 99 (by decide))
  have m1 : w3.cell? ⟨gc, 99 * 2 + 1, none⟩ = some (.int .u64 3) := by have := HC3.out.cell (99 * 2 + 1) (cds_snd vv 99 (by decide)); rw [k99] at this; exact this
  have m0' : w3.cell? ⟨gc, 198, none⟩ = some (.int .i64 2) := m0
  have m1' : w3.cell? ⟨gc, 199, none⟩ = some (.int .u64 3) := m1
  go_wp2_with fail
  refine (CP.out _).mono ?_
  rintro e w4 ⟨bo, dap, rfl, o1, o2, o3, o4, o5⟩
  have HA4 := hide (HA3.out.kept o5)
  have HL4 := hide (HL3.out.kept o5)
  have HC4 := hide (HC3.out.kept o5)
  have HW4 := hide o1
  have HB4 := hide (HB3.out.trans (o5.mono HB3.out.size))
  clear o1 o2 o3 o4 o5 HA3 HL3 HC3 HB3 m0 m1 m0' m1'
  generalize hys : rowOf 2 (putB 0 (fun _ => false) 3 2) = ys at *
  have k5 := below_alloc w4 (.cells #[.int .i64 2, .slice bo ys.length dap] 45)
  have HA5 := hide (HA4.out.kept k5)
  have HL5 := hide (HL4.out.kept k5)
  have HC5 := hide (HC4.out.kept k5)
  have HW5 := hide (HW4.out.keep k5)
  have HB5 := hide (HB4.out.trans (k5.mono HB4.out.size))
  have HX5 := hide (Cel.new w4 [.int .i64 2, .slice bo ys.length dap] 45)
  clear HA4 HL4 HC4 HW4 HB4 k5
  go_wp2_with fail
  generalize w4.alloc (.cells #[.int .i64 2, .slice bo ys.length dap] 45) = w5 at *
  refine (CN.out gc bo dap w5 HC5.out HW5.out).mono ?_
  rintro e w6 ⟨rfl, hb6⟩
  have HA6 := hide (HA5.out.kept hb6)
  have HL6 := hide (HL5.out.kept hb6)
  have HC6 := hide (HC5.out.kept hb6)
  have HW6 := hide (HW5.out.keep hb6)
  have HB6 := hide (HB5.out.trans (hb6.mono HB5.out.size))
  have HX6 := HX5.out.kept hb6
  have x0 := HX6.cell 0 rfl
  have x1 := HX6.cell 1 rfl
  clear hb6 HA5 HL5 HC5 HW5 HB5 HX5
  go_wp2_with fail
  refine (CS.out gc bo dap w6 HC6.out HW6.out).mono ?_
  rintro e w7 ⟨rfl, hb7⟩
  have HA7 := hide (HA6.out.kept hb7)
  have HL7 := hide (HL6.out.kept hb7)
  have hC7 := HC6.out.kept hb7
  have HB7 := hide (HB6.out.trans (hb7.mono HB6.out.size))
  clear hb7 HA6 HL6 HC6 HW6 HB6 HX6 x0 x1
  have l97 := hcell HL7.out 97 (by decide)
  have l98 := hcell HL7.out 98 (by decide)
  rw [hv97] at l97
  rw [hv98] at l98
  have c97 : w7.cell? ⟨gc, 195, none⟩ = some (.int .u64 0) := by have := hC7.cell (97 * 2 + 1) (cds_snd vv 97 (by decide)); rw [k97] at this; exact this
  have c98 : w7.cell? ⟨gc, 197, none⟩ = some (.int .u64 2) := by have := hC7.cell (98 * 2 + 1) (cds_snd vv 98 (by decide)); rw [k98] at this; exact this
  have c99 : w7.cell? ⟨gc, 199, none⟩ = some (.int .u64 3) := by have := hC7.cell (99 * 2 + 1) (cds_snd vv 99 (by decide)); rw [k99] at this; exact this
  clear hC7
  go_wp2_with fail
  refine (CT.out gA gl w7 HA7.out HL7.out).mono ?_
  rintro e w8 ⟨rfl, hb8⟩
  have HB8 := hide (HB7.out.trans (hb8.mono HB7.out.size))
  clear hb8
  go_wp2
  go_ret
  exact ⟨rfl, HB8.out⟩
end Go.Proofs.Ytcjhiolginpgoaa

namespace Go.Proofs.Ytcjhiolginpgoaa
open Go.ChangeShapes Go.WideShapes Go.ChangeAt Go.RowKit Num Bit
set_option maxRecDepth 100000

theorem open_isl {H : Type} {enc : TypeId × Value → H} {W : World} {base : Nat} {v : Value} {d : DataW H} {p : List MemPlace} (hv : Value.okWide Try.prog W .any base 22 v) (h : DataW.Trod enc Try.prog W 0 (fun _ => true) true 22 v d p) :
    ∃ ao l cap, v = .slice ao (List.length l) cap ∧ Nd W ao l ∧ FitI l ∧ l.length ≤ cap := by
  obtain ⟨a0, len, cap, rfl⟩ := okWide_slice Try.underlying22 hv
  obtain ⟨fuel, hf⟩ := h
  have hf2 : DataW.trod enc Try.prog W 0 (fun _ => true) true fuel 22 [.slice a0 len cap] = some (d, p) := by simpa [Value.cells] using hf
  exact open_is hf2
theorem u8_wfh (x : Int) (h : (Lit.int .u8 x).wf = true) : 0 ≤ x ∧ x < 256 := by
  simp [Lit.wf, IntKind.min, IntKind.max, IntKind.bits, IntKind.signed] at h
  omega
end Go.Proofs.Ytcjhiolginpgoaa

namespace Go.Proofs.Ytcjhiolginpgoaa
open Go.RowKit Num Bit Ji Hp
set_option linter.unusedVariables false
set_option linter.unusedSimpArgs false
set_option maxRecDepth 100000

/-- A thing of the document, and where its symbols lie. -/
structure TB where
  t : Hn.Tg
  g : Nat
  cap : Nat
instance : Inhabited TB := ⟨⟨⟨0, 0, []⟩, 0, 0⟩⟩
def tbc (x : TB) : List Value := [.int .i64 (x.t.id : Nat), .int .i64 (x.t.wt : Nat), .slice (some ⟨x.g, 0, none⟩) x.t.sy.length x.cap]
def tbs (L : List TB) : List Value := L.flatMap tbc
def tbi (L : List TB) (i : Nat) : TB := L.getD i default
theorem length_tbc (x : TB) : (tbc x).length = 3 := rfl
theorem length_tbs (L : List TB) : (tbs L).length = L.length * 3 := by
  induction L with
  | nil => rfl
  | cons x L ih => unfold tbs at *; rw [List.flatMap_cons, List.length_append, ih, length_tbc, List.length_cons]; omega
theorem tbs_append (L M : List TB) : tbs (L ++ M) = tbs L ++ tbs M := by unfold tbs; rw [List.flatMap_append]
theorem tbs_get : ∀ (L : List TB) (i k : Nat), i < L.length → k < 3 → (tbs L)[i * 3 + k]? = (tbc (tbi L i))[k]?
  | x :: L, 0, k, _, hk => by
    unfold tbs tbi
    rw [List.flatMap_cons, List.getElem?_append_left (by rw [length_tbc]; omega)]
    simp
  | x :: L, i + 1, k, h, hk => by
    have ih := tbs_get L i k (by simpa using h) hk
    have e1 : tbs (x :: L) = tbc x ++ tbs L := by unfold tbs; rw [List.flatMap_cons]
    rw [e1, List.getElem?_append_right (by rw [length_tbc]; omega), length_tbc, show (i + 1) * 3 + k - 3 = i * 3 + k by omega, ih]
    rfl
theorem tg_map (L : List TB) (i : Nat) : Ho.tg (L.map TB.t) i = (tbi L i).t := by
  unfold Ho.tg tbi
  rw [List.getD_eq_getElem?_getD, List.getD_eq_getElem?_getD, List.getElem?_map]
  cases L[i]? <;> rfl
/-- The first two cells of each. -/
def TR (w : World) (g : Nat) (L : List TB) : Prop := g < w.heap.size ∧ ∀ i, i < L.length → w.cell? ⟨g, i * 3, none⟩ = some (.int .i64 ((tbi L i).t.id : Nat)) ∧ w.cell? ⟨g, i * 3 + 1, none⟩ = some (.int .i64 ((tbi L i).t.wt : Nat))
theorem TR.keep {w w' : World} {g : Nat} {L : List TB} (h : TR w g L) (hb : Below w.heap.size w w') : TR w' g L :=
  ⟨Nat.lt_of_lt_of_le h.1 hb.size, fun i hi => ⟨(hb.cell (p := ⟨g, i * 3, none⟩) h.1).trans (h.2 i hi).1, (hb.cell (p := ⟨g, i * 3 + 1, none⟩) h.1).trans (h.2 i hi).2⟩⟩

set_option maxHeartbeats 8000000 in
theorem rleast_c (g cap : Nat) (L : List TB) (w : World) (hx : TR w g L) (h0 : 0 < L.length) (hl : L.length ≤ 256) :
    Calls Try.prog 26 #[.slice (some ⟨g, 0, none⟩) L.length cap] w fun e w' => e = .returned (.int .i64 (Ho.least (L.map TB.t) : Nat)) ∧ Below w.heap.size w w' := by
  obtain ⟨T, hT⟩ : ∃ T, Hid (T = L.map TB.t) := ⟨_, rfl⟩
  have HX := hide hx
  have HTL : Hid (T.length = L.length) := by show T.length = _; rw [hT.out, List.length_map]
  have HTG : Hid (∀ i, (tbi L i).t = Ho.tg T i) := fun i => by rw [hT.out, tg_map]
  rw [← hT.out]
  clear hx
  go_enter Try.func26, Try.ntmps26
  go_wp2
  go_loopw [3, 4] (fun va vi wr => ∃ (q at_ : Nat), q + 1 ≤ L.length ∧ at_ ≤ q ∧ vi = .int .i64 ((q + 1 : Nat) : Int) ∧ va = .int .i64 at_ ∧ Hid (at_ = Ho.leastQ T q) ∧ Hid (Below w.heap.size w wr)) (fun _ vi _ => L.length - (intOf vi).toNat)
  case atStart => exact ⟨0, 0, by omega, by omega, rfl, rfl, rfl, Below.refl _ _⟩
  case round =>
    obtain ⟨q, p, hq, hp, rfl, rfl, HI, HB⟩ := hrel
    by_cases hlt : q + 1 < L.length
    · have hltz : ((q + 1 : Nat) : Int) < (L.length : Int) := by omega
      have hpz : (p : Int) < (L.length : Int) := by omega
      have X := HX.out.keep HB.out
      obtain ⟨e0, e1⟩ := X.2 (q + 1) hlt
      obtain ⟨e2, e3⟩ := X.2 p (by omega)
      rw [HTG.out] at e0 e1 e2 e3
      have HN : Hid (Ho.leastQ T (q + 1) = if (decide ((Ho.tg T (q + 1)).wt < (Ho.tg T p).wt) || (decide ((Ho.tg T (q + 1)).wt = (Ho.tg T p).wt) && decide ((Ho.tg T (q + 1)).id < (Ho.tg T p).id))) = true then q + 1 else p) := by
        show Ho.leastQ T (q + 1) = _
        rw [Ho.leastQ, ← HI.out]
        rfl
      clear X HI HX
      generalize hi : q + 1 = i at *
      generalize (Ho.tg T i).wt = x1 at *
      generalize (Ho.tg T i).id = x0 at *
      generalize (Ho.tg T p).wt = y1 at *
      generalize (Ho.tg T p).id = y0 at *
      by_cases k1 : x1 < y1
      · have k1z : (x1 : Int) < (y1 : Int) := by omega
        have HN1 : Hid (i = Ho.leastQ T i) := by show i = _; rw [HN.out, if_pos (by simp [k1])]
        clear HN
        go_wp2
        go_quiet (fail)
        go_wp2
        exact ⟨⟨i, i, by omega, by omega, by go_num, rfl, HN1, below_drewN HB.out _⟩, by simp only [intOf]; omega⟩
      · have k1z : ¬ (x1 : Int) < (y1 : Int) := by omega
        by_cases k2 : x1 = y1
        · have k2z : ((x1 : Int) == (y1 : Int)) = true := by simp; omega
          by_cases k3 : x0 < y0
          · have k3z : (x0 : Int) < (y0 : Int) := by omega
            have HN1 : Hid (i = Ho.leastQ T i) := by show i = _; rw [HN.out, if_pos (by simp [k2, k3])]
            clear HN
            go_wp2
            go_quiet (fail)
            go_wp2
            exact ⟨⟨i, i, by omega, by omega, by go_num, rfl, HN1, below_drewN HB.out _⟩, by simp only [intOf]; omega⟩
          · have k3z : ¬ (x0 : Int) < (y0 : Int) := by omega
            have HN1 : Hid (p = Ho.leastQ T i) := by show p = _; rw [HN.out, if_neg (by simp [k1, k3])]
            clear HN
            go_wp2
            go_quiet (fail)
            go_wp2
            exact ⟨⟨i, p, by omega, by omega, by go_num, rfl, HN1, below_drewN HB.out _⟩, by simp only [intOf]; omega⟩
        · have k2z : ((x1 : Int) == (y1 : Int)) = false := by simp; omega
          have HN1 : Hid (p = Ho.leastQ T i) := by show p = _; rw [HN.out, if_neg (by simp [k1, k2])]
          clear HN
          go_wp2
          go_quiet (fail)
          go_wp2
          exact ⟨⟨i, p, by omega, by omega, by go_num, rfl, HN1, below_drewN HB.out _⟩, by simp only [intOf]; omega⟩
    · have HR : Hid (Ho.least T = p) := by show Ho.least T = p; unfold Ho.least; rw [HTL.out, HI.out]; congr 1; omega
      have hltz : ¬ ((q + 1 : Nat) : Int) < (L.length : Int) := by omega
      go_wp2
      go_ret
      rw [HR.out]
      exact ⟨rfl, HB.out⟩
end Go.Proofs.Ytcjhiolginpgoaa

namespace Go.Proofs.Ytcjhiolginpgoaa
open Go.RowKit
namespace Ap
theorem owns_below {w w' : World} {base e n : Nat} {v : Value} {vs : List Value} (h : w.ownsRow base e 1 v n vs) (hb : Below w.heap.size w w') : w'.ownsRow base e 1 v n vs := by
  obtain ⟨h1, h2 | ⟨g, cap, cur, e1, e2, hh, r⟩⟩ := h
  · exact ⟨h1, .inl h2⟩
  · exact ⟨h1, .inr ⟨g, cap, cur, e1, e2, (hb.block g ((Array.getElem?_eq_some_iff.1 hh).1)).trans hh, r⟩⟩
theorem owns_shape {w : World} {base e n : Nat} {v : Value} {vs : List Value} (h : w.ownsRow base e 1 v n vs) : ∃ ao cap, v = .slice ao n cap ∧ n ≤ cap ∧ (∀ k, v.ownBlock = some k → base ≤ k ∧ k < w.heap.size) := by
  have hl := h.lt
  obtain ⟨h1, ⟨rfl, rfl⟩ | ⟨g, cap, cur, rfl, e2, hh, r, _⟩⟩ := h
  · exact ⟨none, 0, rfl, Nat.le_refl _, hl⟩
  · exact ⟨some ⟨g, 0, none⟩, cap, rfl, r, hl⟩
theorem run_append_zero (w : World) (base : Nat) (t ty e : TypeId) (i : TypeInfo) (size : Nat) (ht : Try.prog.underlying t = some (.slice e)) (hi : Try.prog.info? e = some i)
    (v : Value) (n : Nat) (vs : List Value) (hown : w.ownsRow base e size v n vs) (xa : Option Addr) (c : Nat) :
    (Builtin.append_ #[t, t] ty #[v, .slice xa 0 c]).run Try.prog w = .ok v w := by
  have hc := fun ad : Addr => run_firstCells_some (P := Try.prog) w i.size 0 ad 0 c [] (by simp) (by simp)
  rcases hown.2 with ⟨rfl, rfl⟩ | ⟨g, cap, cur, rfl, _, _, hnc, _⟩
  · cases xa with
    | none => simp [Builtin.append_, run_underlying ht, sizeOf, typeInfo, hi, Builtin.lenOf, Builtin.firstCells]
    | some ad => simp [Builtin.append_, run_underlying ht, sizeOf, typeInfo, hi, Builtin.lenOf, hc]
  · cases xa with
    | none => simp [Builtin.append_, run_underlying ht, sizeOf, typeInfo, hi, Builtin.lenOf, Builtin.firstCells, hnc, storeCells]
    | some ad => simp [Builtin.append_, run_underlying ht, sizeOf, typeInfo, hi, Builtin.lenOf, hc, hnc, storeCells]

theorem step_append_u {ops : Array Oper} {o : Oper} {a : Act} {w : World} {K : Act → World → Prop} {Q : Exit → Act → World → Prop} {E : Prop} (hgd : o.guard = none) (s x : Operand) (t : TypeId)
    (ho : o.op = .call { callee := .builtin .append, args := #[s, x], argTypes := #[t, t] })
    (base : Nat) (e : TypeId) (i : TypeInfo) (z : Value) (bytes : Nat) (ht : Try.prog.underlying t = some (.slice e)) (hi : Try.prog.info? e = some i) (hz : i.zero = some z)
    (hsize : i.size = 1) (hby : i.bytes = bytes) (hzs : z.cells.size = 1)
    (v : Value) (n : Nat) (vs : List Value) (hs : a.eval s = v) (hown : w.ownsRow base e 1 v n vs)
    (xa : Option Addr) (m c : Nat) (news : List Value) (hx : a.eval x = .slice xa m c) (hl : news.length = m) (hsrc : 0 < m → ∃ ad, xa = some ad ∧ ∀ j u, news[j]? = some u → w.cell? (ad.add j) = some u) (h1 : ∀ u ∈ news, u.oneCell' = true)
    (h63 : n + m ≤ maxLen) (hbytes : (n + m) * bytes ≤ 140737488355328) (hbase : base ≤ w.heap.size)
    (h : ∀ ao cap w', w'.ownsRow base e 1 (.slice ao (n + m) cap) (n + m) (vs ++ news) → n + m ≤ cap → Below base w w' → (∀ k, (Value.slice ao (n + m) cap).ownBlock = some k → (v.ownBlock = some k ∨ k = w.heap.size) ∧ k < w'.heap.size) → (∀ k, k < w.heap.size → v.ownBlock ≠ some k → w'.heap[k]? = w.heap[k]?) → w.heap.size ≤ w'.heap.size → K (a.put o.dst (.slice ao (n + m) cap)) w') :
    if Region.wanted o (yielded ops a.tmps) = true then Oper.wp Try.prog o a w K Q else E := by
  have hw : Region.wanted o (yielded ops a.tmps) = true := by simp [Region.wanted, hgd]
  rw [if_pos hw]
  by_cases hm : m = 0
  · subst hm
    have hn : news = [] := List.eq_nil_of_length_eq_zero hl
    subst hn
    have hr := run_append_zero w base t o.type e i 1 ht hi v n vs hown xa c
    obtain ⟨ao, cap, rfl, hc, hk⟩ := owns_shape hown
    unfold Oper.wp execOp
    simp only [ho, resolve, invoke, builtin, Sem.run_bind, Sem.run_pure, Result.andThen_ok, List.map_toArray, List.map_cons, List.map_nil, hs, hx, hr]
    refine h ao cap w (by simpa using hown) hc (Below.refl _ _) (fun k e => ⟨.inl e, (hk k e).2⟩) (fun _ _ _ => rfl) (Nat.le_refl _)
  · obtain ⟨ad, rfl, hn⟩ := hsrc (by omega)
    refine wp_append_lies w s x t ho base e i z 1 bytes ht hi hz hsize hby hzs (by decide) v n vs hs hown ad m c news hx (by omega) hn h1 (by omega) h63 hbytes hbase w.heap.size rfl ?_
    intro g cap w' o1 o2 o3 o4
    refine h (some ⟨g, 0, none⟩) cap w' o1 ?_ ?_ ?_ ?_ o2.size
    · obtain ⟨_, h | ⟨g', cap', cur, e', _, hh, hle, _⟩⟩ := o1
      · simp at h
      · simp only [Value.slice.injEq] at e'
        omega
    · exact (Below.refl _ _).grown o2 hbase (fun k hk => (hown.lt k hk).1)
    · intro k hk
      simp only [Value.ownBlock, Option.some.injEq] at hk
      subst hk
      exact ⟨o3, o4⟩
    · intro k hk hne
      exact o2.block k hk (fun q => hne q.symm)

/-- An append to a row of the call's own, out of whatever source (nothing among them). -/
theorem wpList_append_u {ops : Array Oper} {rest : List Oper} {o : Oper} {a : Act} {w : World} {Q : Exit → Act → World → Prop} (hgd : o.guard = none) (s x : Operand) (t : TypeId)
    (ho : o.op = .call { callee := .builtin .append, args := #[s, x], argTypes := #[t, t] })
    (base : Nat) (e : TypeId) (i : TypeInfo) (z : Value) (bytes : Nat) (ht : Try.prog.underlying t = some (.slice e)) (hi : Try.prog.info? e = some i) (hz : i.zero = some z)
    (hsize : i.size = 1) (hby : i.bytes = bytes) (hzs : z.cells.size = 1)
    (v : Value) (n : Nat) (vs : List Value) (hs : a.eval s = v) (hown : w.ownsRow base e 1 v n vs)
    (xa : Option Addr) (m c : Nat) (news : List Value) (hx : a.eval x = .slice xa m c) (hl : news.length = m) (hsrc : 0 < m → ∃ ad, xa = some ad ∧ ∀ j u, news[j]? = some u → w.cell? (ad.add j) = some u) (h1 : ∀ u ∈ news, u.oneCell' = true)
    (h63 : n + m ≤ maxLen) (hbytes : (n + m) * bytes ≤ 140737488355328) (hbase : base ≤ w.heap.size)
    (h : ∀ ao cap w', w'.ownsRow base e 1 (.slice ao (n + m) cap) (n + m) (vs ++ news) → n + m ≤ cap → Below base w w' → wpList Try.prog ops Q rest (a.put o.dst (.slice ao (n + m) cap)) w') : wpList Try.prog ops Q (o :: rest) a w :=
  wpList_plain hgd fun K hK => by
    have hw : Region.wanted o (yielded ops a.tmps) = true := by simp [Region.wanted, hgd]
    have := step_append_u (ops := ops) (o := o) (a := a) (w := w) (K := K) (Q := Q) (E := True) hgd s x t ho base e i z bytes ht hi hz hsize hby hzs v n vs hs hown xa m c news hx hl hsrc h1 h63 hbytes hbase (fun ao cap w' h1 h2 h3 _ _ _ => hK _ _ (h ao cap w' h1 h2 h3))
    rw [if_pos hw] at this
    exact this

theorem owns_alloc {w : World} {base e n : Nat} {v : Value} {vs : List Value} (h : w.ownsRow base e 1 v n vs) (o : Obj) : (w.alloc o).ownsRow base e 1 v n vs := h.alloc o
/-- Two rows that lie in blocks of their own. -/
def Apart (u v : Value) : Prop := ∀ k, u.ownBlock = some k → v.ownBlock ≠ some k
theorem Apart.symm {u v : Value} (h : Apart u v) : Apart v u := fun k hk hu => h k hu hk
theorem apart_nil (v : Value) : Apart v (.slice none 0 0) := fun k _ h => by cases h
/-- A row stays where another one grows. -/
theorem owns_other {w w' : World} {base e n : Nat} {v u : Value} {vs : List Value} (h : w.ownsRow base e 1 v n vs) (hkeep : ∀ k, k < w.heap.size → u.ownBlock ≠ some k → w'.heap[k]? = w.heap[k]?) (ha : Apart v u) : w'.ownsRow base e 1 v n vs := by
  have hl := h.lt
  obtain ⟨h1, h2 | ⟨g, cap, cur, e1, e2, hh, r⟩⟩ := h
  · exact ⟨h1, .inl h2⟩
  · subst e1
    exact ⟨h1, .inr ⟨g, cap, cur, rfl, e2, (hkeep g (hl g rfl).2 (ha g rfl)).trans hh, r⟩⟩
theorem apart_new {w w' : World} {base e n : Nat} {v u u' : Value} {vs : List Value} (h : w.ownsRow base e 1 v n vs) (hn : ∀ k, u'.ownBlock = some k → (u.ownBlock = some k ∨ k = w.heap.size) ∧ k < w'.heap.size) (ha : Apart v u) : Apart v u' := by
  intro k hk hu
  rcases (hn k hu).1 with c | c
  · exact ha k hk c
  · have := (h.lt k hk).2
    omega
/-- As wpList_append_u, and it tells what stays. -/
theorem wpList_append_x {ops : Array Oper} {rest : List Oper} {o : Oper} {a : Act} {w : World} {Q : Exit → Act → World → Prop} (hgd : o.guard = none) (s x : Operand) (t : TypeId)
    (ho : o.op = .call { callee := .builtin .append, args := #[s, x], argTypes := #[t, t] })
    (base : Nat) (e : TypeId) (i : TypeInfo) (z : Value) (bytes : Nat) (ht : Try.prog.underlying t = some (.slice e)) (hi : Try.prog.info? e = some i) (hz : i.zero = some z)
    (hsize : i.size = 1) (hby : i.bytes = bytes) (hzs : z.cells.size = 1)
    (v : Value) (n : Nat) (vs : List Value) (hs : a.eval s = v) (hown : w.ownsRow base e 1 v n vs)
    (xa : Option Addr) (m c : Nat) (news : List Value) (hx : a.eval x = .slice xa m c) (hl : news.length = m) (hsrc : 0 < m → ∃ ad, xa = some ad ∧ ∀ j u, news[j]? = some u → w.cell? (ad.add j) = some u) (h1 : ∀ u ∈ news, u.oneCell' = true)
    (h63 : n + m ≤ maxLen) (hbytes : (n + m) * bytes ≤ 140737488355328) (hbase : base ≤ w.heap.size)
    (h : ∀ ao cap w', w'.ownsRow base e 1 (.slice ao (n + m) cap) (n + m) (vs ++ news) → n + m ≤ cap → Below base w w' → (∀ k, (Value.slice ao (n + m) cap).ownBlock = some k → (v.ownBlock = some k ∨ k = w.heap.size) ∧ k < w'.heap.size) → (∀ k, k < w.heap.size → v.ownBlock ≠ some k → w'.heap[k]? = w.heap[k]?) → w.heap.size ≤ w'.heap.size → wpList Try.prog ops Q rest (a.put o.dst (.slice ao (n + m) cap)) w') : wpList Try.prog ops Q (o :: rest) a w :=
  wpList_plain hgd fun K hK => by
    have hw : Region.wanted o (yielded ops a.tmps) = true := by simp [Region.wanted, hgd]
    have := step_append_u (ops := ops) (o := o) (a := a) (w := w) (K := K) (Q := Q) (E := True) hgd s x t ho base e i z bytes ht hi hz hsize hby hzs v n vs hs hown xa m c news hx hl hsrc h1 h63 hbytes hbase (fun ao cap w' h1 h2 h3 h4 h5 h6 => hK _ _ (h ao cap w' h1 h2 h3 h4 h5 h6))
    rw [if_pos hw] at this
    exact this
end Ap
end Go.Proofs.Ytcjhiolginpgoaa
