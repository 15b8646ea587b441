/-
  The contract of the program's Next at the end of a row. Plain: the counts of the statements' heads: their lengths and codes. The contract of the statements' heads. Arguments of the statements opened: numbers, bytes. Plain: a text's symbols put one behind the other by their codes: where each stands, how long it all is; bytes that are handed in.
-/
import Derived.Test.YtcjhiolginpgoaaM17
import Derived.Test.YtcjhiolginpgoaaM16
import Derived.Test.YtcjhiolginpgoaaM15
import Derived.Test.YtcjhiolginpgoaaM04
import Derived.ChangeOld
namespace Go.Proofs.Ytcjhiolginpgoaa
open Go.RowKit Num Bit Ji Hp Ka Hr
set_option linter.unusedVariables false
set_option linter.unusedSimpArgs false
set_option maxRecDepth 100000

set_option maxHeartbeats 4000000 in
theorem jnext_short (g cap : Nat) (v : Nat → Nat) (N : Nat) (B : Nat → Bool) (ao : Option Addr) (n cap2 : Nat) (w : World) (hC : Cel w g (cds v) 33) (hv : Lok v) (hW : Wd w ao (rowOf N B)) (hn : n = (rowOf N B).length) (hN : N ≤ 1048576) :
    Calls Try.prog 18 #[.slice (some ⟨g, 0, none⟩) 256 cap, .agg #[.int .i64 (N : Nat), .slice ao n cap2], .int .i64 (N : Nat)] w fun e w' => e = .returned (.tuple #[.int .i64 0, .int .i64 0, .int .i64 160]) ∧ Below w.heap.size w w' := by
  subst hn
  have hk := chk_rowOf N B hN
  have CC := hide (fun w0 (hb : Below w.heap.size w w0) => jcanon_c g cap v w0 (hC.keep hb hC.lt) hv)
  have CK : Hid (∀ w0, Below w.heap.size w w0 → Calls Try.prog 32 #[.agg #[.int .i64 (N : Nat), .slice ao (rowOf N B).length cap2]] w0 fun e w' => e = .returned (.bool true) ∧ Below w0.heap.size w0 w') := fun w0 hb => by
    have := check_c (N : Nat) ao (rowOf N B) cap2 w0 (hW.keep hb)
    rw [hk] at this
    exact this
  have CG : Hid (∀ (w0 : World), Below w.heap.size w w0 → Calls Try.prog 34 #[.agg #[.int .i64 (N : Nat), .slice ao (rowOf N B).length cap2], .int .i64 (N : Nat)] w0 fun e w' => e = .returned (.tuple #[.bool false, .int .i64 3]) ∧ Below w0.heap.size w0 w') := fun w0 hb => by
    have := get_c (N : Nat) ao (rowOf N B) cap2 (N : Nat) w0 (hW.keep hb) (fit_rowOf _ _)
    have e1 : getE (N : Nat) (rowOf N B) (N : Nat) = 3 := by unfold getE; rw [if_neg (by rw [hk]; simp), if_pos (by omega)]
    have e2 : getB (N : Nat) (rowOf N B) (N : Nat) = false := by
      unfold getB
      rw [decide_eq_false (show ¬ (0 ≤ ((N : Nat) : Int) ∧ ((N : Nat) : Int) < (N : Nat)) by omega)]
      simp
    rw [e1, e2] at this
    exact this
  clear hC hv hW hk
  generalize (rowOf N B).length = n at *
  have HB0 := hide (below_alloc w (.cells #[.int .i64 (N : Nat), .slice ao n cap2] 45))
  have HX0 := hide (Cel.new w [.int .i64 (N : Nat), .slice ao n cap2] 45)
  go_enter Try.func18, Try.ntmps18
  go_wp2_with fail
  refine wp_scope_labels (fun l a' w' => False) (fun l a' _ => 0) ?_ (fun l a' w' h => h.elim)
  have c0 := HX0.out.cell 0 rfl
  have c1 := HX0.out.cell 1 rfl
  go_wp2_with fail
  refine (CC.out _ HB0.out).mono ?_
  rintro e w1 ⟨rfl, hb1⟩
  have HX1' := hide (HX0.out.kept hb1)
  have HB1' := hide (HB0.out.trans (hb1.mono HB0.out.size))
  clear hb1 c0 c1
  have c0 := HX1'.out.cell 0 rfl
  have c1 := HX1'.out.cell 1 rfl
  go_wp2_with fail
  refine (CK.out _ HB1'.out).mono ?_
  rintro e w2 ⟨rfl, hb2⟩
  have HX2' := hide (HX1'.out.kept hb2)
  have HB2' := hide (HB1'.out.trans (hb2.mono HB1'.out.size))
  clear hb2 c0 c1 HX1' HB1' HX0 HB0 CC CK
  have HBX := hide (HX2'.out.alloc (.cells #[.int .i64 0, .int .u64 0] 33))
  have HBB := hide (HB2'.out.alloc HB2'.out.size (.cells #[.int .i64 0, .int .u64 0] 33))
  have c0 := HX2'.out.cell 0 rfl
  have c1 := HX2'.out.cell 1 rfl
  have az : ¬ ((N : Nat) : Int) < 0 := by omega
  have az2 : ¬ ((N : Nat) : Int) < ((N : Nat) : Int) := by omega
  have b0 := HBX.out.cell 0 rfl
  have b1 := HBX.out.cell 1 rfl
  go_wp2_with fail
  clear c0 c1 HX2' HB2'
  generalize w2.alloc (.cells #[.int .i64 0, .int .u64 0] 33) = W at *
  go_step3
  go_wp2_with fail
  refine (CG.out _ HBB.out).mono ?_
  rintro e w3 ⟨rfl, hb3⟩
  have HB3 := hide (HBB.out.trans (hb3.mono HBB.out.size))
  clear hb3
  go_wp2
  simp only [Exit.jumpS]
  go_ret3
  exact ⟨rfl, HB3.out⟩
end Go.Proofs.Ytcjhiolginpgoaa

namespace Go.Proofs.Ytcjhiolginpgoaa
open Go.RowKit Num Bit Ji Hp Ka Hr
set_option linter.unusedVariables false
set_option maxRecDepth 100000

def hl0 : List Nat := (((List.replicate 256 0).set 97 3).set 98 1).set 99 1
def hlI : List Int := hl0.map fun n : Nat => (n : Int)
theorem hu : used (cntOf hlI) 256 = [97, 98, 99] := by decide +kernel
theorem hv97 : hlen (cntOf hlI) 256 97 = 1 := by decide +kernel
theorem hv98 : hlen (cntOf hlI) 256 98 = 2 := by decide +kernel
theorem hv99 : hlen (cntOf hlI) 256 99 = 2 := by decide +kernel
theorem hwin : win hlI 1048576 = true := by decide +kernel

theorem nd_cel {w : World} {g : Nat} {ys : List Nat} (h : Cel w g (ivh ys) 3) : Nd w (some ⟨g, 0, none⟩) (ys.map fun n : Nat => (n : Int)) := fun _ => by
  refine ⟨g, 0, rfl, h.lt, fun i hi => ?_⟩
  have hi : i < ys.length := by simpa using hi
  rw [Nat.zero_add, h.cell i (ivh_get _ i hi)]
  unfold gi
  rw [List.getD_eq_getElem?_getD, List.getD_eq_getElem?_getD, List.getElem?_map, List.getElem?_eq_getElem hi]
  rfl
/-- The lengths of counts may be. -/
theorem lok_hlen (l : List Int) (h : win l 1048576 = true) : Lok (hlen (cntOf l) 256) := by
  obtain ⟨h1, h2⟩ := win_len h
  obtain ⟨f1, f2, _⟩ := hlen_fit (cntOf l) (cnt_le h2)
  exact ⟨f2, fun c hc => hlen_none _ c (fun g => by have := (mem_used.1 g).1; omega), f1⟩
theorem hls_lst (l : List Int) : (hls l).map (fun n : Nat => (n : Int)) = lst (hlen (cntOf l) 256) := by
  unfold hls lst
  rw [List.map_map]
  rfl
theorem nd_hls {w : World} {g : Nat} {l : List Int} (h : Cel w g (ivh (hls l)) 3) : Nd w (some ⟨g, 0, none⟩) (lst (hlen (cntOf l) 256)) := by
  have := nd_cel h
  rw [hls_lst] at this
  exact this
/-- Codes of such lengths. -/
theorem jcodes_hls (g : Nat) (l : List Int) (w : World) (h : Cel w g (ivh (hls l)) 3) (hw : win l 1048576 = true) :
    Calls Try.prog 10 #[.slice (some ⟨g, 0, none⟩) 256 256] w fun e w' => CO w (hlen (cntOf l) 256) e w' := by
  have hv := lok_hlen l hw
  have := jcodes_c (some ⟨g, 0, none⟩) (lst (hlen (cntOf l) 256)) 256 w (nd_hls h) (by rw [length_lst]; omega) (lok_lst hv)
  rw [length_lst, cnt_lst hv.out] at this
  exact this
theorem hcell {w : World} {g : Nat} {l : List Int} (h : Cel w g (ivh (hls l)) 3) (c : Nat) (hc : c < 256) : w.cell? ⟨g, c, none⟩ = some (.int .i64 (hlen (cntOf l) 256 c : Nat)) := by
  have := h.cell c (ivh_get _ c (by simp [hls]; omega))
  rw [this]
  unfold hls
  rw [List.getD_eq_getElem?_getD, List.getElem?_map, List.getElem?_range hc]
  rfl
/-- The codes of the heads. -/
theorem hcode (c : Nat) : cod (hlen (cntOf hlI) 256) c = cod (hlen (cntOf hlI) 256) c := rfl
theorem vrest (c : Nat) (h : c ≠ 97 ∧ c ≠ 98 ∧ c ≠ 99) : hlen (cntOf hlI) 256 c = 0 := hlen_none _ c (fun g => by
  rw [hu] at g
  simp at g
  omega)
def vv (c : Nat) : Nat := if c = 97 then 1 else if c = 98 then 2 else if c = 99 then 2 else 0
theorem vv_eq : hlen (cntOf hlI) 256 = vv := by
  funext c
  unfold vv
  by_cases h1 : c = 97
  · subst h1; rw [if_pos rfl, hv97]
  · by_cases h2 : c = 98
    · subst h2; rw [if_neg (by omega), if_pos rfl, hv98]
    · by_cases h3 : c = 99
      · subst h3; rw [if_neg (by omega), if_neg (by omega), if_pos rfl, hv99]
      · rw [if_neg h1, if_neg h2, if_neg h3, vrest c ⟨h1, h2, h3⟩]
theorem k97 : cod vv 97 = 0 := by decide +kernel
theorem k98 : cod vv 98 = 2 := by decide +kernel
theorem k99 : cod vv 99 = 3 := by decide +kernel
theorem k99' : code vv 256 99 = 3 := by decide +kernel
theorem hcost : costv hlI (lst vv) = 7 := by decide +kernel
theorem hlI_eq : hl0.map (fun n : Nat => (n : Int)) = hlI := rfl
end Go.Proofs.Ytcjhiolginpgoaa

namespace Go.Proofs.Ytcjhiolginpgoaa
open Go.RowKit Num Bit Ji Hp Ka Hr
set_option linter.unusedVariables false
set_option linter.unusedSimpArgs false
set_option maxRecDepth 100000

set_option maxHeartbeats 8000000 in
theorem jheads_c (w : World) : Calls Try.prog 8 #[] w fun e w' => e = .returned (.bool true) ∧ Below w.heap.size w w' := by
  obtain ⟨i0, hi, hz0, hz1, hz2⟩ := info_parts info_i64
  have HV : Hid (Lok vv) := by have := lok_hlen hlI hwin; rw [vv_eq] at this; exact this
  have CL : Hid (∀ (g : Nat) (w0 : World), Cel w0 g (ivh hl0) 3 → Calls Try.prog 9 #[.slice (some ⟨g, 0, none⟩) 256 256] w0 fun e w' => LO w0 (hls hlI) e w') := fun g w0 h => jlen_c (some ⟨g, 0, none⟩) hlI 256 w0 (nd_cel h) (by decide) hwin
  have CD : Hid (∀ (g : Nat) (w0 : World), Cel w0 g (ivh (hls hlI)) 3 → Calls Try.prog 10 #[.slice (some ⟨g, 0, none⟩) 256 256] w0 fun e w' => CO w0 vv e w') := fun g w0 h => by
    have := jcodes_hls g hlI w0 h hwin
    rw [vv_eq] at this
    exact this
  have CP : Hid (∀ (w0 : World), Calls Try.prog 17 #[.agg #[.int .i64 0, .slice none 0 0], .agg #[.int .i64 2, .int .u64 3]] w0 fun e w' => ∃ bo dap, e = .returned (.tuple #[.agg #[.int .i64 2, .slice bo (rowOf 2 (putB 0 (fun _ => false) 3 2)).length dap], .int .i64 0]) ∧ OutF w0 w' bo (rowOf 2 (putB 0 (fun _ => false) 3 2)) dap) := fun w0 => jput_c 0 2 3 (fun _ => false) none 0 0 w0 rfl (fun h => absurd h (by simp [rowOf])) (by decide) (by decide) (by decide) (by decide)
  have CN : Hid (∀ (g : Nat) (bo : Option Addr) (dap : Nat) (w0 : World), Cel w0 g (cds vv) 33 → Wd w0 bo (rowOf 2 (putB 0 (fun _ => false) 3 2)) → Calls Try.prog 18 #[.slice (some ⟨g, 0, none⟩) 256 256, .agg #[.int .i64 2, .slice bo (rowOf 2 (putB 0 (fun _ => false) 3 2)).length dap], .int .i64 0] w0 fun e w' => e = .returned (.tuple #[.int .i64 99, .int .i64 2, .int .i64 0]) ∧ Below w0.heap.size w0 w') := fun g bo dap w0 hc hw => jnext_c g 256 vv 2 0 99 (putB 0 (fun _ => false) 3 2) bo _ dap w0 hc HV.out hw rfl (by decide) (by decide) (by decide) (by decide) (fun i hi => by
    rw [k99']
    unfold putB
    rw [if_neg (by omega)]
    congr 1
    have : vv 99 = 2 := rfl
    omega)
  have CS : Hid (∀ (g : Nat) (bo : Option Addr) (dap : Nat) (w0 : World), Cel w0 g (cds vv) 33 → Wd w0 bo (rowOf 2 (putB 0 (fun _ => false) 3 2)) → Calls Try.prog 18 #[.slice (some ⟨g, 0, none⟩) 256 256, .agg #[.int .i64 2, .slice bo (rowOf 2 (putB 0 (fun _ => false) 3 2)).length dap], .int .i64 2] w0 fun e w' => e = .returned (.tuple #[.int .i64 0, .int .i64 0, .int .i64 160]) ∧ Below w0.heap.size w0 w') := fun g bo dap w0 hc hw => jnext_short g 256 vv 2 (putB 0 (fun _ => false) 3 2) bo _ dap w0 hc HV.out hw rfl (by decide)
  have CT : Hid (∀ (g1 g2 : Nat) (w0 : World), Cel w0 g1 (ivh hl0) 3 → Cel w0 g2 (ivh (hls hlI)) 3 → Calls Try.prog 15 #[.slice (some ⟨g1, 0, none⟩) 256 256, .slice (some ⟨g2, 0, none⟩) 256 256] w0 fun e w' => e = .returned (.int .i64 7) ∧ Below w0.heap.size w0 w') := fun g1 g2 w0 h1 h2 => by
    have := jcost_c (some ⟨g1, 0, none⟩) hlI 256 (some ⟨g2, 0, none⟩) (lst vv) 256 w0 (nd_cel h1) (by have := nd_hls h2; rw [vv_eq] at this; exact this) (by decide) (by rw [length_lst]; omega)
    rw [hcost, length_lst] at this
    exact this
  go_enter Try.func8, Try.ntmps8
  go_wp2_with (at_make; refine wpList_make_full _ rfl _ _ 22 rfl w.heap.size 3 i0 (.int .i64 0) 1 Try.underlying22 hi hz0 hz1 .i64 .i64 _ _ 256 rfl rfl rfl rfl ?b2 ?b3 ?b4 ?_)
  case b3 => unfold maxLen; omega
  intro w1 hown hgr
  have B1 := cel_made1 hown
  have hb1 : Below w.heap.size w w1 := (Below.refl _ _).grown hgr (Nat.le_refl _) (fun k h => by cases h)
  have n97 := B1.cell 97 (ivh_get _ 97 (by decide))
  have n98 := B1.cell 98 (ivh_get _ 98 (by decide))
  have n99 := B1.cell 99 (ivh_get _ 99 (by decide))
  have f97 := B1.frozen 97
  have f98 := B1.frozen 98
  have f99 := B1.frozen 99
  have HC1 : Hid (Cel (((w1.setCell ⟨w.heap.size, 97, none⟩ (.int .i64 3)).setCell ⟨w.heap.size, 98, none⟩ (.int .i64 1)).setCell ⟨w.heap.size, 99, none⟩ (.int .i64 1)) w.heap.size (ivh hl0) 3) := by
    have := ((B1.set 97 (.int .i64 (3 : Nat))).set 98 (.int .i64 (1 : Nat))).set 99 (.int .i64 (1 : Nat))
    rw [ivh_set, ivh_set, ivh_set] at this
    exact this
  have HB1 : Hid (Below w.heap.size w (((w1.setCell ⟨w.heap.size, 97, none⟩ (.int .i64 3)).setCell ⟨w.heap.size, 98, none⟩ (.int .i64 1)).setCell ⟨w.heap.size, 99, none⟩ (.int .i64 1))) := ((hb1.setCell (Nat.le_refl _) _).setCell (Nat.le_refl _) _).setCell (Nat.le_refl _) _
  clear hown hgr hb1 hi hz0 hz1 hz2 B1
  go_wp2_with fail
  clear n97 n98 n99 f97 f98 f99
  generalize ((w1.setCell ⟨w.heap.size, 97, none⟩ (.int .i64 3)).setCell ⟨w.heap.size, 98, none⟩ (.int .i64 1)).setCell ⟨w.heap.size, 99, none⟩ (.int .i64 1) = W at *
  obtain ⟨gA, hgA⟩ : ∃ gA, Hid (gA = w.heap.size) := ⟨_, rfl⟩
  rw [← hgA.out] at HC1 ⊢
  refine (CL.out gA W HC1.out).mono ?_
  rintro e w2 ⟨gl, rfl, cl2, hgl, hb2⟩
  have HA2 := hide (HC1.out.kept hb2)
  have HL2 := hide cl2
  have HB2 := hide (HB1.out.trans (hb2.mono HB1.out.size))
  clear cl2 hgl hb2 HC1 HB1
  go_wp2_with fail
  refine (CD.out gl w2 HL2.out).mono ?_
  rintro e w3 ⟨gc, rfl, cc3, hgc, hb3⟩
  have HA3 := hide (HA2.out.kept hb3)
  have HL3 := hide (HL2.out.kept hb3)
  have HC3 := hide cc3
  have HB3 := hide (HB2.out.trans (hb3.mono HB2.out.size))
  clear cc3 hgc hb3 HA2 HL2 HB2
  have m0 : w3.cell? ⟨gc, 99 * 2, none⟩ = some (.int .i64 2) := HC3.out.cell (99 * 2) (cds_fst vv 99 (by decide))
  have m1 : w3.cell? ⟨gc, 99 * 2 + 1, none⟩ = some (.int .u64 3) := by have := HC3.out.cell (99 * 2 + 1) (cds_snd vv 99 (by decide)); rw [k99] at this; exact this
  have m0' : w3.cell? ⟨gc, 198, none⟩ = some (.int .i64 2) := m0
  have m1' : w3.cell? ⟨gc, 199, none⟩ = some (.int .u64 3) := m1
  go_wp2_with fail
  refine (CP.out _).mono ?_
  rintro e w4 ⟨bo, dap, rfl, o1, o2, o3, o4, o5⟩
  have HA4 := hide (HA3.out.kept o5)
  have HL4 := hide (HL3.out.kept o5)
  have HC4 := hide (HC3.out.kept o5)
  have HW4 := hide o1
  have HB4 := hide (HB3.out.trans (o5.mono HB3.out.size))
  clear o1 o2 o3 o4 o5 HA3 HL3 HC3 HB3 m0 m1 m0' m1'
  generalize hys : rowOf 2 (putB 0 (fun _ => false) 3 2) = ys at *
  have k5 := below_alloc w4 (.cells #[.int .i64 2, .slice bo ys.length dap] 45)
  have HA5 := hide (HA4.out.kept k5)
  have HL5 := hide (HL4.out.kept k5)
  have HC5 := hide (HC4.out.kept k5)
  have HW5 := hide (HW4.out.keep k5)
  have HB5 := hide (HB4.out.trans (k5.mono HB4.out.size))
  have HX5 := hide (Cel.new w4 [.int .i64 2, .slice bo ys.length dap] 45)
  clear HA4 HL4 HC4 HW4 HB4 k5
  go_wp2_with fail
  generalize w4.alloc (.cells #[.int .i64 2, .slice bo ys.length dap] 45) = w5 at *
  refine (CN.out gc bo dap w5 HC5.out HW5.out).mono ?_
  rintro e w6 ⟨rfl, hb6⟩
  have HA6 := hide (HA5.out.kept hb6)
  have HL6 := hide (HL5.out.kept hb6)
  have HC6 := hide (HC5.out.kept hb6)
  have HW6 := hide (HW5.out.keep hb6)
  have HB6 := hide (HB5.out.trans (hb6.mono HB5.out.size))
  have HX6 := HX5.out.kept hb6
  have x0 := HX6.cell 0 rfl
  have x1 := HX6.cell 1 rfl
  clear hb6 HA5 HL5 HC5 HW5 HB5 HX5
  go_wp2_with fail
  refine (CS.out gc bo dap w6 HC6.out HW6.out).mono ?_
  rintro e w7 ⟨rfl, hb7⟩
  have HA7 := hide (HA6.out.kept hb7)
  have HL7 := hide (HL6.out.kept hb7)
  have hC7 := HC6.out.kept hb7
  have HB7 := hide (HB6.out.trans (hb7.mono HB6.out.size))
  clear hb7 HA6 HL6 HC6 HW6 HB6 HX6 x0 x1
  have l97 := hcell HL7.out 97 (by decide)
  have l98 := hcell HL7.out 98 (by decide)
  rw [hv97] at l97
  rw [hv98] at l98
  have c97 : w7.cell? ⟨gc, 195, none⟩ = some (.int .u64 0) := by have := hC7.cell (97 * 2 + 1) (cds_snd vv 97 (by decide)); rw [k97] at this; exact this
  have c98 : w7.cell? ⟨gc, 197, none⟩ = some (.int .u64 2) := by have := hC7.cell (98 * 2 + 1) (cds_snd vv 98 (by decide)); rw [k98] at this; exact this
  have c99 : w7.cell? ⟨gc, 199, none⟩ = some (.int .u64 3) := by have := hC7.cell (99 * 2 + 1) (cds_snd vv 99 (by decide)); rw [k99] at this; exact this
  clear hC7
  go_wp2_with fail
  refine (CT.out gA gl w7 HA7.out HL7.out).mono ?_
  rintro e w8 ⟨rfl, hb8⟩
  have HB8 := hide (HB7.out.trans (hb8.mono HB7.out.size))
  clear hb8
  go_wp2
  go_ret
  exact ⟨rfl, HB8.out⟩
end Go.Proofs.Ytcjhiolginpgoaa

namespace Go.Proofs.Ytcjhiolginpgoaa
open Go.ChangeShapes Go.WideShapes Go.ChangeAt Go.RowKit Num Bit
set_option maxRecDepth 100000

theorem open_isl {H : Type} {enc : TypeId × Value → H} {W : World} {base : Nat} {v : Value} {d : DataW H} {p : List MemPlace} (hv : Value.okWide Try.prog W .any base 22 v) (h : DataW.Trod enc Try.prog W 0 (fun _ => true) true 22 v d p) :
    ∃ ao l cap, v = .slice ao (List.length l) cap ∧ Nd W ao l ∧ FitI l ∧ l.length ≤ cap := by
  obtain ⟨a0, len, cap, rfl⟩ := okWide_slice Try.underlying22 hv
  obtain ⟨fuel, hf⟩ := h
  have hf2 : DataW.trod enc Try.prog W 0 (fun _ => true) true fuel 22 [.slice a0 len cap] = some (d, p) := by simpa [Value.cells] using hf
  exact open_is hf2
theorem u8_wfh (x : Int) (h : (Lit.int .u8 x).wf = true) : 0 ≤ x ∧ x < 256 := by
  simp [Lit.wf, IntKind.min, IntKind.max, IntKind.bits, IntKind.signed] at h
  omega
end Go.Proofs.Ytcjhiolginpgoaa

namespace Go.Proofs.Ytcjhiolginpgoaa
open Go.ChangeShapes Go.WideShapes Go.ChangeAt Go.RowKit Num Bit Ji Hp Ka Hr
set_option linter.unusedVariables false
set_option maxRecDepth 100000

def Byt (w : World) (ao : Option Addr) (xs : List Nat) : Prop :=
  0 < xs.length → ∃ b off, ao = some ⟨b, off, none⟩ ∧ b < w.heap.size ∧ ∀ i, i < xs.length → w.cell? ⟨b, off + i, none⟩ = some (.int .u8 (gt xs i))
def Byts (xs : List Nat) : Prop := ∀ i, i < xs.length → gt xs i < 256
theorem byt_of (w : World) (a : Addr) (len : Nat) (zs : List Int) (hl : len ≤ zs.length) (hc : ∀ i, i < zs.length → w.cell? (a.add i) = some (.int .u8 (zs.getD i 0))) (hw : ∀ n ∈ zs, (Lit.int .u8 n).wf = true) :
    ∃ xs : List Nat, xs.length = len ∧ Byt w (some a) xs ∧ Byts xs := by
  have hb : ∀ i, i < zs.length → 0 ≤ zs.getD i 0 ∧ zs.getD i 0 < 256 := by
    intro i hi
    have : zs.getD i 0 = zs[i] := by rw [List.getD_eq_getElem?_getD, List.getElem?_eq_getElem hi]; rfl
    rw [this]
    exact u8_wfh _ (hw _ (List.getElem_mem hi))
  have hg : ∀ i, i < len → (gt ((zs.take len).map Int.toNat) i : Int) = zs.getD i 0 := by
    intro i hi
    have h := hb i (by omega)
    unfold gt
    rw [List.getD_eq_getElem?_getD, List.getElem?_map, List.getElem?_take_of_lt hi, List.getElem?_eq_getElem (by omega : i < zs.length)]
    rw [List.getD_eq_getElem?_getD, List.getElem?_eq_getElem (by omega : i < zs.length)] at h ⊢
    simp only [Option.map_some, Option.getD_some] at h ⊢
    omega
  have hlen : ((zs.take len).map Int.toNat).length = len := by simp; omega
  refine ⟨(zs.take len).map Int.toNat, hlen, ?_, ?_⟩
  · intro h0
    obtain ⟨b, off, s⟩ := a
    have h00 : 0 < zs.length := by simp at h0; omega
    have c0 := hc 0 h00
    have k := cell_lt (show w.cell? ⟨b, off, s⟩ = _ from c0)
    obtain ⟨k1, rfl⟩ := k
    refine ⟨b, off, rfl, k1, fun i hi => ?_⟩
    have hi2 : i < len := by simp at hi; omega
    have ci := hc i (by omega)
    rw [hg i hi2, ← ci]
    unfold Addr.add
    split
    · subst_vars; rfl
    · rfl
  · intro i hi
    rw [hlen] at hi
    have h := hb i (by omega)
    have e := hg i hi
    omega
theorem Try.cells5h : Try.prog.cellsOf 5 = 1 := by kernel_rfl
theorem open_bytes {H : Type} {enc : TypeId × Value → H} {W : World} {base : Nat} {v : Value} {d : DataW H} {p : List MemPlace} (hv : Value.okWide Try.prog W .any base 42 v) (h : DataW.Trod enc Try.prog W 0 (fun _ => true) true 42 v d p) :
    ∃ ao xs cap, v = .slice ao (List.length xs) cap ∧ Byt W ao xs ∧ Byts xs ∧ xs.length ≤ cap := by
  obtain ⟨a0, len, cap, rfl⟩ := okWide_slice Try.underlying42 hv
  obtain ⟨fuel, hf⟩ := h
  have hf2 : DataW.trod enc Try.prog W 0 (fun _ => true) true fuel 42 [.slice a0 len cap] = some (d, p) := by simpa [Value.cells] using hf
  rcases open_ints Try.underlying42 Try.underlying5 Try.cells5h hf2 with ⟨hcs, _⟩ | ⟨x, l, cp, zs, hcs, _, hl, hm, hz, _, hcell, hwz⟩
  · simp at hcs
    obtain ⟨rfl, rfl, rfl⟩ := hcs
    exact ⟨none, [], 0, rfl, fun h => absurd h (by simp), (fun i hi => absurd hi (by simp)), by simp⟩
  · simp at hcs
    obtain ⟨rfl, rfl, rfl⟩ := hcs
    have hz2 : zs.length = cap := by simpa using hz
    obtain ⟨xs, hx1, hx2, hx3⟩ := byt_of W x len zs (by omega) hcell hwz
    subst hx1
    exact ⟨some x, xs, cap, rfl, hx2, hx3, hl⟩

/-- How often c stands among the first q. -/
def cq (T : List Nat) (c : Nat) : Nat → Nat
  | 0 => 0
  | q + 1 => cq T c q + (if gt T q = c then 1 else 0)
theorem cq_le (T : List Nat) (c q : Nat) : cq T c q ≤ q := by
  induction q with
  | zero => exact Nat.le_refl _
  | succ q ih => unfold cq; split <;> omega
theorem cq_mono (T : List Nat) (c : Nat) {a b : Nat} (h : a ≤ b) : cq T c a ≤ cq T c b := by
  obtain ⟨k, rfl⟩ : ∃ k, b = a + k := ⟨b - a, by omega⟩
  clear h
  induction k with
  | zero => exact Nat.le_refl _
  | succ k ih => exact Nat.le_trans ih (by show _ ≤ cq T c (a + k) + _; omega)
theorem cq_pos (T : List Nat) (q n : Nat) (h : q < n) : 0 < cq T (gt T q) n := by
  refine Nat.lt_of_lt_of_le ?_ (cq_mono T _ (show q + 1 ≤ n by omega))
  unfold cq
  rw [if_pos rfl]
  omega
/-- The counts of the first q. -/
def cts (T : List Nat) (q : Nat) : List Nat := (List.range 256).map fun c => cq T c q
theorem cts_zero (T : List Nat) : cts T 0 = List.replicate 256 0 := by
  unfold cts
  rw [List.eq_replicate_iff]
  refine ⟨by simp, fun b hb => ?_⟩
  obtain ⟨c, _, rfl⟩ := List.mem_map.1 hb
  rfl
theorem length_cts (T : List Nat) (q : Nat) : (cts T q).length = 256 := by simp [cts]
theorem cts_at (T : List Nat) (q c : Nat) (h : c < 256) : (cts T q).getD c 0 = cq T c q := by
  unfold cts
  rw [List.getD_eq_getElem?_getD, List.getElem?_map, List.getElem?_range h]
  rfl
theorem cts_step (T : List Nat) (q : Nat) (h : gt T q < 256) : (cts T q).set (gt T q) (cq T (gt T q) q + 1) = cts T (q + 1) := by
  refine List.ext_getElem? fun c => ?_
  unfold cts
  rw [List.getElem?_set, List.length_map, List.length_range]
  by_cases c2 : c < 256
  · rw [List.getElem?_map, List.getElem?_map, List.getElem?_range c2]
    by_cases e : gt T q = c
    · subst e
      rw [if_pos rfl, if_pos h]
      simp only [Option.map_some]
      show _ = some (cq T _ q + _)
      rw [if_pos rfl]
    · rw [if_neg e]
      simp only [Option.map_some]
      show _ = some (cq T c q + _)
      rw [if_neg e]
      rfl
  · rw [if_neg (by omega), List.getElem?_eq_none (by simp; omega), List.getElem?_eq_none (by simp; omega)]
def ctI (T : List Nat) (n : Nat) : List Int := (cts T n).map fun x : Nat => (x : Int)
theorem length_ctI (T : List Nat) (n : Nat) : (ctI T n).length = 256 := by simp [ctI, cts]
theorem ctI_gi (T : List Nat) (n c : Nat) (h : c < 256) : gi (ctI T n) c = (cq T c n : Int) := by
  unfold gi ctI
  rw [List.getD_eq_getElem?_getD, List.getElem?_map, List.getElem?_eq_getElem (by rw [length_cts]; exact h)]
  have := cts_at T n c h
  rw [List.getD_eq_getElem?_getD, List.getElem?_eq_getElem (by rw [length_cts]; exact h)] at this
  simp only [Option.getD_some] at this
  simp [this]
theorem ctI_win (T : List Nat) (n : Nat) (hn : n ≤ 1048576) : win (ctI T n) 1048576 = true := win_of (length_ctI T n) fun i hi => by
  rw [length_ctI] at hi
  rw [ctI_gi T n i hi]
  have := cq_le T i n
  omega
theorem ctI_cnt (T : List Nat) (n c : Nat) (h : c < 256) : cntOf (ctI T n) c = cq T c n := by
  unfold cntOf
  rw [ctI_gi T n c h, Int.toNat_natCast]
/-- Where symbol q begins. -/
def nq (v : Nat → Nat) (T : List Nat) : Nat → Nat
  | 0 => 0
  | q + 1 => nq v T q + v (gt T q)
/-- The bits when q symbols are put. -/
def bq (v : Nat → Nat) (T : List Nat) : Nat → Nat → Bool
  | 0 => fun _ => false
  | q + 1 => putB (nq v T q) (bq v T q) (cod v (gt T q)) (v (gt T q))
theorem nq_mono (v : Nat → Nat) (T : List Nat) {a b : Nat} (h : a ≤ b) : nq v T a ≤ nq v T b := by
  obtain ⟨k, rfl⟩ : ∃ k, b = a + k := ⟨b - a, by omega⟩
  clear h
  induction k with
  | zero => exact Nat.le_refl _
  | succ k ih => exact Nat.le_trans ih (by show _ ≤ nq v T (a + k) + _; omega)
theorem nq_le (v : Nat → Nat) (T : List Nat) (h : ∀ c, v c ≤ 40) (q : Nat) : nq v T q ≤ q * 40 := by
  induction q with
  | zero => exact Nat.le_refl _
  | succ q ih =>
    have := h (gt T q)
    unfold nq
    omega
theorem bq_keep (v : Nat → Nat) (T : List Nat) (q k j : Nat) (h : j < nq v T q) : bq v T (q + k) j = bq v T q j := by
  induction k with
  | zero => rfl
  | succ k ih =>
    show putB (nq v T (q + k)) (bq v T (q + k)) _ _ j = _
    unfold putB
    rw [if_pos (Nat.lt_of_lt_of_le h (nq_mono v T (by omega))), ih]
theorem bq_at (v : Nat → Nat) (T : List Nat) (q n i : Nat) (h : q < n) (hi : i < v (gt T q)) : bq v T n (nq v T q + i) = (cod v (gt T q)).testBit (v (gt T q) - 1 - i) := by
  obtain ⟨k, rfl⟩ : ∃ k, n = (q + 1) + k := ⟨n - (q + 1), by omega⟩
  rw [bq_keep v T (q + 1) k _ (by show _ < nq v T q + _; omega)]
  show putB (nq v T q) (bq v T q) _ _ _ = _
  unfold putB
  rw [if_neg (by omega)]
  congr 1
  omega
theorem tot_add (f g : Nat → Nat) (a x : Nat) (h : ∀ c, g c = f c + (if a = c then x else 0)) : ∀ k, a < k → Hv.tot g k = Hv.tot f k + x := by
  intro k
  have key : ∀ k, Hv.tot g k = Hv.tot f k + (if a < k then x else 0) := by
    intro k
    induction k with
    | zero => simp [Hv.tot]
    | succ k ih =>
      show Hv.tot g k + g k = Hv.tot f k + f k + _
      rw [ih, h k]
      rcases Nat.lt_trichotomy a k with c | c | c
      · rw [if_pos c, if_neg (show ¬ a = k by omega), if_pos (show a < k + 1 by omega)]; omega
      · subst c; rw [if_neg (Nat.lt_irrefl _), if_pos rfl, if_pos (Nat.lt_succ_self _)]; omega
      · rw [if_neg (show ¬ a < k by omega), if_neg (show ¬ a = k by omega), if_neg (show ¬ a < k + 1 by omega)]; omega
  intro hk
  rw [key k, if_pos hk]
theorem tot_nq (v : Nat → Nat) (T : List Nat) (n : Nat) (h : ∀ q, q < n → gt T q < 256) : Hv.tot (fun c => cq T c n * v c) 256 = nq v T n := by
  induction n with
  | zero =>
    have : ∀ k, Hv.tot (fun c => cq T c 0 * v c) k = 0 := by
      intro k
      induction k with
      | zero => rfl
      | succ k ih =>
        unfold Hv.tot
        rw [ih]
        show 0 + 0 * _ = 0
        omega
    exact this 256
  | succ n ih =>
    rw [tot_add (fun c => cq T c n * v c) (fun c => cq T c (n + 1) * v c) (gt T n) (v (gt T n)) (fun c => by
      show (cq T c n + _) * v c = _
      by_cases e : gt T n = c
      · subst e; rw [if_pos rfl, if_pos rfl, Nat.add_mul, Nat.one_mul]
      · rw [if_neg e, if_neg e]; rfl) 256 (h n (by omega)), ih (fun q hq => h q (by omega))]
    rfl
theorem tot_cong {f g : Nat → Nat} : ∀ {k : Nat}, (∀ c, c < k → f c = g c) → Hv.tot f k = Hv.tot g k
  | 0, _ => rfl
  | k + 1, h => by
    unfold Hv.tot
    rw [tot_cong (fun c hc => h c (by omega)), h k (by omega)]
/-- In as many bits as are told. -/
theorem cost_text (T : List Nat) (n : Nat) (hn : n ≤ 1048576) (h : ∀ q, q < n → gt T q < 256) : costv (ctI T n) (lst (hlen (cntOf (ctI T n)) 256)) = nq (hlen (cntOf (ctI T n)) 256) T n := by
  have hw := ctI_win T n hn
  have hv := lok_hlen (ctI T n) hw
  have e1 : win (lst (hlen (cntOf (ctI T n)) 256)) 40 = true := win_of (length_lst _) (fun i hi => by rw [length_lst] at hi; rw [gi_lst _ i hi]; have := hv.le i; omega)
  unfold costv
  rw [hw, e1, cnt_lst hv.out]
  rw [← tot_nq (hlen (cntOf (ctI T n)) 256) T n h]
  exact tot_cong fun c hc => by rw [ctI_cnt T n c hc]
theorem pos_text (T : List Nat) (n : Nat) (hn : n ≤ 1048576) (q : Nat) (hq : q < n) (h : gt T q < 256) : 0 < hlen (cntOf (ctI T n)) 256 (gt T q) := by
  obtain ⟨_, cb⟩ := win_len (ctI_win T n hn)
  obtain ⟨_, _, f3⟩ := hlen_fit (cntOf (ctI T n)) (cnt_le cb)
  exact (f3 _ h).2 (by rw [ctI_cnt T n _ h]; exact cq_pos T q n hq)
end Go.Proofs.Ytcjhiolginpgoaa
