/-
  Ends sorted by their pairs of names.
-/
import Derived.Test.YtojjinjgmijgcaaTg
import Derived.Test.YtojjinjgmijgcaaTs
namespace Go.Proofs.Ytojjinjgmijgcaa
open Go.RowKit
set_option linter.unusedVariables false
set_option linter.unusedSimpArgs false
set_option maxRecDepth 100000

namespace Su
/-- One pair is ahead of another. -/
def pl (a b : Nat → Nat) (x y : Nat) : Prop := a x < a y ∨ a x = a y ∧ b x < b y
theorem pl_irr (a b : Nat → Nat) (x : Nat) : ¬ pl a b x x := by unfold pl; omega
theorem pl_tr {a b : Nat → Nat} {x y z : Nat} (h1 : pl a b x y) (h2 : pl a b y z) : pl a b x z := by unfold pl at *; omega
theorem pl_ntr {a b : Nat → Nat} {x y z : Nat} (h1 : ¬ pl a b x y) (h2 : ¬ pl a b y z) : ¬ pl a b x z := by unfold pl at *; omega
end Su
theorem cmpP_lt (a b : Nat → Nat) (x y : Nat) : cmpP a b x y < 0 ↔ Su.pl a b x y := by
  unfold cmpP Su.pl
  simp only [cmpZ]
  by_cases h1 : a x < a y
  · rw [if_pos (by omega)]; omega
  · rw [if_neg (by omega)]
    by_cases h2 : a y < a x
    · rw [if_pos (by omega)]; omega
    · rw [if_neg (by omega)]
      by_cases h3 : b x < b y
      · rw [if_pos (by omega)]; omega
      · rw [if_neg (by omega)]
        by_cases h4 : b y < b x
        · rw [if_pos (by omega)]; omega
        · rw [if_neg (by omega)]; omega
/-- A place as a value. -/
def ef {m : Nat} (i : Fin (m + 1)) : Value := .int .i64 ((i.val : Nat) : Int)
def cfP {m : Nat} (a b : Nat → Nat) (x y : Fin (m + 1)) : Int := cmpP a b x.val y.val
theorem lt_cfP {m : Nat} (a b : Nat → Nat) (x y : Fin (m + 1)) : Go.Proofs.ltOf (cfP a b) x y = true ↔ Su.pl a b x.val y.val := by
  unfold Go.Proofs.ltOf cfP
  rw [decide_eq_true_eq, cmpP_lt]
theorem swo_cfP {m : Nat} (a b : Nat → Nat) : Sort.SWO (Go.Proofs.ltOf (cfP (m := m) a b)) where
  irrefl x := by
    rw [← Bool.not_eq_true, lt_cfP]
    exact Su.pl_irr a b _
  trans x y z h1 h2 := by
    rw [lt_cfP] at *
    exact Su.pl_tr h1 h2
  ntrans x y z h1 h2 := by
    rw [← Bool.not_eq_true, lt_cfP] at *
    exact Su.pl_ntr h1 h2
/-- Places as numbers. -/
def fv {m : Nat} (L : List (Fin (m + 1))) : List Nat := L.map fun i => i.val
theorem length_fv {m : Nat} (L : List (Fin (m + 1))) : (fv L).length = L.length := by simp [fv]
theorem iv_fv {m : Nat} (L : List (Fin (m + 1))) (i : Nat) (h : i < L.length) : (iv (fv L))[i]? = some (ef L.toArray[i]!) := by
  unfold iv fv
  rw [List.getElem?_map, List.getElem?_map, List.getElem?_eq_getElem h, getElem!_pos L.toArray i (by simpa using h), List.getElem_toArray]
  rfl
theorem sortw_blk {m : Nat} {w : World} {g n k : Nat} {d : Array (Fin (m + 1))} {os : Array Obj} (hk : k ≠ g) (hl : k < w.heap.size) : (sortWorld ef w g 0 n d os).heap[k]? = w.heap[k]? := by
  unfold sortWorld Sort.putRow Sort.mapBlock Sort.grow Sort.ahead
  simp only
  rw [Array.getElem?_append_left (by simpa using hl), Array.getElem?_modify, if_neg (fun e => hk e.symm)]
theorem sortw_sz {m : Nat} {w : World} {g n : Nat} {d : Array (Fin (m + 1))} {os : Array Obj} : w.heap.size ≤ (sortWorld ef w g 0 n d os).heap.size := by
  unfold sortWorld Sort.putRow Sort.mapBlock Sort.grow Sort.ahead
  simp
theorem sortw_cel {m : Nat} {w : World} {g n : Nat} {L : List (Fin (m + 1))} {d : Array (Fin (m + 1))} {os : Array Obj} (h : Cel w g (iv (fv L)) 3) (hs : d.size = L.length) : Cel (sortWorld ef w g 0 n d os) g (iv (fv d.toList)) 3 := by
  have hl := h.lt
  unfold Cel at h ⊢
  unfold sortWorld Sort.putRow Sort.mapBlock Sort.grow Sort.ahead
  simp only
  rw [Array.getElem?_append_left (by simpa using hl), Array.getElem?_modify, if_pos rfl, h]
  simp only [Option.map_some, Sort.onCells]
  congr 2
  unfold Sort.putCells
  apply Array.ext_getElem?
  intro i
  rw [Array.getElem?_mapIdx, List.getElem?_toArray, List.getElem?_toArray]
  by_cases c : i < L.length
  · rw [iv_fv L i c, iv_fv d.toList i (by simpa [hs] using c)]
    simp only [Option.map_some]
    rw [if_pos ⟨Nat.zero_le _, by omega⟩]
    rfl
  · rw [List.getElem?_eq_none (by rw [length_iv, length_fv]; omega), List.getElem?_eq_none (by rw [length_iv, length_fv]; simp [hs]; omega)]
    rfl
theorem sortw_below {m : Nat} {w : World} {g n base : Nat} {d : Array (Fin (m + 1))} {os : Array Obj} (hb : base ≤ g) (hz : base ≤ w.heap.size) : Below base w (sortWorld ef w g 0 n d os) := by
  refine ⟨rfl, rfl, rfl, sortw_sz, fun k hk => sortw_blk (by omega) (by omega)⟩
theorem sortw_keep {m : Nat} {w : World} {g n b : Nat} {d : Array (Fin (m + 1))} {os : Array Obj} {cs : List Value} {T : TypeId} (h : Cel w b cs T) (hb : b ≠ g) : Cel (sortWorld ef w g 0 n d os) b cs T := (sortw_blk hb h.lt).trans h
theorem ext_all {α : Type} (d : Array α) (n : Nat) (h : d.size = n) : d.extract 0 n = d := by subst h; simp
set_option maxHeartbeats 2000000 in
theorem ssort_c (m ge gb gp cap : Nat) (L : List (Fin (m + 1))) (a b : Nat → Nat) (w : World) (he : Cel w ge (iv (fv L)) 3) (hb : Cel w gb [.slice (some ⟨gp, 0, none⟩) (m + 1) (m + 1)] 54) (hp : Cel w gp (pq (m + 1) a b (m + 1)) 59) (n1 : gb ≠ ge) (n2 : gp ≠ ge) (hm : m ≤ 8192) (hL : L.length = m + 1) :
    Calls Try.prog 28 #[.slice (some ⟨ge, 0, none⟩) (m + 1) cap, .func (.func 29) #[] #[.pointer (some ⟨gb, 0, none⟩)]] w fun e w' => e = .returned (.tuple #[]) ∧ ∃ L' : List (Fin (m + 1)), L'.Perm L ∧ L'.Pairwise (fun x y => ¬ Su.pl a b y.val x.val) ∧ Cel w' ge (iv (fv L')) 3 ∧ Cel w' gb [.slice (some ⟨gp, 0, none⟩) (m + 1) (m + 1)] 54 ∧ Cel w' gp (pq (m + 1) a b (m + 1)) 59 ∧ (∀ base, base ≤ ge → base ≤ w.heap.size → Below base w w') := by
  have hH : Sort.Holds ef w ge 0 L.toArray := fun j hj => by
    rw [List.size_toArray] at hj
    rw [Nat.zero_add]
    exact ⟨he.cell j (iv_fv L j hj), he.frozen j⟩
  have eg : ∀ args w, (callFunc 29 args).run Try.prog w = .ok (.enter 29 args) w := enters_of Try.func29 (by kernel_rfl) rfl
  have hr : CmpReads Try.prog 29 #[.pointer (some ⟨gb, 0, none⟩)] ef (cfP a b) ge 0 L.toArray.size w := fun k os dk hk x y => sclo_c gb gp (m + 1) a b x.val y.val _ ((sortw_keep hb n1).cell 0 rfl) (sortw_keep hp n2) x.isLt y.isLt (by omega)
  have hc := Any.slices_SortFunc sortInt ef (fun _ => rfl) (cfP a b) (swo_cfP a b) 29 #[.pointer (some ⟨gb, 0, none⟩)] ge 0 cap L.toArray w eg hr.lays hH he.lt (by simp; omega)
  rw [List.size_toArray, hL] at hc
  refine Calls.mono (show Calls Try.prog 28 _ _ _ from hc) ?_
  rintro e w' ⟨rfl, d', k, os, hp1, hs, rfl⟩
  have e1 : d'.size = L.length := by simpa using hp1.1
  refine ⟨rfl, d'.toList, ?_, ?_, sortw_cel he e1, sortw_keep hb n1, sortw_keep hp n2, fun base h1 h2 => sortw_below h1 h2⟩
  · have := hp1.2.2
    rw [ext_all L.toArray (m + 1) (by simpa using hL), ext_all d' (m + 1) (by omega)] at this
    simpa using this
  · rw [List.pairwise_iff_getElem]
    intro i j hi hj hij
    have hj2 : j < d'.size := by simpa using hj
    have := hs i j (Nat.zero_le _) hij (by omega)
    rw [← Bool.not_eq_true, lt_cfP] at this
    rw [getElem!_pos d' j (by simpa using hj), getElem!_pos d' i (by simpa using hi)] at this
    exact this
end Go.Proofs.Ytojjinjgmijgcaa
