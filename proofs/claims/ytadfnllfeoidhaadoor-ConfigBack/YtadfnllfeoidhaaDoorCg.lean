/-
  The contracts of the document's shape, dec and Name.
-/
import Derived.Test.YtadfnllfeoidhaaDoorCe
import Derived.Test.YtadfnllfeoidhaaDoorSf
namespace Go.Proofs.YtadfnllfeoidhaaDoor
open Go.RowKit
set_option linter.unusedVariables false
set_option linter.unusedSimpArgs false
set_option maxRecDepth 100000

namespace Co
def str (t : List Nat) : ByteArray := strOfNums (nums t)
theorem str_app (a b : List Nat) : str a ++ str b = str (a ++ b) := by
  apply ByteArray.ext
  rw [ByteArray.data_append]
  unfold str strOfNums nums
  simp
theorem str_size (a : List Nat) : (str a).size = a.length := by
  unfold str
  rw [strOfNums_size]
  simp [nums]
/-- Two texts, one behind the other. -/
theorem add_str (a b : List Nat) (h : a.length + b.length ≤ 1000000) : Op.stringOp .add (str a) (str b) = pure (.string (str (a ++ b))) := by
  unfold Op.stringOp
  simp only []
  rw [str_size, str_size, if_neg (by show ¬ (((a.length + b.length : Nat) : Int) > 9223372036854775807); omega), str_app]
theorem str_nil : str [] = { data := #[] } := rfl
/-- The names of shapes, kinds. -/
def shp (n : Nat) : List Nat := match n with
  | 1 => [116, 114, 101, 101]
  | 2 => [115, 104, 97, 112, 101, 100]
  | _ => [109, 97, 116, 114, 105, 120]
def knd (n : Nat) : List Nat := match n with
  | 1 => [112, 108, 97, 105, 110]
  | 2 => [114, 114, 114]
  | _ => [102, 97, 110, 111]
/-- Digits of a number below 100. -/
def dg (n : Nat) : List Nat := bif Nat.ble n 9 then [48 + n] else [48 + n / 10, 48 + n % 10]
/-- What one is called. -/
def nm (c : Cf) : List Nat := (bif Nat.beq c.1 4 then [98, 111, 111, 115, 116, 45] ++ shp c.2.1 ++ [45] ++ dg c.2.2.1 else shp c.1) ++ [47] ++ knd c.2.2.2.1 ++ [47] ++ dg c.2.2.2.2
end Co
theorem rshape_c (n : Nat) (h1 : 1 ≤ n) (h2 : n ≤ 3) (w : World) : Calls Tryd.prog 30 #[.int .i64 (n : Nat)] w fun e w' => e = .returned (.string (Co.str (Co.shp n))) ∧ Below w.heap.size w w' := by
  have key : n = 1 ∨ n = 2 ∨ n = 3 := by omega
  rcases key with rfl | rfl | rfl
  · go_enter Tryd.func30, Tryd.ntmps30
    go_wp2
    go_ret
    exact ⟨rfl, below_alloc w _⟩
  · go_enter Tryd.func30, Tryd.ntmps30
    go_wp2
    go_ret
    exact ⟨rfl, below_alloc w _⟩
  · go_enter Tryd.func30, Tryd.ntmps30
    go_wp2
    go_ret
    exact ⟨rfl, below_alloc w _⟩
theorem bd_one (w : World) (x : Nat) : Bd (w.alloc (.cells #[.int .u8 (x : Nat)] 5)) (some ⟨w.heap.size, 0, none⟩) [x] := by
  intro _
  refine ⟨w.heap.size, 0, rfl, by simp, fun i hi => ?_⟩
  have : i = 0 := by simpa using hi
  subst this
  exact (Cel.new w [.int .u8 (x : Nat)] 5).cell 0 rfl
set_option maxHeartbeats 2000000 in
theorem rdec_c (n : Nat) (h : n ≤ 99) (w : World) : Calls Tryd.prog 31 #[.int .i64 (n : Nat)] w fun e w' => e = .returned (.string (Co.str (Co.dg n))) ∧ Below w.heap.size w w' := by
  go_enter Tryd.func31, Tryd.ntmps31
  go_wp2
  go_loopw [0, 3] (fun vn vs wr => ∃ (q : Nat) (s : List Nat), vn = .int .i64 (q : Nat) ∧ vs = .string (Co.str s) ∧ Hid (q ≤ 99 ∧ (q = n ∧ s = [] ∨ 9 < n ∧ q = n / 10 ∧ s = [48 + n % 10])) ∧ Hid (Below w.heap.size w wr)) (fun vn _ _ => (intOf vn).toNat)
  case atStart => exact ⟨n, [], rfl, rfl, ⟨h, .inl ⟨rfl, rfl⟩⟩, Below.refl _ _⟩
  case round =>
    obtain ⟨q, s, rfl, rfl, H, HB⟩ := hrel
    by_cases hq : 9 < q
    · have hqz : (9 : Int) < (q : Int) := by omega
      have CV : (convert 49 9 (.slice (some ⟨wr.heap.size, 0, none⟩) 1 1)).run Tryd.prog (wr.alloc (.cells #[.int .u8 (48 + (q : Int) % 10)] 5)) = .ok (.string (Co.str [48 + q % 10])) (wr.alloc (.cells #[.int .u8 (48 + (q : Int) % 10)] 5)) := by
        have := conv 1 (bd_one wr (48 + q % 10))
        rw [show ((48 + q % 10 : Nat) : Int) = 48 + (q : Int) % 10 by omega] at this
        exact this
      have HL : s.length ≤ 1 := by
        rcases H.out.2 with ⟨_, rfl⟩ | ⟨_, _, rfl⟩ <;> simp
      have ST := Co.add_str [48 + q % 10] s (by simp; omega)
      have HQ : Hid (q / 10 ≤ 99 ∧ (q / 10 = n ∧ [48 + q % 10] ++ s = [] ∨ 9 < n ∧ q / 10 = n / 10 ∧ [48 + q % 10] ++ s = [48 + n % 10])) := by
        obtain ⟨h1, ⟨rfl, rfl⟩ | ⟨h2, h3, _⟩⟩ := H.out
        · exact ⟨by omega, .inr ⟨hq, rfl, rfl⟩⟩
        · exact absurd hq (by omega)
      have HB2 : Hid (Below w.heap.size w (wr.alloc (.cells #[.int .u8 (48 + (q : Int) % 10)] 5))) := HB.out.alloc HB.out.size _
      have wq : wrap64 ((q : Int) / 10) = ((q / 10 : Nat) : Int) := by
        have := H.out.1
        rw [show (q : Int) / 10 = ((q / 10 : Nat) : Int) by omega]
        unfold wrap64
        omega
      go_wp2
      rw [wq]
      exact ⟨⟨q / 10, _, rfl, rfl, HQ, HB2⟩, by simp only [intOf]; omega⟩
    · have hqz : ¬ (9 : Int) < (q : Int) := by omega
      have hq9 : q ≤ 9 := by omega
      have CV : (convert 49 9 (.slice (some ⟨wr.heap.size, 0, none⟩) 1 1)).run Tryd.prog (wr.alloc (.cells #[.int .u8 (48 + (q : Int))] 5)) = .ok (.string (Co.str [48 + q])) (wr.alloc (.cells #[.int .u8 (48 + (q : Int))] 5)) := by
        have := conv 1 (bd_one wr (48 + q))
        rw [show ((48 + q : Nat) : Int) = 48 + (q : Int) by omega] at this
        exact this
      have HL : s.length ≤ 1 := by
        rcases H.out.2 with ⟨_, rfl⟩ | ⟨_, _, rfl⟩ <;> simp
      have ST := Co.add_str [48 + q] s (by simp; omega)
      have R : Hid (Co.dg n = [48 + q] ++ s) := by
        show Co.dg n = _
        unfold Co.dg
        obtain ⟨h1, ⟨rfl, rfl⟩ | ⟨h2, rfl, rfl⟩⟩ := H.out
        · rw [show Nat.ble q 9 = true by rw [Nat.ble_eq]; omega]
          rfl
        · rw [show Nat.ble n 9 = false by rw [← Bool.not_eq_true, Nat.ble_eq]; omega]
          rfl
      have HB2 : Hid (Below w.heap.size w (wr.alloc (.cells #[.int .u8 (48 + (q : Int))] 5))) := HB.out.alloc HB.out.size _
      go_wp2
      go_ret
      rw [R.out]
      exact ⟨rfl, HB2.out⟩
end Go.Proofs.YtadfnllfeoidhaaDoor
