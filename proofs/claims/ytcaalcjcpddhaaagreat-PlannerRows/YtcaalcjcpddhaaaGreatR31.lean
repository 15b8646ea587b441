/-
  What configurations that may be are; the contracts of the document's shape and text. The contract of the document's nodes. The contract of the document's text. The contract of the document's Bits. The contracts of the landed parts, lowWidth, width, kindSteps, isWeight and Row. A region that draws its order, in a round of a range over a function, every function let in: taken as one line of operations (as Rg does outside of rounds). Nothing of the program is in here. A range over a function, every function let in: what an iterator promises (Goes), what a round keeps (Kept), and one law for the statement. Nothing of the program is in here.
-/
import Derived.Test.YtcaalcjcpddhaaaGreatR29
import Derived.Test.YtcaalcjcpddhaaaGreatR30
import Derived.Deep.QuietTactic
import Derived.BigQuiet
import Derived.OrdersHeld
import Derived.OrdersIn
import Derived.RangeFuncCalls
import Derived.Test.YtcaalcjcpddhaaaGreatR26
import Derived.RangeFuncIn
import Derived.RangeFuncRecord
import Derived.RangeFuncLeaves
import Derived.RangeFuncSeq
import Derived.Below
namespace Go.Proofs.YtcaalcjcpddhaaaGreat.Zz
open Go.RowKit Num Hp
set_option linter.unusedVariables false
set_option linter.unusedSimpArgs false
set_option maxRecDepth 100000

namespace Pn
structure CfI (s i g k m : Int) : Prop where
 k1 : 1 ≤ k
 k3 : k ≤ 3
 m1 : ∃ M : Nat, m = M ∧ 1 ≤ M ∧ M ≤ 64
 sh : (s = 1 ∨ s = 2 ∨ s = 3) ∨ (s = 4 ∧ 1 ≤ i ∧ i ≤ 3 ∧ ∃ G : Nat, g = G ∧ 4 ≤ G ∧ G ≤ 12)
theorem inZ_has {l : List Nat} {n : Int} (h : Co.inZ l n = true) : ∃ a, a ∈ l ∧ n = (a : Int) := by
 unfold Co.inZ at h
 have := of_decide_eq_true h
 unfold toI at this
 obtain ⟨a, h1, h2⟩ := List.mem_map.1 this
 exact ⟨a, h1, h2.symm⟩
theorem CfI.of {s i g k m : Int} (h : Co.okZ (s, i, g, k, m) = true) : CfI s i g k m := by
 unfold Co.okZ at h
 simp only [Bool.and_eq_true, decide_eq_true_eq] at h
 obtain ⟨h1, h2, h3, h4, h5, h6⟩ := h
 obtain ⟨M, hM, rfl⟩ := inZ_has h5
 refine ⟨h3, h4, ⟨M, rfl, ?_, ?_⟩, ?_⟩
 ·unfold Co.sam at hM; simp at hM; omega
 ·unfold Co.sam at hM; simp at hM; omega
 ·by_cases c : s = 4
  ·subst c
   simp only [decide_true, cond_true, Bool.and_eq_true, decide_eq_true_eq] at h6
   obtain ⟨h7, h8, h9⟩ := h6
   obtain ⟨G, hG, rfl⟩ := inZ_has h9
   refine .inr ⟨rfl, h7, h8, G, rfl, ?_, ?_⟩
   ·unfold Co.lgs at hG; simp at hG; omega
   ·unfold Co.lgs at hG; simp at hG; omega
  ·exact .inl (by omega)
def cst (l : List Int) : Nat := costv l (lst (hlen (cntOf l) 256))
theorem tot_le {f g : Nat → Nat} (h : ∀ i, f i ≤ g i) : ∀ q, Hv.tot f q ≤ Hv.tot g q
 | 0 => Nat.le_refl _
 | q + 1 => by
  have := tot_le h q
  have := h q
  rw [Hv.tot, Hv.tot]
  omega
theorem tot_mul (f : Nat → Nat) (c : Nat) : ∀ q, Hv.tot (fun i => f i * c) q = Hv.tot f q * c
 | 0 => by simp [Hv.tot]
 | q + 1 => by rw [Hv.tot, Hv.tot, tot_mul f c q, Nat.add_mul]
theorem cst_le {l : List Int} (hw : win l 8192 = true) (ht : Hv.tot (cntOf l) 256 ≤ 8192) : cst l ≤ 327680 := by
 unfold cst costv
 split
 ·have hL := lok_hlen l (win_more hw)
  rw [cnt_lst hL.out]
  have := tot_le (f := fun i => cntOf l i * hlen (cntOf l) 256 i) (g := fun i => cntOf l i * 40) (fun i => Nat.mul_le_mul_left _ (hL.le i)) 256
  rw [tot_mul] at this
  omega
 ·omega
def shp (s : Int) (l : List Int) (n : Nat) : Nat := if s = 2 then (if n = 0 then 1 else max 1 (up (cst l) n)) else 8
theorem shp_le (s : Int) {l : List Int} {n : Nat} (hw : win l 8192 = true) (ht : Hv.tot (cntOf l) 256 ≤ 8192) : shp s l n ≤ 327680 := by
 unfold shp
 split
 ·split
  ·omega
  ·have := up_le (cst l) n (by omega)
   have := cst_le hw ht
   omega
 ·omega
theorem shp_pos (s : Int) (l : List Int) (n : Nat) : 1 ≤ shp s l n := by
 unfold shp
 split
 ·split <;> omega
 ·omega
end Pn
end Go.Proofs.YtcaalcjcpddhaaaGreat.Zz

namespace Go.Proofs.YtcaalcjcpddhaaaGreat.Zz
open Go.RowKit Num Hp
set_option linter.unusedVariables false
set_option linter.unusedSimpArgs false
set_option maxRecDepth 100000

end Go.Proofs.YtcaalcjcpddhaaaGreat.Zz

namespace Go.Proofs.YtcaalcjcpddhaaaGreat.Zz
open Go.RowKit Num Hp
set_option linter.unusedVariables false
set_option linter.unusedSimpArgs false
set_option maxRecDepth 100000

namespace Pn
def bst (i k : Int) (z n : Nat) : Nat := 4096 * up n z + n / z * blk i k z + (if n % z = 0 then 0 else blk i k (n % z))
def ndv (k : Int) (l : List Int) : Nat := 1536 + nds (hlen (cntOf l) 256) (cod (hlen (cntOf l) 256)) (cntOf l) k 40
def txt (s i g k : Int) (l : List Int) : Nat := if s = 1 then rws k (cntOf l) (Hv.tot (cntOf l) 256) 8 else if s = 3 then rws k (cntOf l) (Hv.tot (cntOf l) 256) 8 + 256 else if s = 2 then ndv k l else bst i k (2 ^ g.toNat) (Hv.tot (cntOf l) 256)
theorem rws_le (k : Int) (v : Nat → Nat) {n : Nat} (hn : n = Hv.tot v 256) (h8 : n ≤ 8192) : ∀ q, rws k v n q ≤ q * 700000
 | 0 => Nat.zero_le _
 | q + 1 => by
  have := rws_le k v hn h8 q
  have h1 := os_le v (7 - q) 256
  have h2 := row_le k (n := n) (m := os v (7 - q) 256) (by omega) (by omega)
  unfold rws at *
  rw [Hv.tot]
  omega
theorem ndv_le (k : Int) {l : List Int} (ht : Hv.tot (cntOf l) 256 ≤ 8192) : ndv k l ≤ 7168001536 := by
 have := nds_le (v := hlen (cntOf l) 256) (k := cod (hlen (cntOf l) 256)) (n := cntOf l) k ht 40
 unfold ndv
 omega
theorem bst_le (i k : Int) {z n : Nat} (hz : 16 ≤ z) (hz2 : z ≤ 4096) (hn : n ≤ 8192) : bst i k z n ≤ 1700000000000 := by
 have h1 := up_le n z (by omega)
 have h2 := blk_le i k (s := z) (by omega)
 have h3 : n / z ≤ n := Nat.div_le_self _ _
 have h4 : n % z < z := Nat.mod_lt _ (by omega)
 have h5 := blk_le i k (s := n % z) (by omega)
 have h6 := Nat.mul_le_mul h3 h2
 unfold bst
 split <;> omega
theorem txt_le {s i g k m : Int} (hc : CfI s i g k m) {l : List Int} (ht : Hv.tot (cntOf l) 256 ≤ 8192) : txt s i g k l ≤ 1700000000000 := by
 have h1 := rws_le k (cntOf l) rfl ht 8
 have h2 := ndv_le k ht
 unfold txt
 split
 ·omega
 ·split
  ·omega
  ·split
   ·omega
   ·rcases hc.sh with h | ⟨_, _, _, G, rfl, g1, g2⟩
    ·omega
    ·have e1 : 2 ^ 4 ≤ 2 ^ G := Nat.pow_le_pow_right (by decide) g1
     have e2 : 2 ^ G ≤ 2 ^ 12 := Nat.pow_le_pow_right (by decide) g2
     rw [Int.toNat_natCast]
     exact bst_le i k (by omega) (by omega) ht
end Pn
end Go.Proofs.YtcaalcjcpddhaaaGreat.Zz

namespace Go.Proofs.YtcaalcjcpddhaaaGreat.Zz
open Go.RowKit Num Hp
set_option linter.unusedVariables false
set_option linter.unusedSimpArgs false
set_option maxRecDepth 100000

namespace Pn
def bl (x : Nat) : Nat := max 1 (Go.bitLen x)
theorem bl_le {x : Nat} (h : x ≤ 8192) : bl x ≤ 14 := by
  have := Num.len_le x 14 (by have : (2 : Nat) ^ 14 = 16384 := by decide
                              omega)
  unfold bl
  omega
def btN (s i g k : Int) (l : List Int) (n M : Nat) : Nat := txt s i g k l + 8256 + row k (n + 1) (n / M + 1) + (n / M + 1) * bl (n / M) + (n / M + 1) * bl n
def bitsN (z : Co.Zf) (l : List Int) : Nat := if (okT l && Co.okZ z) = true then btN z.1 z.2.1 z.2.2.1 z.2.2.2.1 l (Hv.tot (cntOf l) 256) z.2.2.2.2.toNat else 0
theorem okT_parts {l : List Int} (h : okT l = true) : win l 8192 = true ∧ Hv.tot (cntOf l) 256 ≤ 8192 := by
 unfold okT at h
 rw [Bool.and_eq_true] at h
 exact ⟨h.1, of_decide_eq_true h.2⟩
theorem max_or (L : Nat) : ((L : Int) ≤ 1 ∧ max 1 L = 1) ∨ (¬ (L : Int) ≤ 1 ∧ max 1 L = L) := by omega
theorem btN_le {s i g k m : Int} (hc : CfI s i g k m) {l : List Int} {n M : Nat} (ht : Hv.tot (cntOf l) 256 ≤ 8192) (hn : n ≤ 8192) : btN s i g k l n M ≤ 1700001000000 := by
 have h1 := txt_le hc ht
 have h2 : n / M ≤ n := Nat.div_le_self _ _
 have h3 := row_le k (n := n + 1) (m := n / M + 1) (by omega) (by omega)
 have h4 := Nat.mul_le_mul (show n / M + 1 ≤ 8193 by omega) (bl_le (x := n / M) (by omega))
 have h5 := Nat.mul_le_mul (show n / M + 1 ≤ 8193 by omega) (bl_le (x := n) (by omega))
 unfold btN
 omega
end Pn
end Go.Proofs.YtcaalcjcpddhaaaGreat.Zz

namespace Go.Proofs.YtcaalcjcpddhaaaGreat.Zz
open Go.RowKit Num Hp
set_option linter.unusedVariables false
set_option linter.unusedSimpArgs false
set_option maxRecDepth 100000

theorem pparts_c (n b : Nat) (hb : 0 < b) (hn : n ≤ 1099511627776) (hb2 : b ≤ 1099511627776) (w : World) :
  Calls Tryz.prog 19 #[.int .i64 (n : Int), .int .i64 (b : Int)] w fun e w' => e = .returned (.int .i64 (Pn.up n b : Nat)) ∧ w' = w := by
 obtain ⟨k, hk⟩ : ∃ k : Nat, n + b = k + 1 := ⟨n + b - 1, by omega⟩
 have e : Hid (Pn.up n b = k / b) := by show _ = _; unfold Pn.up; rw [hk]; rfl
 have e1 : (n : Int) + (b : Int) = (k : Int) + 1 := by omega
 have e2 : ((b : Int) == 0) = false := by simp; omega
 have hb3 : ¬ (b : Int) = 0 := by omega
 have hk2 : k ≤ 2199023255552 := by omega
 have hkb : k / b ≤ k := Nat.div_le_self _ _
 have ed := wq k b _ rfl (by omega)
 generalize k / b = d at *
 clear hk
 go_enter Tryz.func19, Tryz.ntmps19
 go_wp2
 go_ret
 rw [e.out]
 exact ⟨congrArg (fun x => Ending.returned (.int .i64 x)) ed, rfl⟩
theorem plow_c (n m : Nat) (hm : m ≤ n) (hn : n ≤ 1048576) (w : World) :
  Calls Tryz.prog 20 #[.int .i64 (n : Int), .int .i64 (m : Int)] w fun e w' => e = .returned (.int .i64 (Pn.fw n m : Nat)) ∧ w' = w := by
 by_cases h0 : m = 0
 ·subst h0
  go_enter Tryz.func20, Tryz.ntmps20
  go_wp2
  go_ret
  exact ⟨rfl, rfl⟩
 ·obtain ⟨q, hq⟩ : ∃ q, q = n / m := ⟨_, rfl⟩
  have hqn : q ≤ n := by rw [hq]; exact Nat.div_le_self _ _
  have hq1 : 1 ≤ q := by rw [hq]; exact Nat.div_pos hm (by omega)
  obtain ⟨v, hv⟩ : ∃ v, Go.bitLen q = v + 1 := by
   have := (Go.bitLen_spec q).1
   refine ⟨Go.bitLen q - 1, ?_⟩
   by_cases c : Go.bitLen q = 0
   ·rw [c] at this; simp at this; omega
   ·omega
  have hv2 : Hid (Pn.fw n m = v) := by show Pn.fw n m = v; unfold Pn.fw; rw [if_pos (by omega), ← hq, hv]; rfl
  have hv3 : v ≤ 20 := by rw [← hv2.out]; exact Pn.fw_le hn
  have LL : Hid (∀ w0, Calls Tryz.prog 44 #[.int .u64 (q : Int)] w0 fun e w' => e = .returned (.int .i64 ((v : Int) + 1)) ∧ w' = w0) := fun w0 => by
   have := len_c (q : Int) (by omega) (by omega) w0
   have e : lenI (q : Int) = (v : Int) + 1 := by unfold lenI; rw [Int.toNat_natCast, hv]; rfl
   rw [e] at this
   exact this
  have ed : wrap64 ((n : Int) / (m : Int)) = (q : Int) := by
   have : (n : Int) / (m : Int) = ((n / m : Nat) : Int) := rfl
   rw [this, ← hq]
   unfold wrap64
   omega
  have e2 : ((m : Int) == 0) = false := by simp; omega
  have hm0 : (0 : Int) < (m : Int) := by omega
  rw [hv2.out]
  clear hv hq h0 hv2
  go_enter Tryz.func20, Tryz.ntmps20
  go_wp2_with fail
  refine (LL.out _).mono ?_
  rintro e w1 ⟨rfl, h1⟩
  go_wp2
  go_ret
  exact ⟨by go_num, by subst h1; rfl⟩
theorem pwidth_c (x : Nat) (hx : x ≤ 8192) (w : World) :
  Calls Tryz.prog 86 #[.int .i64 (x : Int)] w fun e w' => e = .returned (.int .i64 (Pn.bl x : Nat)) ∧ w' = w := by
 have LL : Hid (∀ w0, Calls Tryz.prog 44 #[.int .u64 (x : Int)] w0 fun e w' => e = .returned (.int .i64 (Go.bitLen x : Nat)) ∧ w' = w0) := fun w0 => by
  have := len_c (x : Int) (by omega) (by omega) w0
  have e : lenI (x : Int) = (Go.bitLen x : Int) := by unfold lenI; rw [Int.toNat_natCast]
  rw [e] at this
  exact this
 have E : Hid (Pn.bl x = max 1 (Go.bitLen x)) := rfl
 rcases Pn.max_or (Go.bitLen x) with ⟨c1, c2⟩ | ⟨c1, c2⟩
 ·rw [c2] at E
  rw [E.out]
  generalize Go.bitLen x = b at *
  clear E c2
  go_enter Tryz.func86, Tryz.ntmps86
  go_wp2_with fail
  refine (LL.out _).mono ?_
  rintro e w1 ⟨rfl, rfl⟩
  go_wp2
  go_ret
  exact ⟨rfl, rfl⟩
 ·rw [c2] at E
  rw [E.out]
  generalize Go.bitLen x = b at *
  clear E c2
  go_enter Tryz.func86, Tryz.ntmps86
  go_wp2_with fail
  refine (LL.out _).mono ?_
  rintro e w1 ⟨rfl, rfl⟩
  go_wp2
  go_ret
  exact ⟨rfl, rfl⟩
theorem pweight_c (x : Int) (w : World) :
  Calls Tryz.prog 24 #[.int .i64 x] w fun e w' => e = .returned (.bool (decide (0 ≤ x) && decide (x ≤ 65536))) ∧ w' = w := by
 by_cases h1 : 0 ≤ x
 ·by_cases h2 : x ≤ 65536
  ·have e : Hid ((decide (0 ≤ x) && decide (x ≤ 65536)) = true) := by show _ = _; rw [decide_eq_true h1, decide_eq_true h2]; rfl
   rw [e.out]
   go_enter Tryz.func24, Tryz.ntmps24
   go_wp2
   go_ret
   exact ⟨rfl, rfl⟩
  ·have e : Hid ((decide (0 ≤ x) && decide (x ≤ 65536)) = false) := by show _ = _; rw [decide_eq_false h2]; simp
   rw [e.out]
   go_enter Tryz.func24, Tryz.ntmps24
   go_wp2
   go_ret
   exact ⟨rfl, rfl⟩
 ·have e : Hid ((decide (0 ≤ x) && decide (x ≤ 65536)) = false) := by show _ = _; rw [decide_eq_false h1]; rfl
  rw [e.out]
  go_enter Tryz.func24, Tryz.ntmps24
  go_wp2
  go_ret
  exact ⟨rfl, rfl⟩
set_option maxHeartbeats 4000000 in
theorem prow0_c (k n m : Int) (w : World) :
  Calls Tryz.prog 7 #[.int .i64 k, .int .i64 n, .int .i64 m] w fun e w' => e = .returned (.int .i64 (Pn.rowI k n m : Nat)) ∧ w' = w := by
 by_cases h : 0 ≤ n ∧ n ≤ 1048576 ∧ 0 ≤ m ∧ m ≤ n
 ·obtain ⟨h1, h2, h3, h4⟩ := h
  obtain ⟨N, rfl⟩ := Int.eq_ofNat_of_zero_le h1
  obtain ⟨M, rfl⟩ := Int.eq_ofNat_of_zero_le h3
  have hN : N ≤ 1048576 := by omega
  have hM : M ≤ N := by omega
  rw [rowI_in hN hM]
  have n1 : ¬ (N : Int) < 0 := by omega
  have n2 : ¬ (1048576 : Int) < (N : Int) := by omega
  have n3 : ¬ (M : Int) < 0 := by omega
  have n4 : ¬ (N : Int) < (M : Int) := by omega
  by_cases k1 : k = 1
  ·subst k1
   have U := hide fun w0 => pparts_c N 64 (by omega) (by omega) (by omega) w0
   have hu := Pn.up_le N 64 (by omega)
   have e : Hid (Pn.row 1 N M = N + 32 * (N / 512 + 1) + 16 * Pn.up N 64) := by show _ = _; unfold Pn.row; rw [if_pos rfl]
   generalize Pn.up N 64 = u at *
   go_enter Tryz.func7, Tryz.ntmps7
   go_wp2_with fail
   refine (U.out _).mono ?_
   rintro e w1 ⟨rfl, rfl⟩
   go_wp2
   go_ret
   rw [e.out]
   exact ⟨by go_num, rfl⟩
  ·have k1z : (k == 1) = false := by simp; omega
   by_cases k2 : k = 2
   ·subst k2
    have U := hide fun w0 => pparts_c N 15 (by omega) (by omega) (by omega) w0
    have hu := Pn.up_le N 15 (by omega)
    have e : Hid (Pn.row 2 N M = 17 * Pn.up N 15 + 64 * max 1 (Pn.up (Pn.up N 15) 8)) := by show _ = _; unfold Pn.row; rw [if_neg (by decide), if_pos rfl]
    generalize Pn.up N 15 = u at *
    have U2 := hide fun w0 => pparts_c u 8 (by omega) (by omega) (by omega) w0
    have hu2 := Pn.up_le u 8 (by omega)
    generalize Pn.up u 8 = u2 at *
    by_cases c1 : u2 ≤ 1
    ·have c1z : (u2 : Int) ≤ 1 := by omega
     rw [show max 1 u2 = 1 by omega] at e
     go_enter Tryz.func7, Tryz.ntmps7
     go_wp2_with fail
     refine (U.out _).mono ?_
     rintro e w1 ⟨rfl, rfl⟩
     go_wp2_with fail
     refine (U2.out _).mono ?_
     rintro e w1 ⟨rfl, rfl⟩
     go_wp2
     go_ret
     rw [e.out]
     exact ⟨by go_num, rfl⟩
    ·have c1z : ¬ (u2 : Int) ≤ 1 := by omega
     rw [show max 1 u2 = u2 by omega] at e
     go_enter Tryz.func7, Tryz.ntmps7
     go_wp2_with fail
     refine (U.out _).mono ?_
     rintro e w1 ⟨rfl, rfl⟩
     go_wp2_with fail
     refine (U2.out _).mono ?_
     rintro e w1 ⟨rfl, rfl⟩
     go_wp2
     go_ret
     rw [e.out]
     exact ⟨by go_num, rfl⟩
   ·have k2z : (k == 2) = false := by simp; omega
    by_cases k3 : k = 3
    ·subst k3
     have U := hide fun w0 => plow_c N M hM hN w0
     have e : Hid (Pn.row 3 N M = Pn.fano N M) := by show _ = _; unfold Pn.row; rw [if_neg (by decide), if_neg (by decide), if_pos rfl]
     have hv3 := Pn.fw_le (n := N) (m := M) hN
     have f : Hid (∀ v, v = Pn.fw N M → Pn.fano N M = M * v + M + N / 2 ^ v + 65) := fun v hv => by subst hv; rfl
     obtain ⟨v, hv⟩ : ∃ v, Hid (v = Pn.fw N M) := ⟨_, rfl⟩
     have f1 := f.out v hv.out
     rw [← hv.out] at U hv3
     have HF := hide f1
     clear f f1 hv
     obtain ⟨s, hs⟩ : ∃ s, s = N / 2 ^ v := ⟨_, rfl⟩
     have hs2 : s ≤ N := by rw [hs]; exact Nat.div_le_self _ _
     have es : (N : Int) / 2 ^ v = (s : Int) := by
      rw [hs, Int.natCast_ediv, Int.natCast_pow]; rfl
     rw [← hs] at HF
     have hmv : M * v ≤ M * 20 := Nat.mul_le_mul_left M hv3
     have ep : (M : Int) * (v : Int) = ((M * v : Nat) : Int) := by rw [Int.natCast_mul]
     rw [e.out, HF.out]
     generalize M * v = p at *
     clear hs HF e
     go_enter Tryz.func7, Tryz.ntmps7
     go_wp2_with fail
     refine (U.out _).mono ?_
     rintro e w1 ⟨rfl, rfl⟩
     go_wp2
     go_ret
     exact ⟨by go_num, rfl⟩
    ·have k3z : (k == 3) = false := by simp; omega
     have e : Hid (Pn.row k N M = 0) := by show _ = _; unfold Pn.row; rw [if_neg k1, if_neg k2, if_neg k3]
     rw [e.out]
     go_enter Tryz.func7, Tryz.ntmps7
     go_wp2
     go_ret
     exact ⟨rfl, rfl⟩
 ·rw [rowI_out h]
  by_cases n1 : n < 0
  ·clear h
   go_enter Tryz.func7, Tryz.ntmps7
   go_wp2
   go_ret
   exact ⟨rfl, rfl⟩
  ·by_cases n2 : (1048576 : Int) < n
   ·clear h
    go_enter Tryz.func7, Tryz.ntmps7
    go_wp2
    go_ret
    exact ⟨rfl, rfl⟩
   ·by_cases n3 : m < 0
    ·clear h
     go_enter Tryz.func7, Tryz.ntmps7
     go_wp2
     go_ret
     exact ⟨rfl, rfl⟩
    ·have n4 : n < m := by omega
     clear h
     go_enter Tryz.func7, Tryz.ntmps7
     go_wp2
     go_ret
     exact ⟨rfl, rfl⟩
theorem prow_c (k n m : Int) (w : World) :
  Calls Tryz.prog 7 #[.int .i64 k, .int .i64 n, .int .i64 m] w fun e w' => e = .returned (.int .i64 (Pn.rowI k n m : Nat)) ∧ Below w.heap.size w w' := by
 refine (prow0_c k n m w).mono ?_
 rintro e w' ⟨h1, rfl⟩
 exact ⟨h1, Below.refl _ _⟩
theorem pkind_c (k : Int) (h1 : 1 ≤ k) (h3 : k ≤ 3) (w : World) :
  Calls Tryz.prog 60 #[.int .i64 k] w fun e w' => e = .returned (.int .i64 ((if k = 1 then 1 else if k = 2 then 4 else 3 : Nat) : Nat)) ∧ w' = w := by
 obtain rfl | rfl | rfl : k = 1 ∨ k = 2 ∨ k = 3 := by omega
 all_goals
  go_enter Tryz.func60, Tryz.ntmps60
  go_wp2
  go_ret
  exact ⟨rfl, rfl⟩
end Go.Proofs.YtcaalcjcpddhaaaGreat.Zz

namespace Go.Proofs.YtcaalcjcpddhaaaGreat.Zz
open Go

section
variable {P : Program} {ops : Array Oper} {Q : Exit → Act → World → Prop} {md : Region.Mode} {S : World → Prop} {ns : List Nat} {F : Fence} {n : Nat}

end
end Go.Proofs.YtcaalcjcpddhaaaGreat.Zz

namespace Go.Proofs.YtcaalcjcpddhaaaGreat.Zz
open Go Go.RowKit

structure Kept (K : Nat → Prop) (W W' : World) : Prop where
 os : W'.os = W.os
 tape : W'.tape = W.tape
 output : W'.output = W.output
 size : W.heap.size ≤ W'.heap.size
 same : ∀ b, K b → b < W.heap.size → W'.heap[b]? = W.heap[b]?
theorem Kept.refl (K : Nat → Prop) (W : World) : Kept K W W := ⟨rfl, rfl, rfl, Nat.le_refl _, fun _ _ _ => rfl⟩
theorem Kept.trans {K : Nat → Prop} {a b c : World} (h : Kept K a b) (k : Kept K b c) : Kept K a c :=
 ⟨k.os.trans h.os, k.tape.trans h.tape, k.output.trans h.output, Nat.le_trans h.size k.size, fun x hx hl => (k.same x hx (Nat.lt_of_lt_of_le hl h.size)).trans (h.same x hx hl)⟩
theorem Kept.less {K K' : Nat → Prop} {a b : World} (h : Kept K a b) (hk : ∀ x, K' x → K x) : Kept K' a b := ⟨h.os, h.tape, h.output, h.size, fun x hx hl => h.same x (hk x hx) hl⟩
theorem Kept.of {K : Nat → Prop} {a b : World} (h : Below a.heap.size a b) : Kept K a b := ⟨h.os, h.tape, h.output, h.size, fun x _ hl => h.block x hl⟩
theorem Kept.setCell {K : Nat → Prop} {a b : World} (h : Kept K a b) {p : Addr} (hp : ¬ K p.block) (v : Value) : Kept K a (b.setCell p v) :=
 h.trans ⟨rfl, rfl, rfl, by simp [World.setCell], fun x hx _ => Below.heap_setCell _ _ _ _ (fun e => hp (e ▸ hx))⟩
theorem Kept.putObj {K : Nat → Prop} {a b : World} (h : Kept K a b) {r : Nat} (hp : ¬ K r) (o : Obj) : Kept K a (b.putObj r o) :=
 h.trans ⟨rfl, rfl, rfl, by simp, fun x hx _ => World.putObj_heap_other (fun e => hp (e ▸ hx))⟩
theorem below_putObj {B : Nat} {W : World} {r : Nat} (h : B ≤ r) (o : Obj) : Below B W (W.putObj r o) :=
 ⟨rfl, rfl, rfl, by simp, fun x hx => World.putObj_heap_other (by omega)⟩
theorem Kept.below {K : Nat → Prop} {B : Nat} {a b : World} (h : Kept K a b) (hB : ∀ x, x < B → K x) (hs : B ≤ a.heap.size) : Below B a b :=
 ⟨h.os, h.tape, h.output, h.size, fun x hx => h.same x (hB x hx) (by omega)⟩
def Goes (P : Program) (g : Nat) (lb : Array Value) (N : Nat) (enc : Nat → Array Value) (K : Nat → Prop) (w : World) : Prop :=
 ∀ (l : Nat) (J Jx : Nat → World → Prop) (W : World), Below w.heap.size w W → (∀ b, W.heap.size ≤ b → K b) →
  (∀ q W1 W2, J q W1 → Below W.heap.size W1 W2 → J q W2) → (∀ q W1 W2, Jx q W1 → Below W.heap.size W1 W2 → Jx q W2) →
  (∀ q W1, q < N → J q W1 → W.heap.size ≤ W1.heap.size → YieldAt Fence.wide 0 P l (enc q) W1 fun e W2 =>
   Kept K W1 W2 ∧ ((e = .returned (.bool true) ∧ J (q + 1) W2) ∨ (e = .returned (.bool false) ∧ Jx q W2))) →
  J 0 W →
  Calls P g (#[.func (.yield l) #[] #[]] ++ lb) W fun e W' => (∃ v, e = .returned v) ∧ (J N W' ∨ ∃ q, q < N ∧ Jx q W')
def roundEnd (K : Nat → Prop) (I Ix : Nat → World → Prop) (q : Nat) (W : World) : Exit → Act → World → Prop
 | .normal, _, W' => Kept K W W' ∧ I (q + 1) W'
 | .ret, _, W' => Kept K W W' ∧ Ix q W'
 | _, _, _ => False
theorem range_law {P : Program} {g : Operand} {ps : Array Tmp} {assign body : Code} {Q : Exit → Act → World → Prop} {a : Act} {w : World} {gf : Nat} {lb : Array Value} {N : Nat} {enc : Nat → Array Value} {K : Nat → Prop}
  (hg : a.eval g = .func (.func gf) #[] lb) (eg : ∀ args w, (callFunc gf args).run P w = .ok (.enter gf args) w) (hps : ∀ q, (enc q).size = ps.size)
  (hseq : Goes P gf lb N enc (fun b => K b ∧ b ≠ w.heap.size + 1) w) (hK : ∀ b, w.heap.size ≤ b → K b)
  (I Ix : Nat → World → Prop) (hI : ∀ q W1 W2, I q W1 → Below w.heap.size W1 W2 → I q W2) (hIx : ∀ q W1 W2, Ix q W1 → Below w.heap.size W1 W2 → Ix q W2) (h0 : I 0 w) (a₁ : Nat → Act)
  (hassign : ∀ (l q : Nat) (W : World) (K : Act → World → Prop), K (a₁ q) W → assign.wpIn (Fence.wide.inRound l) 0 P (Exit.then K fun _ _ _ => False) { tmps := (ps.zip (enc q)).foldl (fun t (p, v) => t.setIfInBounds p v) a.tmps, defers := [] } W)
  (hbody : ∀ (l q : Nat) (W : World), q < N → I q W → w.heap.size + 2 ≤ W.heap.size → body.wpIn (Fence.wide.inRound l) 0 P (roundEnd K I Ix q W) (a₁ q) W)
  (hdone : ∀ (D : Nat) (W : World), w.heap.size ≤ D → I N W → W.heap[D]? = some (.deferred (some [])) → Q .normal { a with defers := { target := .collected D, args := #[] } :: a.defers } W)
  (hstop : ∀ (D q : Nat) (W : World), w.heap.size ≤ D → q < N → Ix q W → W.heap[D]? = some (.deferred (some [])) → Q .ret { a with defers := { target := .collected D, args := #[] } :: a.defers } W) :
  (Code.rangeFunc g ps assign body).wp P Q a w := by
 refine (wpIn_wide (n := 0)).1 (wpIn_rangeFunc fun fn _ => ?_)
 let rc : LoopState → Option Code → Loop := fun st pe => { state := st, pending := pe, fn, tmps := a.tmps, params := ps, assign, body, defers := w.heap.size }
 let W1 := (w.alloc (.deferred (some []))).alloc (.loop (rc .ready none))
 have z1 : W1.heap.size = w.heap.size + 2 := by simp [W1]
 have hL1 : W1.heap[w.heap.size + 1]? = some (.loop (rc .ready none)) := by
  have := World.alloc_heap_new (w.alloc (.deferred (some []))) (.loop (rc .ready none))
  rwa [World.size_alloc] at this
 have hD1 : W1.heap[w.heap.size]? = some (.deferred (some [])) := (Below.heap_alloc _ _ _ (by simp)).trans (World.alloc_heap_new w _)
 have b1 : Below w.heap.size w W1 := ((Below.refl _ w).alloc (Nat.le_refl _) _).alloc (by simp) _
 refine ⟨w.heap.size + 1, [{ target := .collected w.heap.size, args := #[] }], W1, { target := .fn (.func gf) lb, args := #[.func (.yield (w.heap.size + 1)) #[] #[]] }, W1, gf, #[.func (.yield (w.heap.size + 1)) #[] #[]] ++ lb, W1, run_enterLoop_outer _ _ _ _ _, ?_, fun _ _ => trivial, ?_, fun h => by simp [Fence.wide] at h, ?_⟩
 ·simp only [resolve, hg]
  simp [go_sem]
 ·simp [invoke, go_sem, eg]
 refine callsIn_wide.2 ((hseq (w.heap.size + 1) (fun q W => I q W ∧ W.heap[w.heap.size + 1]? = some (.loop (rc .ready none)) ∧ W.heap[w.heap.size]? = some (.deferred (some []))) (fun q W => Ix q W ∧ W.heap[w.heap.size + 1]? = some (.loop (rc .done (some .ret))) ∧ W.heap[w.heap.size]? = some (.deferred (some []))) W1 b1 ?_ ?_ ?_ ?_ ⟨hI _ _ _ h0 b1, hL1, hD1⟩).mono ?_)
 ·exact fun b hb => ⟨hK b (by omega), by omega⟩
 ·exact fun q A B h hb => ⟨hI q A B h.1 (hb.mono (by omega)), (hb.block _ (by omega)).trans h.2.1, (hb.block _ (by omega)).trans h.2.2⟩
 ·exact fun q A B h hb => ⟨hIx q A B h.1 (hb.mono (by omega)), (hb.block _ (by omega)).trans h.2.1, (hb.block _ (by omega)).trans h.2.2⟩
 ·rintro q W hq ⟨hi, hl, hd⟩ hz
  have hlt : w.heap.size + 1 < W.heap.size := by omega
  refine ⟨fn, _, assign, body, run_yield (P := P) (args := enc q) hl (hps q), roundIn_of_wpIn trivial (hassign _ q W _ ⟨_, run_beginRound hl rfl, ?_⟩)⟩
  let Wb := W.putObj (w.heap.size + 1) (.loop { rc .ready none with state := .busy })
  have zb : Wb.heap.size = W.heap.size := by simp [Wb]
  have bb : Below w.heap.size W Wb := below_putObj (by omega) _
  have hlb : Wb.heap[w.heap.size + 1]? = some (.loop { rc .ready none with state := .busy }) := World.putObj_heap_same hlt
  have hdb : Wb.heap[w.heap.size]? = some (.deferred (some [])) := (World.putObj_heap_other (by omega)).trans hd
  have kb : Kept (fun b => K b ∧ b ≠ w.heap.size + 1) W Wb := (Kept.refl _ W).putObj (fun h => h.2 rfl) _
  refine wpIn_mono (hbody _ q Wb hq (hI q _ _ hi bb) (by omega)) ?_
  have fin : ∀ (j : Option Code) (W3 : World), Kept K Wb W3 → (Instr.endRound (w.heap.size + 1) j).run P W3 = .ok (.bool j.isNone) (W3.putObj (w.heap.size + 1) (.loop (rc (if j.isNone then .ready else .done) j))) ∧ Kept (fun b => K b ∧ b ≠ w.heap.size + 1) W (W3.putObj (w.heap.size + 1) (.loop (rc (if j.isNone then .ready else .done) j))) ∧ Below w.heap.size W3 (W3.putObj (w.heap.size + 1) (.loop (rc (if j.isNone then .ready else .done) j))) ∧ (W3.putObj (w.heap.size + 1) (.loop (rc (if j.isNone then .ready else .done) j))).heap[w.heap.size + 1]? = some (.loop (rc (if j.isNone then .ready else .done) j)) ∧ (W3.putObj (w.heap.size + 1) (.loop (rc (if j.isNone then .ready else .done) j))).heap[w.heap.size]? = some (.deferred (some [])) := fun j W3 hk => by
   have h3 := (hk.same _ (hK _ (by omega)) (by omega)).trans hlb
   have hd3 := (hk.same _ (hK _ (by omega)) (by omega)).trans hdb
   refine ⟨run_endRound (P := P) j h3, ?_, below_putObj (by omega) _, World.putObj_heap_same ?_, (World.putObj_heap_other (by omega)).trans hd3⟩
   ·exact (kb.trans (hk.less fun _ h => h.1)).putObj (fun h => h.2 rfl) _
   ·have := hk.size
    omega
  intro e a3 W3 hp
  match e, hp with
  | .normal, hp =>
   obtain ⟨f1, f2, f3, f4, f5⟩ := fin none W3 hp.1
   exact ⟨_, _, f1, f2, .inl ⟨rfl, hI _ _ _ hp.2 f3, f4, f5⟩⟩
  | .ret, hp =>
   obtain ⟨f1, f2, f3, f4, f5⟩ := fin (some .ret) W3 hp.1
   exact ⟨_, _, f1, f2, .inr ⟨rfl, hIx _ _ _ hp.2 f3, f4, f5⟩⟩
 ·rintro e W2 ⟨⟨v, rfl⟩, ⟨hi, hl, hd⟩ | ⟨q, hq, hi, hl, hd⟩⟩
  ·exact ⟨none, _, run_endLoop (P := P) hl (by simp [rc]), hdone _ _ (Nat.le_refl _) (hI _ _ _ hi (below_putObj (by omega) _)) ((World.putObj_heap_other (by omega)).trans hd)⟩
  ·exact ⟨some .ret, _, run_endLoop (P := P) hl (by simp [rc]), wpIn_ret (hstop _ q _ (Nat.le_refl _) hq (hIx _ _ _ hi (below_putObj (by omega) _)) ((World.putObj_heap_other (by omega)).trans hd))⟩
theorem marks_end {P : Program} {fn : Func} {R : Ending → World → Prop} {tmps : Array Value} {D : Nat} {W : World} {v : Value} (hD : W.heap[D]? = some (.deferred (some [])))
  (hr : (results fn tmps).run P (W.putObj D (.deferred none)) = .ok v (W.putObj D (.deferred none))) (h : R (.returned v) (W.putObj D (.deferred none))) :
  bodyPostM Fence.wide 0 P fn R .normal { tmps := tmps, defers := [{ target := .collected D, args := #[] }] } W :=
 ⟨by simp, .inl ⟨_, _, rfl, run_takeDeferred hD, v, hr, h⟩⟩
end Go.Proofs.YtcaalcjcpddhaaaGreat.Zz
