/-
  The contract of the document's Fits. The contract of the document's Codes. The document's things in memory; the contract of its least.
-/
import Derived.Test.YtckkhmmicbpihaaM06
import Derived.Test.YtckkhmmicbpihaaM08
import Derived.Test.YtckkhmmicbpihaaM07
import Derived.Test.YtckkhmmicbpihaaM05
namespace Go.Proofs.Ytckkhmmicbpihaa
open Go.RowKit Num Hp Ka Hr
set_option linter.unusedVariables false
set_option linter.unusedSimpArgs false
set_option maxRecDepth 100000

theorem wr2i (s t : Nat) (hs : s ≤ 140737488355328) (h : 2 ^ t ≤ 549755813888) : wrap64 ((s : Int) + wrap64 (2 ^ t)) = ((s + 2 ^ t : Nat) : Int) := by
  have e : (2 : Int) ^ t = ((2 ^ t : Nat) : Int) := by rw [Int.natCast_pow]; rfl
  rw [e]
  generalize (2 : Nat) ^ t = p at *
  clear e
  unfold wrap64
  omega
/-- Sum, number and last of the first q. -/
structure FI (v : Nat → Nat) (q s c z : Nat) : Prop where
  ec : c = (used v q).length
  es : s = need v (fun _ => true) q
  one : c = 1 → s = 2 ^ (40 - z) ∧ 0 < z ∧ z ≤ 40
  no : c = 0 → s = 0
theorem FI.start (v : Nat → Nat) : FI v 0 0 0 0 := ⟨rfl, rfl, fun h => by omega, fun _ => rfl⟩
theorem FI.put {v : Nat → Nat} {q s c z : Nat} (h : FI v q s c z) (hp : 0 < v q) (h40 : v q ≤ 40) : FI v (q + 1) (s + 2 ^ (40 - v q)) (c + 1) (v q) := by
  refine ⟨by rw [used_more, if_pos hp, h.ec], ?_, fun e => ⟨?_, hp, h40⟩, fun e => by omega⟩
  · rw [need, if_pos ⟨hp, rfl⟩, h.es]
  · rw [h.no (by omega), Nat.zero_add]
theorem FI.same {v : Nat → Nat} {q s c z : Nat} (h : FI v q s c z) (hp : ¬ 0 < v q) : FI v (q + 1) s c z := by
  refine ⟨by rw [used_more, if_neg hp, h.ec]; rfl, ?_, h.one, h.no⟩
  rw [need, if_neg (fun e => hp e.1), h.es]
  rfl
theorem FI.done {v : Nat → Nat} {s c z : Nat} (h : FI v 256 s c z) : fitb v = (decide (s = 1099511627776) || (decide (c = 1) && decide (z = 1)) || decide (c = 0)) := by
  unfold fitb
  rw [← h.ec, ← h.es]
  by_cases e : c = 1
  · obtain ⟨h1, h2, h3⟩ := h.one e
    have : (s = 549755813888) ↔ z = 1 := by
      rw [h1]
      constructor
      · intro g
        by_cases hz : z = 1
        · exact hz
        · have := Nat.pow_lt_pow_right (a := 2) (by decide) (show 40 - z < 39 by omega)
          have e39 : (2 : Nat) ^ 39 = 549755813888 := by decide
          omega
      · rintro rfl; rfl
    simp only [this]
  · simp [e]
set_option maxHeartbeats 4000000 in
theorem rfits_c (ao : Option Addr) (l : List Int) (cap : Nat) (w : World) (hx : Nd w ao l) (hl : l.length ≤ 1048576) :
    Calls Try.prog 84 #[.slice ao l.length cap] w fun e w' => e = .returned (.bool (lok l)) ∧ Below w.heap.size w w' := by
  by_cases k2 : l.length = 256
  · have k2z : ((l.length : Int) != 256) = false := by simp; omega
    have HK2 := hide k2
    obtain ⟨b, off, rfl, hbw, hcc⟩ := hx (by omega)
    have HCD : Hid (∀ i, i < l.length → w.cell? ⟨b, off + i, none⟩ = some (.int .i64 (gi l i))) := fun i hi => hcc i hi
    have l256 : l.length ≤ 256 := by omega
    clear hcc k2 hx
    go_enter Try.func84, Try.ntmps84
    go_wp2
    go_loopw [3, 4, 5, 6] (fun vs vc vz vi wr => ∃ (q s c z : Nat), q ≤ l.length ∧ c ≤ q ∧ z ≤ 40 ∧ vi = .int .i64 q ∧ vs = .int .i64 s ∧ vc = .int .i64 c ∧ vz = .int .i64 z ∧ Hid (FI (cntOf l) q s c z) ∧ Hid (∀ j, j < q → bad 40 (gi l j) = false) ∧ wr = w) (fun _ _ _ vi _ => l.length - (intOf vi).toNat)
    case atStart => exact ⟨0, 0, 0, 0, by omega, by omega, by omega, rfl, rfl, rfl, rfl, FI.start _, fun j hj => absurd hj (by omega), rfl⟩
    case round =>
      obtain ⟨q, s, c, z, hq, hcq, hz, rfl, rfl, rfl, rfl, HI, H, hw⟩ := hrel
      subst hw
      have hs5 : s ≤ 140737488355328 := by
        have e := HI.out.es
        have e2 := need_le (cntOf l) q
        have : q * 549755813888 ≤ 256 * 549755813888 := Nat.mul_le_mul_right _ (by omega)
        omega
      by_cases hlt : q < l.length
      · have hltz : (q : Int) < (l.length : Int) := by omega
        have c1 := HCD.out q hlt
        by_cases h1 : gi l q < 0
        · have HR : Hid (lok l = false) := by show lok l = false; unfold lok; rw [win_bad hlt (bad_neg (top := 40) h1)]; rfl
          generalize gi l q = x at *
          go_wp2
          go_ret
          rw [HR.out]
          exact ⟨rfl, Below.refl _ _⟩
        · by_cases h2 : (40 : Int) < gi l q
          · have HR : Hid (lok l = false) := by show lok l = false; unfold lok; rw [win_bad hlt (bad_gt (top := 40) h2)]; rfl
            generalize gi l q = x at *
            go_wp2
            go_ret
            rw [HR.out]
            exact ⟨rfl, Below.refl _ _⟩
          · have HN := hide (more_fine H.out (bad_no h1 h2))
            obtain ⟨y, hy⟩ : ∃ y : Nat, gi l q = y := ⟨(gi l q).toNat, by omega⟩
            have hyc : cntOf l q = y := by unfold cntOf; omega
            rw [hy] at c1 h1 h2
            have y40 : y ≤ 40 := by omega
            by_cases hp : 0 < y
            · have hpz : (0 : Int) < (y : Int) := by omega
              have hpw := pow39 y hp
              have HI1 := hide (HI.out.put (by omega) (by omega))
              rw [hyc] at HI1
              obtain ⟨t, ht⟩ : ∃ t : Nat, t = 40 - y := ⟨_, rfl⟩
              have tz : (40 : Int) - (y : Int) = (t : Int) := by omega
              have t40 : t ≤ 39 := by omega
              rw [← ht] at hpw HI1
              clear ht hy hyc H HI
              go_wp2
              exact ⟨⟨q + 1, s + 2 ^ t, c + 1, y, by omega, by omega, y40, by go_num, by rw [wr2i s t hs5 hpw], by go_num, rfl, HI1, HN, trivial⟩, by simp only [intOf]; omega⟩
            · have hpz : ¬ (0 : Int) < (y : Int) := by omega
              have HI1 := hide (HI.out.same (by omega))
              clear hy hyc H HI
              go_wp2
              exact ⟨⟨q + 1, s, c, z, by omega, by omega, hz, by go_num, rfl, rfl, rfl, HI1, HN, trivial⟩, by simp only [intOf]; omega⟩
      · obtain rfl : q = l.length := by omega
        have HF : Hid (lok l = (decide (s = 1099511627776) || (decide (c = 1) && decide (z = 1)) || decide (c = 0))) := by
          have e := HI.out
          rw [HK2.out] at e
          show lok l = _
          unfold lok
          rw [win_fine H.out, e.done]
          simp [HK2.out]
        clear HI H HCD HK2
        by_cases k2 : s = 1099511627776
        · have k2z : ((s : Int) == 1099511627776) = true := by simp; omega
          go_wp2
          go_ret
          rw [HF.out]
          exact ⟨by simp [k2], Below.refl _ _⟩
        · have k2z : ((s : Int) == 1099511627776) = false := by simp; omega
          by_cases k1 : c = 1
          · have k1z : ((c : Int) == 1) = true := by simp; omega
            have k0z : ((c : Int) == 0) = false := by simp; omega
            by_cases k3 : z = 1
            · have k3z : ((z : Int) == 1) = true := by simp; omega
              go_wp2
              go_ret
              rw [HF.out]
              exact ⟨by simp [k1, k2, k3], Below.refl _ _⟩
            · have k3z : ((z : Int) == 1) = false := by simp; omega
              go_wp2
              go_ret
              rw [HF.out]
              exact ⟨by simp [k1, k2, k3], Below.refl _ _⟩
          · have k1z : ((c : Int) == 1) = false := by simp; omega
            by_cases k4 : c = 0
            · have k4z : ((c : Int) == 0) = true := by simp; omega
              go_wp2
              go_ret
              rw [HF.out]
              exact ⟨by simp [k2, k4], Below.refl _ _⟩
            · have k4z : ((c : Int) == 0) = false := by simp; omega
              go_wp2
              go_ret
              rw [HF.out]
              exact ⟨by simp [k1, k2, k4], Below.refl _ _⟩
  · have k2z : ((l.length : Int) != 256) = true := by simp; omega
    have R : Hid (lok l = false) := by
      show lok l = false
      have : win l 40 = false := by unfold win; simp [k2]
      unfold lok; rw [this]; rfl
    clear hx k2
    go_enter Try.func84, Try.ntmps84
    go_wp2
    go_ret
    rw [R.out]
    exact ⟨rfl, Below.refl _ _⟩
end Go.Proofs.Ytckkhmmicbpihaa

namespace Go.Proofs.Ytckkhmmicbpihaa
open Go.RowKit Num Hp Ka Hr Ht
set_option linter.unusedVariables false
set_option linter.unusedSimpArgs false
set_option maxRecDepth 100000

/-- What stands at length n and symbol q. -/
def cdR (v : Nat → Nat) (n q : Nat) : List Value := bl2 256 (fun c => .int .i64 ((if come v n q c = true then v c else 0 : Nat) : Int)) (fun c => .int .u64 ((if come v n q c = true then cod v c else 0 : Nat) : Int))
theorem bl2_cong (n : Nat) (a b a' b' : Nat → Value) (ha : ∀ i, i < n → a i = a' i) (hb : ∀ i, i < n → b i = b' i) : bl2 n a b = bl2 n a' b' := by
  unfold bl2
  refine List.map_congr_left fun j hj => ?_
  have hj' : j < n * 2 := List.mem_range.1 hj
  rw [ha (j / 2) (by omega), hb (j / 2) (by omega)]
theorem cdR_cong (v : Nat → Nat) (n q n' q' : Nat) (h : ∀ c, c < 256 → come v n q c = come v n' q' c) : cdR v n q = cdR v n' q' := by
  unfold cdR
  exact bl2_cong _ _ _ _ _ (fun i hi => by rw [h i hi]) (fun i hi => by rw [h i hi])
theorem come_eq {l : Nat → Nat} {n q n' q' c : Nat} (h : (l c < n ∨ (l c = n ∧ c < q)) ↔ (l c < n' ∨ (l c = n' ∧ c < q'))) : come l n q c = come l n' q' c := by
  rw [Bool.eq_iff_iff, come_iff, come_iff]; exact h
theorem cod_zero {v : Nat → Nat} {c : Nat} (h : v c = 0) : cod v c = 0 := by unfold cod; rw [if_neg (by omega)]
theorem cdR_zero (v : Nat → Nat) : cdR v 1 0 = bl2 256 (fun _ => .int .i64 0) (fun _ => .int .u64 0) := by
  unfold cdR
  refine bl2_cong _ _ _ _ _ (fun i _ => ?_) (fun i _ => ?_)
  · by_cases e : come v 1 0 i = true
    · rw [if_pos e]; have := come_iff.1 e; rw [show v i = 0 by omega]; rfl
    · rw [if_neg e]; rfl
  · by_cases e : come v 1 0 i = true
    · rw [if_pos e]; have := come_iff.1 e; rw [cod_zero (show v i = 0 by omega)]; rfl
    · rw [if_neg e]; rfl
theorem cdR_same (v : Nat → Nat) (n q : Nat) (h : v q ≠ n) : cdR v n q = cdR v n (q + 1) := cdR_cong _ _ _ _ _ fun c _ => come_eq (by
  by_cases e : c = q
  · subst e; omega
  · omega)
theorem cdR_over (v : Nat → Nat) (n : Nat) : cdR v n 256 = cdR v (n + 1) 0 := cdR_cong _ _ _ _ _ fun c hc => come_eq (by omega)
theorem cdR_all (v : Nat → Nat) (h : ∀ c, c < 256 → v c ≤ 40) : cdR v 41 0 = cds v := by
  unfold cdR cds
  refine bl2_cong _ _ _ _ _ (fun i hi => ?_) (fun i hi => ?_)
  · rw [if_pos (come_iff.2 (.inl (by have := h i hi; omega)))]
  · rw [if_pos (come_iff.2 (.inl (by have := h i hi; omega)))]
theorem cdR_step (v : Nat → Nat) (q : Nat) (h : q < 256) : ((cdR v (v q) q).set (q * 2) (.int .i64 (v q : Nat))).set (q * 2 + 1) (.int .u64 (cod v q : Nat)) = cdR v (v q) (q + 1) := by
  have hq : come v (v q) (q + 1) q = true := come_iff.2 (.inr ⟨rfl, by omega⟩)
  have := bl2_set 256 (fun c => .int .i64 ((if come v (v q) q c = true then v c else 0 : Nat) : Int)) (fun c => .int .u64 ((if come v (v q) q c = true then cod v c else 0 : Nat) : Int)) (fun c => .int .i64 ((if come v (v q) (q + 1) c = true then v c else 0 : Nat) : Int)) (fun c => .int .u64 ((if come v (v q) (q + 1) c = true then cod v c else 0 : Nat) : Int)) q h
    (fun j hj => by rw [show come v (v q) (q + 1) j = come v (v q) q j from come_eq (by omega)])
    (fun j hj => by rw [show come v (v q) (q + 1) j = come v (v q) q j from come_eq (by omega)])
  simp only [hq, if_true] at this
  exact this

set_option maxHeartbeats 2000000 in
theorem rcodes_bad (ao : Option Addr) (l : List Int) (cap : Nat) (w : World) (hx : Nd w ao l) (hl : l.length ≤ 1048576) (hw : lok l = false) :
    Calls Try.prog 71 #[.slice ao l.length cap] w fun e w' => e = .returned (.tuple #[.slice none 0 0, .int .i64 2]) ∧ Below w.heap.size w w' := by
  have C := hide (rfits_c ao l cap w hx hl)
  rw [hw] at C
  clear hx hw
  go_enter Try.func71, Try.ntmps71
  go_wp2_with fail
  refine (C.out).mono ?_
  rintro e w1 ⟨rfl, hb⟩
  go_wp2
  go_ret2
  exact ⟨rfl, hb⟩
set_option maxHeartbeats 8000000 in
theorem rcodes_c (ao : Option Addr) (l : List Int) (cap : Nat) (w : World) (hx : Nd w ao l) (hl : l.length ≤ 1048576) (hw : lok l = true) :
    Calls Try.prog 71 #[.slice ao l.length cap] w fun e w' => CO w (cntOf l) e w' := by
  obtain ⟨i0, hi, hz0, hz1, hz2⟩ := info_parts (show (Try.prog.info? 94).map (fun i => (i.zero, i.size, i.bytes)) = some (some (.agg #[.int .i64 0, .int .u64 0]), 2, 16) by kernel_rfl)
  have C := hide (rfits_c ao l cap w hx hl)
  rw [hw] at C
  obtain ⟨hk, hf⟩ : win l 40 = true ∧ fitb (cntOf l) = true := by unfold lok at hw; simpa using hw
  obtain ⟨h256, hbd⟩ := win_len hk
  have hs := fit_need hf
  obtain ⟨v, hv⟩ : ∃ v, Hid (v = cntOf l) := ⟨_, rfl⟩
  rw [← hv.out] at hs ⊢
  obtain ⟨b, off, rfl, hbw, hcc⟩ := hx (by omega)
  have HC : Hid (∀ i, i < 256 → gi l i = (v i : Int) ∧ v i ≤ 40) := fun i hi => by
    have := hbd i (by omega)
    rw [hv.out]
    unfold cntOf
    omega
  have HCC : Hid (∀ i, i < 256 → w.cell? ⟨b, off + i, none⟩ = some (.int .i64 (v i : Nat))) := fun i hi => by
    rw [← (HC.out i hi).1]; exact hcc i (by omega)
  have HCB : Hid (∀ c, c < 256 → cod v c ≤ 1099511627776) := fun c hc => by
    show cod v c ≤ _
    by_cases hp : 0 < v c
    · have h40 := (HC.out c hc).2
      unfold cod
      rw [if_pos hp, ← code_is v c hp h40 hc]
      have := fst_le v hs (v c) h40
      have e : (2 : Nat) ^ 40 = 1099511627776 := by decide
      have := cl_mono v (v c) (show c ≤ 256 by omega)
      omega
    · rw [cod_zero (by omega)]; omega
  have HL := hide h256
  have hlg : 256 ≤ l.length := by omega
  clear hx hw hk hf hs h256 hbd hcc
  go_enter Try.func71, Try.ntmps71
  go_wp2_with fail
  refine (C.out).mono ?_
  rintro e w5 ⟨rfl, hb⟩
  have HB5 := hide hb
  have hg0 := hb.size
  clear hb C
  go_wp2_with (at_make; refine wpList_make_full _ rfl _ _ 71 rfl w5.heap.size 94 i0 (.agg #[.int .i64 0, .int .u64 0]) 2 Try.underlying71 hi hz0 hz1 .i64 .i64 _ _ 256 rfl rfl rfl rfl ?b2 ?b3 ?b4 ?_)
  case b2 => rw [hz2]; omega
  case b3 => unfold maxLen; omega
  case b4 => simp
  intro w6 hown hgr
  have B6 := cel_madeC hown
  have hb6 : Below w5.heap.size w5 w6 := (Below.refl _ _).grown hgr (Nat.le_refl _) (fun k h => by cases h)
  rw [← cdR_zero v] at B6
  have HC6 := hide B6
  have HB6 := hide (HB5.out.trans (hb6.mono (by omega)))
  clear hown hgr hb6 hi hz0 hz1 hz2 HB5 B6
  generalize w5.heap.size = gc at *
  go_wp2
  go_loopw [5, 6, 7] (fun vx va vn wr => ∃ (x a n : Nat), 1 ≤ n ∧ n ≤ 41 ∧ vx = .int .u64 x ∧ va = .int .i64 a ∧ vn = .int .i64 n ∧ Hid (At v 256 n 0 x a) ∧ Hid (Cel wr gc (cdR v n 0) 94) ∧ Hid (Below w.heap.size w wr)) (fun _ _ vn _ => 41 - (intOf vn).toNat)
  case atStart => exact ⟨0, 0, 1, by omega, by omega, rfl, rfl, rfl, At.start _ _, HC6, HB6⟩
  case round =>
    clear HC6 HB6
    obtain ⟨x, a, n, hn1, hn2, rfl, rfl, rfl, HA, HD, HB⟩ := hrel
    by_cases hn : n ≤ 40
    · have hnz : (n : Int) ≤ 40 := by omega
      go_wp2
      go_loopw [5, 6, 8] (fun vx va vq wr => ∃ (x a q : Nat), q ≤ 256 ∧ vx = .int .u64 x ∧ va = .int .i64 a ∧ vq = .int .i64 q ∧ Hid (At v 256 n q x a) ∧ Hid (Cel wr gc (cdR v n q) 94) ∧ Hid (Below w.heap.size w wr)) (fun _ _ vq _ => 256 - (intOf vq).toNat)
      case atStart => exact ⟨x, a, 0, by omega, rfl, rfl, rfl, HA, HD, HB⟩
      case round =>
        clear HA HD HB
        obtain ⟨x, a, q, hq, rfl, rfl, rfl, HA, HD, HB⟩ := hrel
        by_cases hlt : q < 256
        · have hltz : (q : Int) < 256 := by omega
          have hlt2 : (q : Int) < (l.length : Int) := by omega
          have c1 := (HB.out.cell (p := ⟨b, off + q, none⟩) hbw).trans (HCC.out q hlt)
          by_cases hp : v q = n
          · subst hp
            have a1 := HA.out.le
            have HA1 := hide (HA.out.put (by omega) hn hlt)
            have hcode : x * 2 ^ (v q - a) = cod v q := by rw [HA.out.code hn]; unfold cod; rw [if_pos (by omega)]
            have hcb := HCB.out q hlt
            rw [hcode] at HA1
            have f1 := HD.out.frozen (q * 2)
            have f2 := HD.out.frozen (q * 2 + 1)
            have e0 := HD.out.cell (q * 2) (by unfold cdR; exact bl2_fst _ _ _ _ hlt)
            have e1 := HD.out.cell (q * 2 + 1) (by unfold cdR; exact bl2_snd _ _ _ _ hlt)
            have HS := hide (cdR_step v q hlt)
            have HD1 : Hid (∀ z : Int, z = (cod v q : Nat) → Cel ((wr.setCell ⟨gc, q * 2, none⟩ (.int .i64 (v q : Nat))).setCell ⟨gc, q * 2 + 1, none⟩ (.int .u64 z)) gc (cdR v (v q) (q + 1)) 94) := fun z hz => by
              subst hz
              rw [← HS.out]
              exact (HD.out.set (q * 2) _).set (q * 2 + 1) _
            have HB1 : Hid (∀ y z, Below w.heap.size w ((wr.setCell ⟨gc, q * 2, none⟩ y).setCell ⟨gc, q * 2 + 1, none⟩ z)) := fun y z => (HB.out.setCell (by show w.heap.size ≤ gc; omega) y).setCell (by show w.heap.size ≤ gc; omega) z
            obtain ⟨t, ht⟩ : ∃ t : Nat, t = v q - a := ⟨_, rfl⟩
            have tz : ((v q : Nat) : Int) - (a : Int) = (t : Int) := by omega
            have t40 : t ≤ 40 := by omega
            rw [← ht] at hcode
            have hx64 : x < 18446744073709551616 := Nat.lt_of_le_of_lt (Nat.le_trans (Nat.le_mul_of_pos_right x (Nat.two_pow_pos t)) (Nat.le_of_eq hcode)) (by omega)
            obtain ⟨P, hP⟩ : ∃ P : Nat, Hid ((2 : Nat) ^ t = P) := ⟨_, rfl⟩
            have ez : (x : Int) * 2 ^ t = ((cod v q : Nat) : Int) := by rw [← hcode, Int.natCast_mul, Int.natCast_pow]; rfl
            clear ht hcode HS HA HD hP
            generalize cod v q = cz at *
            generalize (if come v (v q) q q = true then v q else 0) = z1 at *
            generalize (if come v (v q) q q = true then cz else 0) = z2 at *
            generalize v q = n at *
            go_wp2
            exact ⟨⟨cz + 1, n, q + 1, by omega, by go_num, rfl, by go_num, HA1, HD1.out _ rfl, HB1.out _ _⟩, by simp only [intOf]; omega⟩
          · have hpz : (((v q : Nat) : Int) == (n : Int)) = false := by simp; omega
            have HA1 := hide (HA.out.same hp)
            have HD1 := hide HD.out
            rw [cdR_same v n q hp] at HD1
            clear HA HD
            generalize v q = y at *
            go_wp2
            exact ⟨⟨x, a, q + 1, by omega, rfl, rfl, by go_num, HA1, HD1, HB⟩, by simp only [intOf]; omega⟩
        · obtain rfl : q = 256 := by omega
          have HA1 := hide HA.out.over
          have HD1 := hide HD.out
          rw [cdR_over v n] at HD1
          clear HA HD
          go_wp2
          exact ⟨⟨x, a, n + 1, by omega, by omega, rfl, rfl, by go_num, HA1, HD1, HB⟩, by simp only [intOf]; omega⟩
    · obtain rfl : n = 41 := by omega
      have HD1 := hide HD.out
      rw [cdR_all v (fun c hc => (HC.out c hc).2)] at HD1
      clear HD HA
      go_wp2
      go_ret2
      exact CO.mk gc rfl HD1.out (by omega) HB.out
end Go.Proofs.Ytckkhmmicbpihaa

namespace Go.Proofs.Ytckkhmmicbpihaa
open Go.RowKit Num Hp
set_option linter.unusedVariables false
set_option linter.unusedSimpArgs false
set_option maxRecDepth 100000

/-- A thing of the document, and where its symbols lie. -/
structure TB where
  t : Hn.Tg
  g : Nat
  cap : Nat
instance : Inhabited TB := ⟨⟨⟨0, 0, []⟩, 0, 0⟩⟩
def tbc (x : TB) : List Value := [.int .i64 (x.t.id : Nat), .int .i64 (x.t.wt : Nat), .slice (some ⟨x.g, 0, none⟩) x.t.sy.length x.cap]
def tbs (L : List TB) : List Value := L.flatMap tbc
def tbi (L : List TB) (i : Nat) : TB := L.getD i default
theorem length_tbc (x : TB) : (tbc x).length = 3 := rfl
theorem length_tbs (L : List TB) : (tbs L).length = L.length * 3 := by
  induction L with
  | nil => rfl
  | cons x L ih => unfold tbs at *; rw [List.flatMap_cons, List.length_append, ih, length_tbc, List.length_cons]; omega
theorem tbs_append (L M : List TB) : tbs (L ++ M) = tbs L ++ tbs M := by unfold tbs; rw [List.flatMap_append]
theorem tbs_get : ∀ (L : List TB) (i k : Nat), i < L.length → k < 3 → (tbs L)[i * 3 + k]? = (tbc (tbi L i))[k]?
  | x :: L, 0, k, _, hk => by
    unfold tbs tbi
    rw [List.flatMap_cons, List.getElem?_append_left (by rw [length_tbc]; omega)]
    simp
  | x :: L, i + 1, k, h, hk => by
    have ih := tbs_get L i k (by simpa using h) hk
    have e1 : tbs (x :: L) = tbc x ++ tbs L := by unfold tbs; rw [List.flatMap_cons]
    rw [e1, List.getElem?_append_right (by rw [length_tbc]; omega), length_tbc, show (i + 1) * 3 + k - 3 = i * 3 + k by omega, ih]
    rfl
theorem tg_map (L : List TB) (i : Nat) : Ho.tg (L.map TB.t) i = (tbi L i).t := by
  unfold Ho.tg tbi
  rw [List.getD_eq_getElem?_getD, List.getD_eq_getElem?_getD, List.getElem?_map]
  cases L[i]? <;> rfl
/-- The first two cells of each. -/
def TR (w : World) (g : Nat) (L : List TB) : Prop := g < w.heap.size ∧ ∀ i, i < L.length → w.cell? ⟨g, i * 3, none⟩ = some (.int .i64 ((tbi L i).t.id : Nat)) ∧ w.cell? ⟨g, i * 3 + 1, none⟩ = some (.int .i64 ((tbi L i).t.wt : Nat))
theorem TR.keep {w w' : World} {g : Nat} {L : List TB} (h : TR w g L) (hb : Below w.heap.size w w') : TR w' g L :=
  ⟨Nat.lt_of_lt_of_le h.1 hb.size, fun i hi => ⟨(hb.cell (p := ⟨g, i * 3, none⟩) h.1).trans (h.2 i hi).1, (hb.cell (p := ⟨g, i * 3 + 1, none⟩) h.1).trans (h.2 i hi).2⟩⟩

set_option maxHeartbeats 8000000 in
theorem rleast_c (g cap : Nat) (L : List TB) (w : World) (hx : TR w g L) (h0 : 0 < L.length) (hl : L.length ≤ 256) :
    Calls Try.prog 74 #[.slice (some ⟨g, 0, none⟩) L.length cap] w fun e w' => e = .returned (.int .i64 (Ho.least (L.map TB.t) : Nat)) ∧ Below w.heap.size w w' := by
  obtain ⟨T, hT⟩ : ∃ T, Hid (T = L.map TB.t) := ⟨_, rfl⟩
  have HX := hide hx
  have HTL : Hid (T.length = L.length) := by show T.length = _; rw [hT.out, List.length_map]
  have HTG : Hid (∀ i, (tbi L i).t = Ho.tg T i) := fun i => by rw [hT.out, tg_map]
  rw [← hT.out]
  clear hx
  go_enter Try.func74, Try.ntmps74
  go_wp2
  go_loopw [3, 4] (fun va vi wr => ∃ (q at_ : Nat), q + 1 ≤ L.length ∧ at_ ≤ q ∧ vi = .int .i64 ((q + 1 : Nat) : Int) ∧ va = .int .i64 at_ ∧ Hid (at_ = Ho.leastQ T q) ∧ Hid (Below w.heap.size w wr)) (fun _ vi _ => L.length - (intOf vi).toNat)
  case atStart => exact ⟨0, 0, by omega, by omega, rfl, rfl, rfl, Below.refl _ _⟩
  case round =>
    obtain ⟨q, p, hq, hp, rfl, rfl, HI, HB⟩ := hrel
    by_cases hlt : q + 1 < L.length
    · have hltz : ((q + 1 : Nat) : Int) < (L.length : Int) := by omega
      have hpz : (p : Int) < (L.length : Int) := by omega
      have X := HX.out.keep HB.out
      obtain ⟨e0, e1⟩ := X.2 (q + 1) hlt
      obtain ⟨e2, e3⟩ := X.2 p (by omega)
      rw [HTG.out] at e0 e1 e2 e3
      have HN : Hid (Ho.leastQ T (q + 1) = if (decide ((Ho.tg T (q + 1)).wt < (Ho.tg T p).wt) || (decide ((Ho.tg T (q + 1)).wt = (Ho.tg T p).wt) && decide ((Ho.tg T (q + 1)).id < (Ho.tg T p).id))) = true then q + 1 else p) := by
        show Ho.leastQ T (q + 1) = _
        rw [Ho.leastQ, ← HI.out]
        rfl
      clear X HI HX
      generalize hi : q + 1 = i at *
      generalize (Ho.tg T i).wt = x1 at *
      generalize (Ho.tg T i).id = x0 at *
      generalize (Ho.tg T p).wt = y1 at *
      generalize (Ho.tg T p).id = y0 at *
      by_cases k1 : x1 < y1
      · have k1z : (x1 : Int) < (y1 : Int) := by omega
        have HN1 : Hid (i = Ho.leastQ T i) := by show i = _; rw [HN.out, if_pos (by simp [k1])]
        clear HN
        go_wp2
        go_quiet (fail)
        go_wp2
        exact ⟨⟨i, i, by omega, by omega, by go_num, rfl, HN1, below_drewN HB.out _⟩, by simp only [intOf]; omega⟩
      · have k1z : ¬ (x1 : Int) < (y1 : Int) := by omega
        by_cases k2 : x1 = y1
        · have k2z : ((x1 : Int) == (y1 : Int)) = true := by simp; omega
          by_cases k3 : x0 < y0
          · have k3z : (x0 : Int) < (y0 : Int) := by omega
            have HN1 : Hid (i = Ho.leastQ T i) := by show i = _; rw [HN.out, if_pos (by simp [k2, k3])]
            clear HN
            go_wp2
            go_quiet (fail)
            go_wp2
            exact ⟨⟨i, i, by omega, by omega, by go_num, rfl, HN1, below_drewN HB.out _⟩, by simp only [intOf]; omega⟩
          · have k3z : ¬ (x0 : Int) < (y0 : Int) := by omega
            have HN1 : Hid (p = Ho.leastQ T i) := by show p = _; rw [HN.out, if_neg (by simp [k1, k3])]
            clear HN
            go_wp2
            go_quiet (fail)
            go_wp2
            exact ⟨⟨i, p, by omega, by omega, by go_num, rfl, HN1, below_drewN HB.out _⟩, by simp only [intOf]; omega⟩
        · have k2z : ((x1 : Int) == (y1 : Int)) = false := by simp; omega
          have HN1 : Hid (p = Ho.leastQ T i) := by show p = _; rw [HN.out, if_neg (by simp [k1, k2])]
          clear HN
          go_wp2
          go_quiet (fail)
          go_wp2
          exact ⟨⟨i, p, by omega, by omega, by go_num, rfl, HN1, below_drewN HB.out _⟩, by simp only [intOf]; omega⟩
    · have HR : Hid (Ho.least T = p) := by show Ho.least T = p; unfold Ho.least; rw [HTL.out, HI.out]; congr 1; omega
      have hltz : ¬ ((q + 1 : Nat) : Int) < (L.length : Int) := by omega
      go_wp2
      go_ret
      rw [HR.out]
      exact ⟨rfl, HB.out⟩
end Go.Proofs.Ytckkhmmicbpihaa
