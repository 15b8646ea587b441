/-
  The contract of the document's Second.
-/
import Derived.Test.YtbkagloonlddfaaSt2
namespace Go.Proofs.Ytbkagloonlddfaa
open Go.RowKit Num
set_option linter.unusedVariables false
set_option linter.unusedSimpArgs false
set_option maxRecDepth 100000

namespace Lg
/-- What stands behind c, of the first q. -/
def nx (t : List Nat) (c : Nat) : Nat → List Nat
  | 0 => []
  | q + 1 => if gt t q = c then nx t c q ++ [gt t (q + 1)] else nx t c q
theorem nx_le (t : List Nat) (c : Nat) : ∀ q, (nx t c q).length ≤ q
  | 0 => Nat.le_refl _
  | q + 1 => by
    have := nx_le t c q
    rw [nx]
    split
    · rw [List.length_append]; simp; omega
    · omega
theorem nx_bytes {t : List Nat} (h : Bytes t) (c : Nat) : ∀ q, Bytes (nx t c q)
  | 0 => fun x hx => by cases hx
  | q + 1 => by
    have ih := nx_bytes h c q
    rw [nx]
    split
    · intro x hx
      rcases List.mem_append.1 hx with hx | hx
      · exact ih x hx
      · rw [List.mem_singleton.1 hx]; exact gt_lt h _
    · exact ih
noncomputable def scS (t : List Nat) : Nat → Nat
  | 0 => 0
  | c + 1 => scS t c + enN (toI (cts (nx t c (t.length - 1))))
noncomputable def scN (t : List Nat) : Nat := if t.length ≤ 8192 then scS t 256 else 0
theorem okE_cts {t : List Nat} (h : t.length ≤ 65536) : okE (toI (cts t)) := by
  refine ⟨by rw [length_toI]; exact length_cp _ _, fun i hi => ?_⟩
  rw [gi_toI, show gt (cts t) i = cn t i t.length from gt_cp _ _ _ hi]
  have := cn_le t i t.length
  omega
theorem vl_cts (t : List Nat) {i : Nat} (h : i < 256) : vl (toI (cts t)) i = cn t i t.length := by
  unfold vl
  rw [gi_toI, Int.toNat_natCast]
  exact gt_cp _ _ _ h
theorem en_congr {v u : Nat → Nat} (N : Nat) : ∀ {n : Nat}, (∀ i, i < n → v i = u i) → en v N n = en u N n
  | 0, _ => rfl
  | n + 1, h => by rw [en, en, en_congr N fun i hi => h i (by omega), h n (by omega)]
theorem sm_congr {v u : Nat → Nat} : ∀ {n : Nat}, (∀ i, i < n → v i = u i) → sm v n = sm u n
  | 0, _ => rfl
  | n + 1, h => by rw [sm, sm, sm_congr fun i hi => h i (by omega), h n (by omega)]
theorem enV_le {l : List Int} (h : okE l) : enN l ≤ 402653185 := by
  unfold enN
  rw [if_pos h]
  unfold enV
  have hs : ∀ n, n ≤ 256 → sm (vl l) n ≤ n * 65536 := by
    intro n
    induction n with
    | zero => intro _; exact Nat.zero_le _
    | succ n ih =>
      intro hn
      have h1 := ih (by omega)
      have h2 := h.2 n (by omega)
      have h3 : vl l n ≤ 65536 := by unfold vl; omega
      rw [sm]
      omega
  have h4 := hs 256 (Nat.le_refl _)
  by_cases h0 : sm (vl l) 256 = 0
  · have z : ∀ n, n ≤ 256 → en (vl l) (sm (vl l) 256) n = 0 := by
      intro n
      induction n with
      | zero => intro _; rfl
      | succ n ih =>
        intro hn
        have := v_le_sm (vl l) (i := n) (n := 256) (by omega)
        rw [en, ih (by omega), show vl l n = 0 by omega, Nat.zero_mul]
    rw [z 256 (Nat.le_refl _)]
    decide
  · have := en_le (vl l) (sm (vl l) 256) (by omega) h0 256
    have h5 : sm (vl l) 256 * 1572864 ≤ 16777216 * 1572864 := Nat.mul_le_mul_right _ (by omega)
    omega
theorem en_none : enN (toI (cts [])) = 0 := by
  have h : okE (toI (cts [])) := okE_cts (by simp)
  unfold enN
  rw [if_pos h]
  have z : ∀ i, i < 256 → vl (toI (cts [])) i = 0 := fun i hi => by rw [vl_cts [] hi]; rfl
  unfold enV
  rw [sm_congr (u := fun _ => 0) z, en_congr _ (u := fun _ => 0) z]
  have e : ∀ N n, en (fun _ => 0) N n = 0 := by
    intro N n
    induction n with
    | zero => rfl
    | succ n ih => rw [en, ih, Nat.zero_mul]
  rw [e]
theorem scS_le {t : List Nat} (h : t.length ≤ 8192) : ∀ c, scS t c ≤ c * 402653185
  | 0 => Nat.zero_le _
  | c + 1 => by
    have := scS_le h c
    have h2 := enV_le (okE_cts (t := nx t c (t.length - 1)) (by have := nx_le t c (t.length - 1); omega))
    rw [scS]
    omega
end Lg
theorem yv_app (l m : List Nat) : yv l ++ yv m = yv (l ++ m) := by simp [yv]
set_option maxHeartbeats 8000000 in
theorem rsec_c (ao : Option Addr) (t : List Nat) (cap : Nat) (w : World) (hx : Bd w ao t) (hb : Bytes t) :
    Calls Try.prog 17 #[.slice ao t.length cap] w fun e w' => e = .returned (.int .i64 (Lg.scN t : Nat)) ∧ Below w.heap.size w w' := by
  by_cases hl : t.length ≤ 8192
  · have R : Hid (Lg.scN t = Lg.scS t 256) := by show _ = _; unfold Lg.scN; rw [if_pos hl]
    obtain ⟨i0, hi, hz0, hz1, hz2⟩ := info_parts Try.info5
    have HI := hide (And.intro hi (And.intro hz0 (And.intro hz1 hz2)))
    have CC : Hid (∀ w0 (l : List Nat) ao cap, Bd w0 ao l → Bytes l → l.length ≤ 8192 → Calls Try.prog 13 #[.slice ao l.length cap] w0 fun e w' => ∃ g, e = .returned (.slice (some ⟨g, 0, none⟩) 256 256) ∧ Nd w' (some ⟨g, 0, none⟩) (toI (Lg.cts l)) ∧ w0.heap.size ≤ g ∧ Below w0.heap.size w0 w') := fun w0 l ao cap h h2 h3 => rcts_c ao l cap w0 h h2 (by omega)
    have EE : Hid (∀ w0 (l : List Nat) ao, Nd w0 ao (toI (Lg.cts l)) → Calls Try.prog 16 #[.slice ao 256 256] w0 fun e w' => e = .returned (.int .i64 (Lg.enN (toI (Lg.cts l)) : Nat)) ∧ Below w0.heap.size w0 w') := fun w0 l ao h => by
      have := rent_c ao (toI (Lg.cts l)) 256 w0 h
      rw [length_toI, show (Lg.cts l).length = 256 from Lg.length_cp _ _] at this
      exact this
    have HX := hide hx
    have HSL := hide (Lg.scS_le hl)
    have HBY := hide hb
    obtain ⟨n, hn⟩ : ∃ n, Hid (n = t.length) := ⟨_, rfl⟩
    have hn2 : n ≤ 8192 := by rw [hn.out]; exact hl
    have hn3 : ¬ (8192 : Int) < (n : Int) := by omega
    rw [← hn.out]
    clear hx hb hl hi hz0 hz1 hz2
    go_enter Try.func17, Try.ntmps17
    go_wp2
    go_loopw [3, 4] (fun v3 v4 wr => ∃ c s : Nat, c ≤ 256 ∧ s ≤ 103079215360 ∧ v3 = .int .i64 s ∧ v4 = .int .i64 c ∧ Hid (s = Lg.scS t c) ∧ Hid (Below w.heap.size w wr)) (fun _ v4 _ => 256 - (intOf v4).toNat)
    case atStart => exact ⟨0, 0, Nat.zero_le _, Nat.zero_le _, rfl, rfl, rfl, Below.refl _ _⟩
    case round =>
      obtain ⟨c, s, hc, hs, rfl, rfl, HS, HB⟩ := hrel
      by_cases hlt : c < 256
      · have hltz : (c : Int) < 256 := by omega
        have HS1 : Hid (Lg.scS t (c + 1) = s + Lg.enN (toI (Lg.cts (Lg.nx t c (n - 1))))) := by rw [HS.out, hn.out]; rfl
        have HSB : Hid (Lg.scS t (c + 1) ≤ 103079215360) := by have := HSL.out (c + 1); show _ ≤ _; omega
        clear HS
        go_wp2
        obtain ⟨wo, rfl⟩ : ∃ wo, wo = wr := ⟨_, rfl⟩
        go_loopw [5, 6] (fun v5 v6 wr => ∃ (q k dp : Nat) (bo : Option Addr), q ≤ n ∧ (q + 1 ≤ n ∨ q = 0) ∧ k ≤ q ∧ k ≤ dp ∧ v5 = .slice bo k dp ∧ v6 = .int .i64 q ∧ Hid (k = (Lg.nx t c q).length) ∧ Hid (wr.ownsRow w.heap.size 5 1 (.slice bo k dp) k (yv (Lg.nx t c q))) ∧ Hid (Below w.heap.size w wr)) (fun _ v6 _ => n - (intOf v6).toNat)
        case atStart => exact ⟨0, 0, 0, none, Nat.zero_le _, .inr rfl, Nat.le_refl _, Nat.le_refl _, rfl, rfl, rfl, World.ownsRow_nil _ _ _ _, HB⟩
        case round =>
          clear HB
          obtain ⟨q, k, dp, bo, hq, hq1, hk, hkd, rfl, rfl, HK, HO, HB⟩ := hrel
          by_cases hlq : q + 1 < n
          · have hlqz : (q : Int) + 1 < (n : Int) := by omega
            obtain ⟨b, off, rfl, hb0, hcc⟩ := HX.out (by rw [← hn.out]; omega)
            have e1 := (HB.out.cell (p := ⟨b, off + q, none⟩) hb0).trans (hcc q (by rw [← hn.out]; omega))
            have e2 := (HB.out.cell (p := ⟨b, off + (q + 1), none⟩) hb0).trans (hcc (q + 1) (by rw [← hn.out]; exact hlq))
            have g1 := gt_lt HBY.out q
            have g2 := gt_lt HBY.out (q + 1)
            have NX : Lg.nx t c (q + 1) = if gt t q = c then Lg.nx t c q ++ [gt t (q + 1)] else Lg.nx t c q := rfl
            have HNX := hide NX
            have hsz : w.heap.size ≤ wr.heap.size := HB.out.size
            clear hcc NX
            generalize gt t q = x at *
            generalize gt t (q + 1) = y at *
            by_cases hxc : x = c
            · have hz : ((x : Int) == (c : Int)) = true := by simp; omega
              have hz2 : (x == c) = true := by simp; omega
              rw [if_pos hxc] at HNX
              have HXC := hide hxc
              obtain ⟨hi0, hz0, hz1, hz3⟩ := HI.out
              have e2' := (((below_alloc wr (.cells #[.int .u8 (y : Nat)] 5))).cell (p := ⟨b, off + (q + 1), none⟩) (by show b < wr.heap.size; omega)).trans e2
              have OW := HO.out
              clear hxc HO
              go_wp2_with (at_builtin; refine Ap.wpList_append_u rfl _ _ 22 rfl w.heap.size 5 i0 (.int .u8 0) 1 Try.underlying22 hi0 hz0 hz1 hz3 rfl _ k (yv (Lg.nx t c q)) rfl (OW.alloc _) _ 1 1 [.int .u8 (y : Nat)] rfl rfl ?src ?one ?c3 ?c4 ?c5 ?_)
              case src => exact fun _ => ⟨_, rfl, fun j u hj => by
                match j, hj with
                | 0, hj => simp at hj; subst hj; simp [Addr.add]
                | j + 1, hj => simp at hj⟩
              case one => simp [Value.oneCell']
              case c3 => unfold maxLen; omega
              case c4 => omega
              case c5 => simp; omega
              intro bo2 dp2 w3 own3 hle3 hB3
              rw [show yv (Lg.nx t c q) ++ [.int .u8 (y : Nat)] = yv (Lg.nx t c (q + 1)) by rw [HNX.out, ← yv_app]; rfl] at own3
              have HO3 := hide own3
              have HK3 : Hid (k + 1 = (Lg.nx t c (q + 1)).length) := by rw [HNX.out, List.length_append, ← HK.out]; rfl
              have HB3 : Hid (Below w.heap.size w w3) := HB.out.trans (((Below.refl _ _).alloc hsz _).trans hB3)
              clear own3 hB3 hi0 hz0 hz1 hz3 OW HB HK e1 e2 e2'
              go_wp2
              exact ⟨⟨q + 1, k + 1, dp2, bo2, by omega, .inl (by omega), by omega, hle3, rfl, by go_num, HK3, HO3, HB3⟩, by simp only [intOf]; omega⟩
            · have hz : ((x : Int) == (c : Int)) = false := by simp; omega
              have hz2 : (x == c) = false := by simp; omega
              rw [if_neg hxc] at HNX
              have HO3 : Hid (wr.ownsRow w.heap.size 5 1 (.slice bo k dp) k (yv (Lg.nx t c (q + 1)))) := by rw [HNX.out]; exact HO.out
              have HK3 : Hid (k = (Lg.nx t c (q + 1)).length) := by rw [HNX.out]; exact HK.out
              clear hxc HO HK HNX
              go_wp2
              exact ⟨⟨q + 1, k, dp, bo, by omega, .inl (by omega), by omega, hkd, rfl, by go_num, HK3, HO3, HB⟩, by simp only [intOf]; omega⟩
          · have hlqz : ¬ (q : Int) + 1 < (n : Int) := by omega
            have eq : q = n - 1 := by omega
            rw [← eq] at HS1
            have NB := hide (Lg.nx_bytes HBY.out c q)
            have NL := Lg.nx_le t c q
            have BD := hide (bd_own HO.out)
            obtain ⟨L, hL⟩ : ∃ L, Hid (L = Lg.nx t c q) := ⟨_, rfl⟩
            rw [← hL.out] at HS1 NB NL BD HK
            clear eq HO hlq
            by_cases hk0 : 0 < k
            · have hkz : (0 : Int) < (k : Int) := by omega
              have C1 := hide (CC.out wr L bo dp BD.out NB.out (by omega))
              rw [← HK.out] at C1
              go_wp2_with fail
              refine (C1.out).mono ?_
              rintro e w3 ⟨g, rfl, hN, _, hb3⟩
              have E1 := hide (EE.out w3 L _ hN)
              have HB3 := hide (HB.out.trans (hb3.mono HB.out.size))
              have HSB2 := HSB.out
              rw [HS1.out] at HSB2
              generalize Lg.enN (toI (Lg.cts L)) = ee at *
              clear hN hb3 C1 HB CC EE BD
              go_wp2_with fail
              refine (E1.out).mono ?_
              rintro e w4 ⟨rfl, hb4⟩
              have HB4 := hide (HB3.out.trans (hb4.mono HB3.out.size))
              clear hb4 E1 HB3
              go_wp2
              exact ⟨⟨c + 1, s + ee, by omega, HSB2, by go_num, by go_num, HS1.out.symm, HB4⟩, by simp only [intOf]; omega⟩
            · have hkz : ¬ (0 : Int) < (k : Int) := by omega
              have eL : L = [] := List.eq_nil_of_length_eq_zero (by have := HK.out; omega)
              have HS2 : Hid (Lg.scS t (c + 1) = s) := by rw [HS1.out, eL, Lg.en_none]; rfl
              clear HS1 eL HK
              go_wp2
              exact ⟨⟨c + 1, s, by omega, hs, rfl, by go_num, HS2.out.symm, HB⟩, by simp only [intOf]; omega⟩
      · obtain rfl : c = 256 := by omega
        go_wp2
        go_ret
        rw [R.out, ← HS.out]
        exact ⟨rfl, HB.out⟩
  · have R : Hid (Lg.scN t = 0) := by show _ = _; unfold Lg.scN; rw [if_neg hl]
    have h2 : (8192 : Int) < (t.length : Int) := by omega
    clear hx hl
    go_enter Try.func17, Try.ntmps17
    go_wp2
    go_ret
    rw [R.out]
    exact ⟨rfl, Below.refl _ _⟩
end Go.Proofs.Ytbkagloonlddfaa
