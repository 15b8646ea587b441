/-
  The contract of the program's Second.
-/
import Derived.Test.YtbkagloonlddfaaSp4
namespace Go.Proofs.Ytbkagloonlddfaa
open Go.RowKit Num
set_option linter.unusedVariables false
set_option linter.unusedSimpArgs false
set_option maxRecDepth 100000

namespace Lg
/-- How often c has d behind it, among the first q. -/
def fc (t : List Nat) (c d q : Nat) : Nat := Su.ct (fun j => decide (gt t j = c ∧ gt t (j + 1) = d)) q
theorem fc_step (t : List Nat) (c d q : Nat) : fc t c d (q + 1) = fc t c d q + (decide (gt t q = c ∧ gt t (q + 1) = d)).toNat := rfl
theorem fc_le (t : List Nat) (c d q : Nat) : fc t c d q ≤ q := Su.ct_le _ _
def Fl (t : List Nat) (q : Nat) : List Nat := (List.range 65536).map fun k => fc t (k / 256) (k % 256) q
theorem length_Fl (t : List Nat) (q : Nat) : (Fl t q).length = 65536 := by
  unfold Fl
  rw [List.length_map, List.length_range]
theorem gt_Fl (t : List Nat) (q k : Nat) (h : k < 65536) : gt (Fl t q) k = fc t (k / 256) (k % 256) q := Su.gt_map _ _ _ h
theorem gt_Fl2 (t : List Nat) (q x y : Nat) (hx : x < 256) (hy : y < 256) : gt (Fl t q) (x * 256 + y) = fc t x y q := by
  rw [gt_Fl t q _ (by omega), show (x * 256 + y) / 256 = x by omega, show (x * 256 + y) % 256 = y by omega]
theorem fl_zero (t : List Nat) : List.replicate 65536 0 = Fl t 0 := by
  refine Su.list_ext (by rw [length_Fl, List.length_replicate]) fun i hi => ?_
  rw [List.length_replicate] at hi
  rw [gt_Fl _ _ _ hi]
  unfold gt
  rw [List.getD_eq_getElem?_getD, List.getElem?_replicate, if_pos hi]
  rfl
theorem fl_step (t : List Nat) (q : Nat) (h1 : gt t q < 256) (h2 : gt t (q + 1) < 256) : (Fl t q).set (gt t q * 256 + gt t (q + 1)) (fc t (gt t q) (gt t (q + 1)) q + 1) = Fl t (q + 1) := by
  refine Su.list_ext (by rw [List.length_set, length_Fl, length_Fl]) fun i hi => ?_
  rw [List.length_set, length_Fl] at hi
  rw [Su.gt_set _ _ _ _ (by rw [length_Fl]; omega), gt_Fl _ _ _ hi, gt_Fl _ _ _ hi, fc_step]
  generalize gt t q = x at *
  generalize gt t (q + 1) = y at *
  by_cases e : x * 256 + y = i
  · rw [if_pos e, show i / 256 = x by omega, show i % 256 = y by omega, decide_eq_true ⟨rfl, rfl⟩]
    rfl
  · rw [if_neg e, decide_eq_false (by omega)]
    rfl
theorem cn_app (l : List Nat) (a d : Nat) : ∀ q, q ≤ l.length → cn (l ++ [a]) d q = cn l d q
  | 0, _ => rfl
  | q + 1, h => by
    rw [cn_step, cn_step, cn_app l a d q (by omega)]
    congr 3
    unfold gt
    rw [List.getD_eq_getElem?_getD, List.getD_eq_getElem?_getD, List.getElem?_append_left (by omega)]
theorem fc_nx (t : List Nat) (c d : Nat) : ∀ q, fc t c d q = cn (nx t c q) d (nx t c q).length
  | 0 => rfl
  | q + 1 => by
    have ih := fc_nx t c d q
    rw [fc_step, nx, ih]
    by_cases h : gt t q = c
    · rw [if_pos h, List.length_append, show ([gt t (q + 1)] : List Nat).length = 1 from rfl, cn_step, cn_app _ _ _ _ (Nat.le_refl _)]
      congr 2
      have : gt (nx t c q ++ [gt t (q + 1)]) (nx t c q).length = gt t (q + 1) := by
        generalize gt t (q + 1) = a
        unfold gt
        rw [List.getD_eq_getElem?_getD, List.getElem?_append_right (Nat.le_refl _), Nat.sub_self]
        rfl
      rw [this]
      simp [h]
    · rw [if_neg h, decide_eq_false (fun g => h g.1)]
      rfl
end Lg
theorem info_flt (t : List Nat) : (Try.prog.info? 39).map (fun i => (i.zero, i.size)) = some (some (.agg (iv (Lg.Fl t 0)).toArray), (iv (Lg.Fl t 0)).length) := by
  rw [← Lg.fl_zero]
  exact info_fl
theorem nd_row {w : World} {g : Nat} {t : List Nat} {q c : Nat} {T : TypeId} (h : Cel w g (iv (Lg.Fl t q)) T) (hc : c < 256) : Nd w (some ⟨g, c * 256, none⟩) (toI (Lg.cts (Lg.nx t c q))) := by
  intro h0
  refine ⟨g, c * 256, rfl, h.lt, fun i hi => ?_⟩
  rw [length_toI, show (Lg.cts (Lg.nx t c q)).length = 256 from Lg.length_cp _ _] at hi
  rw [gi_toI, show gt (Lg.cts (Lg.nx t c q)) i = Lg.cn (Lg.nx t c q) i (Lg.nx t c q).length from Lg.gt_cp _ _ _ hi, ← Lg.fc_nx, ← Lg.gt_Fl2 t q c i hc hi]
  exact h.cell _ (iv_get _ _ (by rw [Lg.length_Fl]; omega))
set_option maxHeartbeats 8000000 in
theorem ssec_c (ao : Option Addr) (t : List Nat) (cap : Nat) (w : World) (hx : Bd w ao t) (hb : Bytes t) :
    Calls Try.prog 9 #[.slice ao t.length cap] w fun e w' => e = .returned (.int .i64 (Lg.scN t : Nat)) ∧ Below w.heap.size w w' := by
  by_cases hl : t.length ≤ 8192
  · have R : Hid (Lg.scN t = Lg.scS t 256) := by show _ = _; unfold Lg.scN; rw [if_pos hl]
    have EE : Hid (∀ w0 (l : List Nat) ao cap, Nd w0 ao (toI (Lg.cts l)) → Calls Try.prog 10 #[.slice ao 256 cap] w0 fun e w' => e = .returned (.int .i64 (Lg.enN (toI (Lg.cts l)) : Nat)) ∧ Below w0.heap.size w0 w') := fun w0 l ao cap h => by
      have := sent_c ao (toI (Lg.cts l)) cap w0 h
      rw [length_toI, show (Lg.cts l).length = 256 from Lg.length_cp _ _] at this
      exact this
    have HX := hide hx
    have HSL := hide (Lg.scS_le hl)
    have HBY := hide hb
    obtain ⟨n, hn⟩ : ∃ n, Hid (n = t.length) := ⟨_, rfl⟩
    have hn2 : n ≤ 8192 := by rw [hn.out]; exact hl
    have hn3 : ¬ (8192 : Int) < (n : Int) := by omega
    rw [← hn.out]
    clear hx hb hl
    go_enter Try.func9, Try.ntmps9
    go_wp2_with (refine alloc_z _ (info_flt t) ?_)
    intro w1 hc1 hb1 hs1
    have HL1 := hide hc1
    have HB1 := hide hb1
    clear hc1 hb1 hs1
    obtain ⟨gl, hgl⟩ : ∃ gl, Hid (gl = w.heap.size) := ⟨_, rfl⟩
    rw [← hgl.out] at HL1 ⊢
    have hgle : w.heap.size ≤ gl := by have := hgl.out; omega
    have hgle2 : gl ≤ w.heap.size := by have := hgl.out; omega
    (try simp only [Act.put, List.setIfInBounds_toArray, List.set])
    go_wp2
    go_loopw [4] (fun v4 wr => ∃ q : Nat, (q + 1 ≤ n ∨ q = 0) ∧ v4 = .int .i64 ((q : Int) + 1) ∧ Hid (Cel wr gl (iv (Lg.Fl t q)) 39) ∧ Hid (Below w.heap.size w wr)) (fun v4 _ => n - (intOf v4).toNat)
    case atStart => exact ⟨0, .inr rfl, rfl, HL1, HB1⟩
    case round =>
      clear HL1 HB1
      obtain ⟨q, hq, rfl, HL, HB⟩ := hrel
      by_cases hlt : q + 1 < n
      · have hltz : (q : Int) + 1 < (n : Int) := by omega
        obtain ⟨b, off, rfl, hb0, hcc⟩ := HX.out (by rw [← hn.out]; omega)
        have e1 := (HB.out.cell (p := ⟨b, off + q, none⟩) hb0).trans (hcc q (by rw [← hn.out]; omega))
        have e2 := (HB.out.cell (p := ⟨b, off + (q + 1), none⟩) hb0).trans (hcc (q + 1) (by rw [← hn.out]; omega))
        have g1 := gt_lt HBY.out q
        have g2 := gt_lt HBY.out (q + 1)
        have n0 := HL.out.cell (gt t q * 256 + gt t (q + 1)) (iv_get _ _ (by rw [Lg.length_Fl]; omega))
        rw [Lg.gt_Fl2 _ _ _ _ g1 g2] at n0
        have f0 := HL.out.frozen (gt t q * 256 + gt t (q + 1))
        have glt : gl < wr.heap.size := HL.out.lt
        have cle := Lg.fc_le t (gt t q) (gt t (q + 1)) q
        have L1 : Hid (∀ k, Cel ((wr.drewN k).setCell ⟨gl, gt t q * 256 + gt t (q + 1), none⟩ (.int .i64 ((Lg.fc t (gt t q) (gt t (q + 1)) q : Nat) + 1 : Int))) gl (iv (Lg.Fl t (q + 1))) 39) := fun k => by
          have := HL.out.set (gt t q * 256 + gt t (q + 1)) (.int .i64 ((Lg.fc t (gt t q) (gt t (q + 1)) q + 1 : Nat) : Int))
          rw [iv_set, Lg.fl_step _ _ g1 g2] at this
          exact this
        have B1 : Hid (∀ k, Below w.heap.size w ((wr.drewN k).setCell ⟨gl, gt t q * 256 + gt t (q + 1), none⟩ (.int .i64 ((Lg.fc t (gt t q) (gt t (q + 1)) q : Nat) + 1 : Int)))) := fun k => (below_drewN HB.out k).setCell (p := ⟨gl, gt t q * 256 + gt t (q + 1), none⟩) hgle _
        clear HL HB hcc
        generalize Lg.fc t (gt t q) (gt t (q + 1)) q = z at *
        generalize gt t (q + 1) = y at *
        generalize gt t q = x at *
        have xz : (x : Int) < 256 := by omega
        have yz : (y : Int) < 256 := by omega
        go_wp2
        go_region
        go_wp2
        exact ⟨⟨q + 1, by omega, by go_num, L1.out 1, B1.out 1⟩, by simp only [intOf]; omega⟩
      · have hltz : ¬ (q : Int) + 1 < (n : Int) := by omega
        have hqn : q = n - 1 := by omega
        have EC : Hid (∀ c w0, c < 256 → Below wr.heap.size wr w0 → Calls Try.prog 10 #[.slice (some ⟨gl, c * 256, none⟩) 256 256] w0 fun e w' => e = .returned (.int .i64 (Lg.enN (toI (Lg.cts (Lg.nx t c q))) : Nat)) ∧ Below w0.heap.size w0 w') := fun c w0 hc h => EE.out w0 _ _ _ (nd_row (HL.out.kept h) hc)
        have HS1 : Hid (∀ c, Lg.scS t (c + 1) = Lg.scS t c + Lg.enN (toI (Lg.cts (Lg.nx t c q)))) := fun c => by rw [hqn, hn.out]; rfl
        have HSB : Hid (∀ c, c ≤ 256 → Lg.scS t c ≤ 103079215360) := fun c hc => by have := HSL.out c; omega
        have hwz : w.heap.size ≤ wr.heap.size := HB.out.size
        clear HL EE HSL HX HBY hqn
        go_wp2
        obtain ⟨wo, rfl⟩ : ∃ wo, wo = wr := ⟨_, rfl⟩
        go_loopw [5, 31] (fun v5 v31 wr => ∃ c s : Nat, c ≤ 256 ∧ s ≤ 103079215360 ∧ v5 = .int .i64 s ∧ v31 = .int .i64 c ∧ Hid (s = Lg.scS t c) ∧ Hid (Below wo.heap.size wo wr)) (fun _ v31 _ => 256 - (intOf v31).toNat)
        case atStart => exact ⟨0, 0, Nat.zero_le _, Nat.zero_le _, rfl, rfl, rfl, Below.refl _ _⟩
        case round =>
          obtain ⟨c, s, hc, hs, rfl, rfl, HS, HB2⟩ := hrel
          by_cases hlt2 : c < 256
          · have hltz2 : (c : Int) < 256 := by omega
            have HE := hide (EC.out c wr hlt2 HB2.out)
            have HS2 := HS1.out c
            have HS3 := HSB.out (c + 1) (by omega)
            rw [← HS.out] at HS2
            rw [HS2] at HS3
            have HS2 := hide HS2
            generalize Lg.enN (toI (Lg.cts (Lg.nx t c q))) = y at *
            go_wp2_with fail
            refine HE.out.mono ?_
            rintro e w1 ⟨rfl, hb1⟩
            have HB3 := hide (HB2.out.trans (hb1.mono HB2.out.size))
            clear hb1 HE HB2
            go_wp2
            exact ⟨⟨c + 1, s + y, by omega, HS3, by go_num, by go_num, HS2.out.symm, HB3⟩, by simp only [intOf]; omega⟩
          · obtain rfl : c = 256 := by omega
            have HB4 := hide (HB.out.trans (HB2.out.mono hwz))
            go_wp2
            go_ret
            rw [R.out, ← HS.out]
            exact ⟨rfl, HB4.out⟩
  · have R : Hid (Lg.scN t = 0) := by show _ = _; unfold Lg.scN; rw [if_neg hl]
    have h2 : (8192 : Int) < (t.length : Int) := by omega
    clear hx
    generalize t.length = n at *
    go_enter Try.func9, Try.ntmps9
    go_wp2
    go_ret
    rw [R.out]
    exact ⟨rfl, Below.refl _ _⟩
end Go.Proofs.Ytbkagloonlddfaa
