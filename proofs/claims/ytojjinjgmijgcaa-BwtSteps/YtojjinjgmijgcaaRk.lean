/-
  The contract of the document's Array.
-/
import Derived.Test.YtojjinjgmijgcaaRj
import Derived.Test.YtojjinjgmijgcaaSl
namespace Go.Proofs.Ytojjinjgmijgcaa
open Go.RowKit
set_option linter.unusedVariables false
set_option linter.unusedSimpArgs false
set_option maxRecDepth 100000

namespace Su
/-- A row, one place longer, whose numbers behind place k are shifted. -/
def shf (l : List Nat) (k : Nat) : List Nat := (List.range (l.length + 1)).map fun j => if j ≤ k then gt (l ++ [0]) j else gt l (j - 1)
theorem length_shf (l : List Nat) (k : Nat) : (shf l k).length = l.length + 1 := by simp [shf]
theorem gt_shf (l : List Nat) (k j : Nat) (h : j ≤ l.length) : gt (shf l k) j = if j ≤ k then gt (l ++ [0]) j else gt l (j - 1) := gt_map _ _ _ (by omega)
theorem shf_all (l : List Nat) : shf l l.length = l ++ [0] := by
  refine list_ext (by simp [length_shf]) fun i hi => ?_
  rw [length_shf] at hi
  rw [gt_shf _ _ _ (by omega), if_pos (by omega)]
theorem shf_step (l : List Nat) (k : Nat) (h0 : 0 < k) (hk : k ≤ l.length) : (shf l k).set k (gt l (k - 1)) = shf l (k - 1) := by
  refine list_ext (by simp [length_shf]) fun i hi => ?_
  rw [List.length_set, length_shf] at hi
  rw [gt_set _ _ _ _ (by rw [length_shf]; omega), gt_shf _ _ _ (by omega), gt_shf _ _ _ (by omega)]
  by_cases e : k = i
  · subst e
    rw [if_pos rfl, if_neg (by omega)]
  · rw [if_neg e]
    by_cases c : i ≤ k
    · rw [if_pos c, if_pos (by omega)]
    · rw [if_neg c, if_neg (by omega)]
theorem shf_prev (l : List Nat) (k : Nat) (h0 : 0 < k) (hk : k ≤ l.length) : gt (shf l k) (k - 1) = gt l (k - 1) := by
  rw [gt_shf _ _ _ (by omega), if_pos (by omega), gt_app, if_pos (by omega)]
theorem shf_end (l : List Nat) (p i : Nat) (hp : p ≤ l.length) : (shf l p).set p i = l.take p ++ i :: l.drop p := by
  refine list_ext (by simp [length_shf]; omega) fun j hj => ?_
  rw [List.length_set, length_shf] at hj
  rw [gt_set _ _ _ _ (by rw [length_shf]; omega), gt_shf _ _ _ (by omega), gt_app (l.take p), List.length_take, Nat.min_eq_left hp]
  by_cases e : p = j
  · subst e
    rw [if_pos rfl, if_neg (by omega), Nat.sub_self]
    rfl
  · rw [if_neg e]
    by_cases c : j < p
    · rw [if_pos (by omega), if_pos c, gt_take _ _ _ c, gt_app, if_pos (by omega)]
    · rw [if_neg (by omega), if_neg c]
      obtain ⟨d, hd⟩ : ∃ d, j - p = d + 1 := ⟨j - p - 1, by omega⟩
      rw [hd]
      show _ = gt (l.drop p) d
      rw [gt_drop]
      congr 1
      omega
end Su
/-- A row of numbers of the call's own, in block g. -/
structure OR (w : World) (base : Nat) (g cap : Nat) (l : List Nat) : Prop where
  own : w.ownsRow base 3 1 (.slice (some ⟨g, 0, none⟩) l.length cap) l.length (iv l)
theorem OR.cell {w : World} {base g cap : Nat} {l : List Nat} (h : OR w base g cap l) (j : Nat) (hj : j < l.length) : w.cell? ⟨g, j, none⟩ = some (.int .i64 (gt l j)) := by
  rw [h.own.cellAt j (by omega), iv_get l j hj]
theorem OR.frozen {w : World} {base g cap : Nat} {l : List Nat} (h : OR w base g cap l) (j : Nat) : w.frozen? ⟨g, j, none⟩ = false := h.own.frozenAt j
theorem OR.set {w : World} {base g cap : Nat} {l : List Nat} (h : OR w base g cap l) (j v : Nat) : OR (w.setCell ⟨g, j, none⟩ (.int .i64 (v : Int))) base g cap (l.set j v) := by
  have := (h.own.stored j (.int .i64 (v : Int))).1
  rw [iv_set] at this
  exact ⟨by rw [List.length_set]; exact this⟩
theorem OR.lt {w : World} {base g cap : Nat} {l : List Nat} (h : OR w base g cap l) : base ≤ g ∧ g < w.heap.size := h.own.lt g rfl
theorem OR.keep {w w' : World} {base g cap : Nat} {l : List Nat} (h : OR w base g cap l) (hb : Below w.heap.size w w') : OR w' base g cap l := ⟨owns_below h.own hb⟩
theorem own_nil_app {w : World} {base : Nat} {l : List Nat} {ao : Option Addr} {cap : Nat} (h : w.ownsRow base 3 1 (.slice ao l.length cap) l.length (iv l)) (h0 : 0 < l.length) : ∃ g, ao = some ⟨g, 0, none⟩ := by
  obtain ⟨_, ⟨e, e2⟩ | ⟨g, c, cur, e, _⟩⟩ := h
  · omega
  · simp only [Value.slice.injEq] at e
    exact ⟨g, e.1⟩

set_option maxHeartbeats 8000000 in
theorem rarr_c (ao : Option Addr) (t : List Nat) (cap : Nat) (w : World) (hx : Bd w ao t) (hb : Bytes t) (hc : t.length ≤ cap) (hl : t.length ≤ 8192) :
    Calls Try.prog 13 #[.slice ao t.length cap] w fun e w' => ∃ bo dap, e = .returned (.tuple #[.slice bo (Su.sa t).length dap, .int .i64 0]) ∧ Nd w' bo (toI (Su.sa t)) ∧ (Su.sa t).length ≤ dap ∧ Below w.heap.size w w' := by
  obtain ⟨i0, hi, hz0, hz1, hz2⟩ := info_parts Try.info3
  have CL : Hid (∀ w0 (i j : Nat), Below w.heap.size w w0 → i ≤ t.length → j ≤ t.length → Calls Try.prog 21 #[.slice ao t.length cap, .int .i64 i, .int .i64 j] w0 fun e w' => e = .returned (.bool (Su.ah t i j)) ∧ Below w0.heap.size w0 w') := fun w0 i j h h1 h2 => by
    have := rless_c ao t cap i j w0 (hx.keep h) hb hc (by omega)
    rw [less_in t i j h1 h2] at this
    exact this
  obtain ⟨n, hn⟩ : ∃ n, Hid (n = t.length) := ⟨_, rfl⟩
  have hn2 : n ≤ 8192 := by rw [hn.out]; exact hl
  have hn3 : ¬ (8192 : Int) < (n : Int) := by omega
  rw [← hn.out] at CL ⊢
  have HI := hide (And.intro hi (And.intro hz0 (And.intro hz1 hz2)))
  clear hx hb hl hc hi hz0 hz1 hz2
  go_enter Try.func13, Try.ntmps13
  go_wp2
  obtain ⟨gl, hgl⟩ : ∃ gl, Hid (gl = w.heap.size) := ⟨_, rfl⟩
  have O0 : Hid (OR (w.alloc (.cells #[.int .i64 (n : Nat)] 3)) gl gl 1 [n]) := ⟨by
    have := World.ownsRow_lit (base := w.heap.size) (e := 3) (size := 1) w #[.int .i64 (n : Nat)] 1 (Nat.le_refl _) (by decide) rfl
    rw [hgl.out]
    exact this⟩
  have B0 : Hid (Below gl w (w.alloc (.cells #[.int .i64 (n : Nat)] 3))) := by rw [hgl.out]; exact below_alloc w _
  have P0 := hide (Su.op_end t)
  have hgl2 : gl ≤ w.heap.size := by rw [hgl.out]; exact Nat.le_refl _
  rw [← hn.out] at P0
  rw [← hgl.out] at CL ⊢
  go_loopw [4, 5] (fun vo vi wr => ∃ (p g cp : Nat) (l : List Nat), p ≤ n ∧ vi = .int .i64 ((p : Int) - 1) ∧ vo = .slice (some ⟨g, 0, none⟩) (n + 1 - p) cp ∧ Hid (Su.Op t p l) ∧ Hid (l.length = n + 1 - p) ∧ Hid (OR wr gl g cp l) ∧ Hid (Below gl w wr)) (fun _ vi _ => (intOf vi + 1).toNat)
  case atStart => exact ⟨n, gl, 1, [n], Nat.le_refl _, rfl, by rw [show n + 1 - n = 1 by omega], P0, by show [n].length = _; simp, O0, B0⟩
  case round =>
    clear O0 B0 P0
    obtain ⟨p, g, cp, l, hp, rfl, rfl, HP, HL, HO, HB⟩ := hrel
    by_cases h0 : p = 0
    · subst h0
      have E : Hid (l = Su.sa t) := HP.out.ord.eq
      have HCP : Hid (n + 1 - 0 ≤ cp) := by
        obtain ⟨_, _, e, hc, _⟩ := owns_shape HO.out.own
        rw [HL.out] at e hc
        injection e with _ _ e3
        show n + 1 - 0 ≤ cp
        omega
      go_wp2
      go_ret2
      rw [← E.out, HL.out]
      exact ⟨some ⟨g, 0, none⟩, cp, rfl, nd_own HO.out.own, HCP.out, by rw [← hgl.out]; exact HB.out⟩
    · obtain ⟨i, rfl⟩ : ∃ i, p = i + 1 := ⟨p - 1, by omega⟩
      have ei : ((i + 1 : Nat) : Int) - 1 = (i : Int) := by omega
      rw [ei]
      obtain ⟨m, hm⟩ : ∃ m, Hid (m = l.length) := ⟨_, rfl⟩
      have hm2 : m = n - i := by rw [hm.out, HL.out]; omega
      rw [show n + 1 - (i + 1) = m by omega]
      have hm3 : m ≤ 8192 := by omega
      have HM2 := hide hm2
      clear ei h0 hm2
      have hin : i < n := by omega
      have HOP : Hid (∀ j, j < m → gt l j ≤ n) := fun j hj => by
        have := (HP.out.2.2.2 (gt l j)).1 (List.mem_of_getElem? (gt_get l j (by rw [← hm.out]; exact hj)))
        rw [hn.out]
        exact this.2
      go_wp2
      obtain ⟨wo, rfl⟩ : ∃ wo, wo = wr := ⟨_, rfl⟩
      go_loopw [6, 7] (fun v6 v7 wr => ∃ lo hi : Nat, lo ≤ hi ∧ hi ≤ m ∧ v6 = .int .i64 lo ∧ v7 = .int .i64 hi ∧ Hid (∀ j, j < lo → Su.ah t (gt l j) i = true) ∧ Hid (∀ j, hi ≤ j → j < m → Su.ah t (gt l j) i = false) ∧ Hid (OR wr gl g cp l) ∧ Hid (Below gl w wr)) (fun v6 v7 _ => (intOf v7 - intOf v6).toNat)
      case atStart => exact ⟨0, m, Nat.zero_le _, Nat.le_refl _, rfl, rfl, fun j hj => absurd hj (by omega), fun j h1 h2 => absurd h2 (by omega), HO, HB⟩
      case round =>
        clear HO HB
        obtain ⟨lo, hi, h1, h2, rfl, rfl, HT, HF, HO, HB⟩ := hrel
        by_cases hlt : lo < hi
        · obtain ⟨md, hmd⟩ : ∃ md, Hid (md = (lo + hi) / 2) := ⟨_, rfl⟩
          have hmd1 : lo ≤ md := by rw [hmd.out]; omega
          have hmd2 : md < hi := by rw [hmd.out]; omega
          have emd : ((lo : Int) + (hi : Int)) / 2 = (md : Int) := by rw [hmd.out]; omega
          have hltz : (lo : Int) < (hi : Int) := by omega
          have c1 := HO.out.cell md (by rw [← hm.out]; omega)
          have C1 := hide (CL.out wr (gt l md) i HB.out (HOP.out md (by omega)) (by omega))
          have gn := HOP.out md (by omega)
          have L1 : Hid (∀ j, md ≤ j → j < m → Su.ah t (gt l md) i = false → Su.ah t (gt l j) i = false) := fun j q1 q2 q3 => by
            refine Bool.eq_false_iff.2 fun q4 => ?_
            have := Su.so_cut HP.out.1 q1 (gt_get l md (by rw [← hm.out]; omega)) (gt_get l j (by rw [← hm.out]; omega)) i q4
            rw [q3] at this
            cases this
          have L2 : Hid (∀ j, j ≤ md → Su.ah t (gt l md) i = true → Su.ah t (gt l j) i = true) := fun j q1 q2 =>
            Su.so_cut HP.out.1 q1 (gt_get l j (by rw [← hm.out]; omega)) (gt_get l md (by rw [← hm.out]; omega)) i q2
          obtain ⟨b, hb⟩ : ∃ b, Hid (b = Su.ah t (gt l md) i) := ⟨_, rfl⟩
          rw [← hb.out] at C1 L1 L2
          generalize gt l md = x at *
          go_wp2_with fail
          refine (C1.out).mono ?_
          rintro e w3 ⟨rfl, hb3⟩
          have HO3 := hide (HO.out.keep hb3)
          have HB3 := hide (HB.out.trans (hb3.mono (Nat.le_trans hgl2 HB.out.size)))
          clear HO HB hb3 C1 c1
          cases b with
          | true =>
            go_wp2
            exact ⟨⟨md + 1, hi, by omega, by omega, by go_num, rfl, fun j hj => L2.out j (by omega) trivial, HF, HO3, HB3⟩, by simp only [intOf]; omega⟩
          | false =>
            go_wp2
            exact ⟨⟨lo, md, by omega, by omega, rfl, rfl, HT, fun j q1 q2 => L1.out j q1 q2 trivial, HO3, HB3⟩, by simp only [intOf]; omega⟩
        · obtain rfl : lo = hi := by omega
          have HN : Hid (Su.Op t i (l.take lo ++ i :: l.drop lo)) := HP.out.ins (by rw [← hn.out]; omega) (by rw [← hm.out]; omega) HT.out (fun j q1 q2 => HF.out j q1 (by rw [hm.out]; exact q2))
          obtain ⟨hi0, hz0, hz1, hz2⟩ := HI.out
          have OW := HO.out.own
          have LT := HO.out.lt
          rw [← hm.out] at OW
          have hsw : gl ≤ wr.heap.size := by omega
          clear HO HT HF
          go_wp2_with (at_builtin; refine Ap.wpList_append_u rfl _ _ 23 rfl gl 3 i0 (.int .i64 0) 8 Try.underlying23 hi0 hz0 hz1 hz2 rfl _ m (iv l) rfl (OW.alloc _) _ 1 1 [.int .i64 0] rfl rfl ?src ?one ?c3 ?c4 ?c5 ?_)
          case src => exact fun _ => ⟨_, rfl, fun j u hj => by
            match j, hj with
            | 0, hj => simp at hj; subst hj; simp [Addr.add]
            | j + 1, hj => simp at hj⟩
          case one => simp [Value.oneCell']
          case c3 => unfold maxLen; omega
          case c4 => omega
          case c5 => simp; omega
          intro bo dp w3 own3 hle3 hB3
          have ls : (Su.shf l m).length = m + 1 := by rw [Su.length_shf, hm.out]
          rw [show iv l ++ [.int .i64 0] = iv (Su.shf l m) by rw [hm.out, Su.shf_all, ← iv_app]; rfl] at own3
          obtain ⟨g3, rfl⟩ : ∃ g3, bo = some ⟨g3, 0, none⟩ := own_nil_app (l := Su.shf l m) (cap := dp) (by rw [ls]; exact own3) (by rw [ls]; omega)
          have HO3 : Hid (OR w3 gl g3 dp (Su.shf l m)) := ⟨by rw [ls]; exact own3⟩
          have HB3 : Hid (Below gl w w3) := HB.out.trans (((Below.refl _ _).alloc hsw _).trans hB3)
          have HLS : Hid (∀ k, (Su.shf l k).length = m + 1) := fun k => by rw [Su.length_shf, hm.out]
          clear own3 hB3 hi0 hz0 hz1 hz2 OW HB ls LT
          go_wp2
          obtain ⟨w4, rfl⟩ : ∃ w4, w4 = wr := ⟨_, rfl⟩
          go_loopw [9] (fun v9 wr => ∃ k : Nat, lo ≤ k ∧ k ≤ m ∧ v9 = .int .i64 k ∧ Hid (OR wr gl g3 dp (Su.shf l k)) ∧ Hid (Below gl w wr)) (fun v9 _ => (intOf v9).toNat)
          case atStart => exact ⟨m, by omega, Nat.le_refl _, by go_num, HO3, HB3⟩
          case round =>
            clear HO3 HB3
            obtain ⟨k, k1, k2, rfl, HO, HB⟩ := hrel
            have HO' := HO.out
            by_cases hk : lo < k
            · have c1 := HO'.cell (k - 1) (by rw [HLS.out]; omega)
              have c2 := HO'.cell k (by rw [HLS.out]; omega)
              have f2 := HO'.frozen k
              have lt2 := HO'.lt.2
              have lt1 := HO'.lt.1
              rw [Su.shf_prev l k (by omega) (by rw [← hm.out]; exact k2)] at c1
              have S1 : Hid (OR (wr.setCell ⟨g3, k, none⟩ (.int .i64 (gt l (k - 1) : Nat))) gl g3 dp (Su.shf l (k - 1))) := by
                have := HO'.set k (gt l (k - 1))
                rwa [Su.shf_step l k (by omega) (by rw [← hm.out]; exact k2)] at this
              have B1 : Hid (Below gl w (wr.setCell ⟨g3, k, none⟩ (.int .i64 (gt l (k - 1) : Nat)))) := HB.out.setCell (p := ⟨g3, k, none⟩) lt1 _
              generalize gt (Su.shf l k) k = y at *
              obtain ⟨d, rfl⟩ : ∃ d, k = d + 1 := ⟨k - 1, by omega⟩
              rw [Nat.add_sub_cancel] at c1 S1 B1
              have hkz : (lo : Int) < ((d + 1 : Nat) : Int) := by omega
              have gx : Hid (gt l d ≤ n) := HOP.out d (by omega)
              clear HO HO'
              generalize gt l d = x at *
              go_wp2
              exact ⟨⟨d, by omega, by omega, by go_num, S1, B1⟩, by simp only [intOf]; omega⟩
            · obtain rfl : k = lo := by omega
              have c2 := HO'.cell k (by rw [HLS.out]; omega)
              have f2 := HO'.frozen k
              have lt2 := HO'.lt.2
              have lt1 := HO'.lt.1
              have S1 : Hid (OR (wr.setCell ⟨g3, k, none⟩ (.int .i64 (i : Nat))) gl g3 dp (l.take k ++ i :: l.drop k)) := by
                have := HO'.set k i
                rwa [Su.shf_end l k i (by rw [← hm.out]; exact k2)] at this
              have B1 : Hid (Below gl w (wr.setCell ⟨g3, k, none⟩ (.int .i64 (i : Nat)))) := HB.out.setCell (p := ⟨g3, k, none⟩) lt1 _
              have LE : Hid ((l.take k ++ i :: l.drop k).length = n + 1 - i) := by
                show _ = _
                rw [Su.perm_ins.length_eq, List.length_cons, ← hm.out, HM2.out]
                omega
              generalize gt (Su.shf l k) k = y at *
              clear HO HO'
              have em : n + 1 - i = m + 1 := by have := HM2.out; omega
              have EM := hide em
              clear em
              go_wp2
              exact ⟨⟨i, g3, dp, _, by omega, rfl, by rw [EM.out], HN, LE, S1, B1⟩, by simp only [intOf]; omega⟩
end Go.Proofs.Ytojjinjgmijgcaa
