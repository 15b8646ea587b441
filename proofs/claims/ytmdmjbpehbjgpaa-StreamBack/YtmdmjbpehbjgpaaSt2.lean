/-
  The contracts of package stream that make rows: a row as it is, codes by themselves.
-/
import Derived.Test.YtmdmjbpehbjgpaaSt1
import Derived.Deep.DeepCutAuto
namespace Go.Proofs.Ytmdmjbpehbjgpaa
open Go.RowKit Num Bit
set_option linter.unusedVariables false
set_option linter.unusedSimpArgs false
set_option maxRecDepth 100000

theorem set2 {w : World} {b T j : Nat} {v p q : Value} (h : w.cell? ⟨b, j, none⟩ = some v) (hn : b ≠ T) : ((w.setCell ⟨T, 0, none⟩ p).setCell ⟨T, 1, none⟩ q).cell? ⟨b, j, none⟩ = some v :=
  ((((Turned.refl T w).set 0 p).set 1 q).cell (p := ⟨b, j, none⟩) hn).trans h

theorem sasItIs_c (N : Int) (ao : Option Addr) (xs : List Nat) (cap : Nat) (w : World) (hx : Wd w ao xs) (hl : xs.length ≤ 1048576) :
    Calls Try.prog 27 #[.agg #[.int .i64 N, .slice ao xs.length cap]] w fun e w' => ∃ g, e = .returned (.agg #[.int .i64 N, .slice (some ⟨g, 0, none⟩) xs.length xs.length]) ∧ w.heap.size ≤ g ∧ g < w'.heap.size ∧ Own w' g xs ∧ Below w.heap.size w w' := by
  obtain ⟨i0, hi, hz0, hz1, hz2⟩ := info_parts Try.info27
  obtain ⟨W, hW⟩ : ∃ W, W = (w.alloc (.cells #[.int .i64 N, .slice ao xs.length cap] 24)).alloc (.cells #[.int .i64 0, .slice none 0 0] 24) := ⟨_, rfl⟩
  have sW : W.heap.size = w.heap.size + 2 := by rw [hW]; simp
  have xW : Wd W ao xs := by rw [hW]; exact hx.keep ((below_alloc w _).alloc (by simp) _)
  have HW : Hid (W = (w.alloc (.cells #[.int .i64 N, .slice ao xs.length cap] 24)).alloc (.cells #[.int .i64 0, .slice none 0 0] 24)) := hW
  clear hW
  go_enter Try.func27, Try.ntmps27
  go_wp2_with (at_make; rw [← HW.out]; refine wpList_make_full _ rfl _ _ 22 rfl W.heap.size 27 i0 (.int .u64 0) 1 Try.underlying22 hi hz0 hz1 .i64 .i64 _ _ xs.length rfl rfl rfl rfl ?b2 ?b3 ?b4 ?_)
  case b2 => rw [hz2]; omega
  case b3 => unfold maxLen; omega
  case b4 => omega
  intro w1 hown hgr
  have hg1 := own_made hown
  have hb1 : Below W.heap.size W w1 := (Below.refl _ _).grown hgr (Nat.le_refl _) (fun k h => by cases h)
  have KK := box2_cells HW.out hb1
  obtain ⟨⟨k0, k1⟩, ⟨k2, k3⟩, ⟨k4, k5⟩, hz, hw⟩ := KK
  have hx1 := hx.keep hw
  have hlt : w.heap.size + 2 < w1.heap.size := by
    have := (hown.lt (w.heap.size + 2) rfl).2
    exact this
  have HG : Hid (w1.heap[w.heap.size + 2]? = some (.cells (wv (List.replicate xs.length 0)).toArray 27 (0, 0))) := hg1
  clear hown hgr hg1 hi hz0 hz1 hz2
  go_wp2_with (refine wpList_copy_splice rfl (.tmp 8) (.tmp 10) 22 22 rfl 27 Try.underlying22 Try.size27 (some ⟨w.heap.size + 2, 0, none⟩) ao xs.length xs.length xs.length cap (by rfl) (by rfl) (w.heap.size + 2) 0 (wv (List.replicate xs.length 0)) 27 HG.out (wv xs) ?h1 ?h2 ?h3 ?h4 W.heap.size W hb1 (Nat.le_of_eq sW) ?_)
  case h1 => simp [wv, Nat.min_comm]
  case h2 =>
    intro hp
    obtain ⟨b, off, rfl, hb, hc⟩ := hx1 (by simp [wv] at hp; omega)
    refine ⟨⟨b, off, none⟩, rfl, ?_⟩
    intro j v hj
    have hj2 : j < xs.length := by
      have := (List.getElem?_eq_some_iff.1 hj).1
      simpa [wv] using this
    have ev : v = .int .u64 (gt xs j) := by
      rw [wv, List.getElem?_map, gt_get xs j hj2] at hj
      simp only [Option.map_some, Option.some.injEq] at hj
      rw [← hj]
    rw [ev, ← hc j hj2]
    unfold Addr.add
    split
    · subst_vars; rfl
    · rfl
  case h3 => simp [wv]
  case h4 => intro v hv; obtain ⟨a, _, rfl⟩ := List.mem_map.1 hv; rfl
  intro w2 H2 hb2
  have sp : splice (wv (List.replicate xs.length 0)) 0 (wv xs) = wv xs := by
    have := splice_cp xs xs.length
    rw [List.take_length, cp_self] at this
    exact this
  rw [sp] at H2
  have hl2 : w.heap.size + 2 < w2.heap.size := by
    have := H2.out
    exact (Array.getElem?_eq_some_iff.1 this).1
  rw [← sW] at hb2
  have KK := box2_cells HW.out hb2
  clear k0 k1 k2 k3 k4 k5 hz hw
  obtain ⟨⟨k0, k1⟩, ⟨k2, k3⟩, ⟨k4, k5⟩, hz, hw⟩ := KK
  have ow : Own w2 (w.heap.size + 2) xs := H2.out
  have ne : w.heap.size + 2 ≠ w.heap.size + 1 := by omega
  clear H2 hb2 hb1 HG
  go_wp2
  refine bodyPost_ret (v := .agg #[.int .i64 N, .slice (some ⟨w.heap.size + 2, 0, none⟩) xs.length xs.length]) (by simp [results, Try.results27, go_sem, k2, k3]) rfl ⟨w.heap.size + 2, rfl, by omega, ?_, ?_, ?_⟩
  · rw [size_set, size_set]; exact hl2
  · exact (ow.set_other ne _).set_other ne _
  · exact (hw.setCell (by simp) _).setCell (by simp) _

set_option maxHeartbeats 4000000 in
theorem rest_c (N : Int) (ao : Option Addr) (xs : List Nat) (cap x : Nat) (w : World) (hx : Wd w ao xs) (hf : Fit xs) (h0 : x ≠ 0) (h64 : x < 18446744073709551616) (hl : xs.length ≤ 1048576) :
    Calls Try.prog 44 #[.agg #[.int .i64 N, .slice ao xs.length cap], .int .u64 x] w fun e w' => ∃ bo dap, e = .returned (.agg #[.int .i64 (appN N xs ((bl x - 1 : Nat) : Int)), .slice bo (appL N xs x ((bl x - 1 : Nat) : Int)).length dap]) ∧ OutF w w' bo (appL N xs x ((bl x - 1 : Nat) : Int)) dap := by
  have p := bl_pos x h0
  have q := bl64 x h64
  have LN : ∀ w0 : World, Calls Try.prog 36 #[.int .u64 x] w0 fun e w' => e = .returned (.int .i64 (bl x)) ∧ w' = w0 := fun w0 => len_c x (by omega) (by omega) w0
  have AP : Hid (∀ w0 : World, Wd w0 ao xs → Calls Try.prog 43 #[.agg #[.int .i64 N, .slice ao xs.length cap], .int .u64 x, .int .i64 ((bl x : Int) - 1)] w0 fun e w' => ∃ bo dap, e = .returned (.tuple #[.agg #[.int .i64 (appN N xs ((bl x - 1 : Nat) : Int)), .slice bo (appL N xs x ((bl x - 1 : Nat) : Int)).length dap], .int .i64 (appE N xs ((bl x - 1 : Nat) : Int))]) ∧ OutF w0 w' bo (appL N xs x ((bl x - 1 : Nat) : Int)) dap) := fun w0 h => by
    rw [show (bl x : Int) - 1 = ((bl x - 1 : Nat) : Int) by omega]
    exact app_f N ao xs cap x _ w0 h hf h64 hl
  have hs : IntKind.i64.wrap ((bl x : Int) - 1) = (bl x : Int) - 1 := wraps_i64 _ (by omega) (by omega)
  generalize appN N xs ((bl x - 1 : Nat) : Int) = R at *
  generalize appL N xs x ((bl x - 1 : Nat) : Int) = L at *
  generalize appE N xs ((bl x - 1 : Nat) : Int) = E at *
  generalize bl x = n at *
  obtain ⟨W, hW⟩ : ∃ W, W = (w.alloc (.cells #[.int .i64 N, .slice ao xs.length cap] 24)).alloc ZO := ⟨_, rfl⟩
  have KK := box2_cells hW (Below.refl W.heap.size W)
  have sW : Hid (W.heap.size = w.heap.size + 2) := by unfold Hid; rw [hW]; simp
  have HW : Hid (W = (w.alloc (.cells #[.int .i64 N, .slice ao xs.length cap] 24)).alloc ZO) := hW
  have B : Box W w.heap.size (.int .i64 N) (.slice ao xs.length cap) := ⟨by rw [sW.out]; omega, KK.1.1, KK.1.2⟩
  have Z : ZB W (w.heap.size + 1) := ⟨by rw [sW.out]; omega, KK.2.1.1, KK.2.1.2, KK.2.2.1.1, KK.2.2.1.2⟩
  have hw : Below w.heap.size w W := KK.2.2.2.2
  have XA : Wd W.drew ao xs := hx.keep hw.drew
  have XB : Wd (W.alloc ZO).drew ao xs := hx.keep (hw.trans ((below_alloc W ZO).mono hw.size)).drew
  clear KK hW
  have b0 := B.2.1
  have b1 := B.2.2
  have bl0 := B.1
  have neA : w.heap.size ≠ W.heap.size := Nat.ne_of_lt bl0
  have neZ : w.heap.size + 1 ≠ W.heap.size := Nat.ne_of_lt Z.lt
  have neB := neA
  go_enter Try.func44, Try.ntmps44
  go_wp2
  rw [← HW.out]
  go_region_held3 (fun w' => w'.cell? ⟨w.heap.size, 0, none⟩ = some (.int .i64 N) ∧ w'.cell? ⟨w.heap.size, 1, none⟩ = some (.slice ao xs.length cap)) (first | with_reducible exact ⟨b0, b1⟩ | with_reducible exact ⟨old1 b0 bl0, old1 b1 bl0⟩ | with_reducible exact ⟨old1d b0 bl0, old1d b1 bl0⟩ | with_reducible exact ⟨set2 b0 neA, set2 b1 neA⟩ | with_reducible exact ⟨set2 b0 neB, set2 b1 neB⟩ | exact ⟨b0, b1⟩)
    (first | (go_at_call 36; refine (LN _).mono ?_; rintro e w' ⟨rfl, rfl⟩) | (go_at_call 43; refine (AP.out _ ?_).mono ?_; (first | with_reducible exact XA | with_reducible exact XB); rintro e wa ⟨bo, dap, rfl, O1, O2, O3, O4, hb⟩; (first | (with_reducible have PZ := ZB.keep (ZB.newd W) hb; with_reducible have hT := below_twod hb; with_reducible replace O4 := fresh_one O4; have PZ2 := PZ; obtain ⟨zl, z0, z1, v0, v1⟩ := PZ2) | with_reducible have hT := below_d hb); clear hb XA XB; replace B := B.keep hT; replace Z := Z.keep hT; replace hw := hw.trans (hT.mono hw.size); replace b0 := B.2.1; replace b1 := B.2.2; replace bl0 := B.1; have hsz := hT.size; replace neB : w.heap.size ≠ wa.heap.size := Nat.ne_of_lt bl0; clear hT))
  · have bw := below_alloc wa (.cells #[.int .i64 R, .slice bo L.length dap] 24)
    have O4' : ∀ (a : Addr), bo = some a → w.heap.size + 2 ≤ a.block := fun a ha => by have := O4 a ha; have e := sW.out; simp at this; omega
    have hwv := hw.trans (bw.mono hw.size)
    have OV := O1.keep bw
    have ZV := Z.keep bw
    obtain ⟨zl, z0, z1, v0, v1⟩ := ZV
    have OW := OV.turn (((Turned.refl (w.heap.size + 1) _).set 0 (.int .i64 R)).set 1 (.slice bo L.length dap)) (fun _ a ha => by have := O4' a ha; omega)
    clear LN AP sW HW neA neZ B Z b0 b1 bl0 hsz neB hs
    go_wp2
    exact bodyPost_ret (v := .agg #[.int .i64 R, .slice bo L.length dap]) (by simp [results, Try.results44, go_sem, z0, z1]) rfl ⟨bo, dap, rfl, OW, O2, O3, (fun a ha => by have := O4' a ha; omega), (hwv.setCell (by simp) _).setCell (by simp) _⟩
  all_goals
    have O4' : ∀ (a : Addr), bo = some a → w.heap.size + 3 ≤ a.block := fun a ha => by have := O4 a ha; have e := sW.out; omega
    have PV := PZ.put (.int .i64 R) (.slice bo L.length dap)
    have ZV := Z.other neZ (.int .i64 R) (.slice bo L.length dap)
    have e := sW.out
    have tt := ((Turned.refl W.heap.size wa).set 0 (.int .i64 R)).set 1 (.slice bo L.length dap)
    have hwv : Below w.heap.size w ((wa.setCell ⟨W.heap.size, 0, none⟩ (.int .i64 R)).setCell ⟨W.heap.size, 1, none⟩ (.slice bo L.length dap)) := hw.trans (tt.below (by omega))
    have OV := O1.turn tt (fun _ a ha => by have := O4' a ha; omega)
    have OW := OV.turn (((Turned.refl (w.heap.size + 1) _).set 0 (.int .i64 R)).set 1 (.slice bo L.length dap)) (fun _ a ha => by have := O4' a ha; omega)
    clear LN AP sW HW neA neZ B Z b0 b1 bl0 hsz neB hs PZ z0 z1 v0 v1 zl tt
    obtain ⟨-, p0, p1⟩ := PV
    obtain ⟨zl, z0, z1, v0, v1⟩ := ZV
    clear e
    generalize (wa.setCell ⟨W.heap.size, 0, none⟩ (.int .i64 R)).setCell ⟨W.heap.size, 1, none⟩ (.slice bo L.length dap) = V at *
    go_wp2
    exact bodyPost_ret (v := .agg #[.int .i64 R, .slice bo L.length dap]) (by simp [results, Try.results44, go_sem, z0, z1]) rfl ⟨bo, dap, rfl, OW, O2, O3, (fun a ha => by have := O4' a ha; omega), (hwv.setCell (by simp) _).setCell (by simp) _⟩
end Go.Proofs.Ytmdmjbpehbjgpaa
