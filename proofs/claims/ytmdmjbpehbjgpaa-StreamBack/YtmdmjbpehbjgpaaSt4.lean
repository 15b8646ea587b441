/-
  The contracts of PutGamma and PutDelta.
-/
import Derived.Test.YtmdmjbpehbjgpaaSt3
namespace Go.Proofs.Ytmdmjbpehbjgpaa
open Go.RowKit Num Bit
set_option linter.unusedVariables false
set_option linter.unusedSimpArgs false
set_option maxRecDepth 100000

theorem putg_z (N : Int) (ao : Option Addr) (xs : List Nat) (cap : Nat) (w : World) (hx : Wd w ao xs) (hf : Fit xs) (hl : xs.length ≤ 1048576) :
    Calls Try.prog 12 #[.agg #[.int .i64 N, .slice ao xs.length cap], .int .u64 0] w fun e w' => ∃ bo dap, e = .returned (.tuple #[.agg #[.int .i64 N, .slice bo xs.length dap], .int .i64 2]) ∧ OutF w w' bo xs dap := by
  obtain ⟨W, hW⟩ : ∃ W, W = (w.alloc (.cells #[.int .i64 N, .slice ao xs.length cap] 24)).alloc ZO := ⟨_, rfl⟩
  have sW : Hid (W.heap.size = w.heap.size + 2) := by unfold Hid; rw [hW]; simp
  have HW : Hid (W = (w.alloc (.cells #[.int .i64 N, .slice ao xs.length cap] 24)).alloc ZO) := hW
  have hx1 : Wd ((w.alloc (.cells #[.int .i64 N, .slice ao xs.length cap] 24)).alloc ZO) ao xs := hx.keep ((below_alloc w _).alloc (by simp) _)
  clear hW
  go_enter Try.func12, Try.ntmps12
  go_wp2_with fail
  refine (sasItIs_c _ _ _ _ _ hx1 hl).mono ?_
  rintro e w1 ⟨g, rfl, hg, hgl, hO, hb⟩
  have KK := box2_cells rfl hb
  obtain ⟨⟨k0, k1⟩, ⟨k2, k3⟩, ⟨k4, k5⟩, hz, hw⟩ := KK
  have hg2 : w.heap.size + 2 ≤ g := by simpa using hg
  have ne : g ≠ w.heap.size + 1 := by omega
  clear hb hx1
  go_wp2
  exact bodyPost_ret (v := .tuple #[.agg #[.int .i64 N, .slice (some ⟨g, 0, none⟩) xs.length xs.length], .int .i64 2]) (by simp [results, Try.results12, go_sem, k2, k3]) rfl ⟨some ⟨g, 0, none⟩, xs.length, rfl, ((hO.set_other ne _).set_other ne _).wd, hf, Nat.le_refl _, fresh_of (by omega), (hw.setCell (by simp) _).setCell (by simp) _⟩

set_option maxHeartbeats 4000000 in
theorem putg_n (N : Int) (ao : Option Addr) (xs : List Nat) (cap x : Nat) (w : World) (hx : Wd w ao xs) (hf : Fit xs) (hl : xs.length ≤ 1048576) (h0 : x ≠ 0) (h64 : x < 18446744073709551616) :
    Calls Try.prog 12 #[.agg #[.int .i64 N, .slice ao xs.length cap], .int .u64 x] w fun e w' => ∃ bo dap, e = .returned (.tuple #[.agg #[.int .i64 (joinN N xs (cL false x) (cR false x)), .slice bo (joinL N xs (cL false x) (cR false x)).length dap], .int .i64 (joinE N xs (cL false x) (cR false x))]) ∧ OutF w w' bo (joinL N xs (cL false x) (cR false x)) dap := by
  have GO : Hid (∀ w0 : World, Calls Try.prog 29 #[.int .u64 x] w0 fun e w' => ∃ bo dap, e = .returned (.agg #[.int .i64 (cL false x), .slice bo (cR false x).length dap]) ∧ OutF w0 w' bo (cR false x) dap) := fun w0 => gammaOf_c x w0 h0 h64
  have JN : Hid (∀ (w0 : World) (bo : Option Addr) (dap : Nat), Wd w0 ao xs → Wd w0 bo (cR false x) → Calls Try.prog 28 #[.agg #[.int .i64 N, .slice ao xs.length cap], .agg #[.int .i64 (cL false x), .slice bo (cR false x).length dap]] w0 fun e w' => ∃ co eap, e = .returned (.tuple #[.agg #[.int .i64 (joinN N xs (cL false x) (cR false x)), .slice co (joinL N xs (cL false x) (cR false x)).length eap], .int .i64 (joinE N xs (cL false x) (cR false x))]) ∧ OutF w0 w' co (joinL N xs (cL false x) (cR false x)) eap) := fun w0 bo dap h1 h2 => join_f N ao xs cap _ bo _ dap w0 h1 h2 hf (fit_cR _ _) hl
  generalize joinN N xs (cL false x) (cR false x) = R at *
  generalize joinL N xs (cL false x) (cR false x) = L at *
  generalize joinE N xs (cL false x) (cR false x) = E at *
  generalize cL false x = A at *
  generalize cR false x = M at *
  have hz : ((x : Int) == 0) = false := by simp; omega
  obtain ⟨W, hW⟩ : ∃ W, W = (w.alloc (.cells #[.int .i64 N, .slice ao xs.length cap] 24)).alloc ZO := ⟨_, rfl⟩
  have KK := box2_cells hW (Below.refl W.heap.size W)
  have sW : Hid (W.heap.size = w.heap.size + 2) := by unfold Hid; rw [hW]; simp
  have HW : Hid (W = (w.alloc (.cells #[.int .i64 N, .slice ao xs.length cap] 24)).alloc ZO) := hW
  have B : Box W w.heap.size (.int .i64 N) (.slice ao xs.length cap) := ⟨by rw [sW.out]; omega, KK.1.1, KK.1.2⟩
  have Z : ZB W (w.heap.size + 1) := ⟨by rw [sW.out]; omega, KK.2.1.1, KK.2.1.2, KK.2.2.1.1, KK.2.2.1.2⟩
  have hw : Below w.heap.size w W := KK.2.2.2.2
  clear KK hW
  have b0 := B.2.1
  have b1 := B.2.2
  have ne : w.heap.size ≠ w.heap.size + 1 := by omega
  go_enter Try.func12, Try.ntmps12
  go_wp2
  rw [← HW.out]
  go_region_held3 (fun w' => w'.cell? ⟨w.heap.size, 0, none⟩ = some (.int .i64 N) ∧ w'.cell? ⟨w.heap.size, 1, none⟩ = some (.slice ao xs.length cap)) (first | with_reducible exact ⟨b0, b1⟩ | with_reducible exact ⟨set2 b0 ne, set2 b1 ne⟩ | exact ⟨b0, b1⟩)
    (first | (go_at_call 29; refine (GO.out _).mono ?_; rintro e wa ⟨bo, dap, rfl, O1, O2, O3, O4, hb⟩; (with_reducible have hT := below_d hb); clear hb; replace B := B.keep hT; replace Z := Z.keep hT; replace hw := hw.trans (hT.mono hw.size); have XA := hx.keep hw; replace b0 := B.2.1; replace b1 := B.2.2; have hsz := hT.size; clear hT) | (go_at_call 28; refine (JN.out _ _ _ ?_ ?_).mono ?_; (with_reducible exact XA); (with_reducible exact O1); rintro e wb ⟨co, eap, rfl, P1, P2, P3, P4, hb⟩; replace B := B.keep hb; replace Z := Z.keep hb; replace hw := hw.trans (hb.mono hw.size); replace b0 := B.2.1; replace b1 := B.2.2; have Z2 := Z; obtain ⟨zl, z0, z1, v0, v1⟩ := Z2; clear hb))
  have P5 : ∀ a, co = some a → w.heap.size + 2 ≤ a.block := fun a ha => by have := P4 a ha; have e := sW.out; omega
  have P6 := P1.turn (((Turned.refl (w.heap.size + 1) wb).set 0 (.int .i64 R)).set 1 (.slice co L.length eap)) (fun _ a ha => by have := P5 a ha; omega)
  clear GO JN sW HW O1 O2 O3 O4 XA B Z P1 P4 hsz
  go_wp2
  exact bodyPost_ret (v := .tuple #[.agg #[.int .i64 R, .slice co L.length eap], .int .i64 E]) (by simp [results, Try.results12, go_sem, z0, z1]) rfl ⟨co, eap, rfl, P6, P2, P3, (fun a ha => by have := P5 a ha; omega), (hw.setCell (by simp) _).setCell (by simp) _⟩

theorem putg_c (N : Int) (ao : Option Addr) (xs : List Nat) (cap x : Nat) (w : World) (hx : Wd w ao xs) (hf : Fit xs) (hl : xs.length ≤ 1048576) (h64 : x < 18446744073709551616) :
    Calls Try.prog 12 #[.agg #[.int .i64 N, .slice ao xs.length cap], .int .u64 x] w fun e w' => ∃ bo dap, e = .returned (.tuple #[.agg #[.int .i64 (pN false N xs x), .slice bo (pL false N xs x).length dap], .int .i64 (pE false N xs x)]) ∧ OutF w w' bo (pL false N xs x) dap := by
  by_cases h : x = 0
  · subst h
    exact putg_z N ao xs cap w hx hf hl
  · have := putg_n N ao xs cap x w hx hf hl h h64
    unfold pN pL pE
    simp only [if_neg h]
    exact this

theorem putd_z (N : Int) (ao : Option Addr) (xs : List Nat) (cap : Nat) (w : World) (hx : Wd w ao xs) (hf : Fit xs) (hl : xs.length ≤ 1048576) :
    Calls Try.prog 13 #[.agg #[.int .i64 N, .slice ao xs.length cap], .int .u64 0] w fun e w' => ∃ bo dap, e = .returned (.tuple #[.agg #[.int .i64 N, .slice bo xs.length dap], .int .i64 2]) ∧ OutF w w' bo xs dap := by
  obtain ⟨W, hW⟩ : ∃ W, W = (w.alloc (.cells #[.int .i64 N, .slice ao xs.length cap] 24)).alloc ZO := ⟨_, rfl⟩
  have sW : Hid (W.heap.size = w.heap.size + 2) := by unfold Hid; rw [hW]; simp
  have HW : Hid (W = (w.alloc (.cells #[.int .i64 N, .slice ao xs.length cap] 24)).alloc ZO) := hW
  have hx1 : Wd ((w.alloc (.cells #[.int .i64 N, .slice ao xs.length cap] 24)).alloc ZO) ao xs := hx.keep ((below_alloc w _).alloc (by simp) _)
  clear hW
  go_enter Try.func13, Try.ntmps13
  go_wp2_with fail
  refine (sasItIs_c _ _ _ _ _ hx1 hl).mono ?_
  rintro e w1 ⟨g, rfl, hg, hgl, hO, hb⟩
  have KK := box2_cells rfl hb
  obtain ⟨⟨k0, k1⟩, ⟨k2, k3⟩, ⟨k4, k5⟩, hz, hw⟩ := KK
  have hg2 : w.heap.size + 2 ≤ g := by simpa using hg
  have ne : g ≠ w.heap.size + 1 := by omega
  clear hb hx1
  go_wp2
  exact bodyPost_ret (v := .tuple #[.agg #[.int .i64 N, .slice (some ⟨g, 0, none⟩) xs.length xs.length], .int .i64 2]) (by simp [results, Try.results13, go_sem, k2, k3]) rfl ⟨some ⟨g, 0, none⟩, xs.length, rfl, ((hO.set_other ne _).set_other ne _).wd, hf, Nat.le_refl _, fresh_of (by omega), (hw.setCell (by simp) _).setCell (by simp) _⟩

set_option maxHeartbeats 4000000 in
theorem putd_n (N : Int) (ao : Option Addr) (xs : List Nat) (cap x : Nat) (w : World) (hx : Wd w ao xs) (hf : Fit xs) (hl : xs.length ≤ 1048576) (h0 : x ≠ 0) (h64 : x < 18446744073709551616) :
    Calls Try.prog 13 #[.agg #[.int .i64 N, .slice ao xs.length cap], .int .u64 x] w fun e w' => ∃ bo dap, e = .returned (.tuple #[.agg #[.int .i64 (joinN N xs (cL true x) (cR true x)), .slice bo (joinL N xs (cL true x) (cR true x)).length dap], .int .i64 (joinE N xs (cL true x) (cR true x))]) ∧ OutF w w' bo (joinL N xs (cL true x) (cR true x)) dap := by
  have GO : Hid (∀ w0 : World, Calls Try.prog 30 #[.int .u64 x] w0 fun e w' => ∃ bo dap, e = .returned (.agg #[.int .i64 (cL true x), .slice bo (cR true x).length dap]) ∧ OutF w0 w' bo (cR true x) dap) := fun w0 => deltaOf_c x w0 h0 h64
  have JN : Hid (∀ (w0 : World) (bo : Option Addr) (dap : Nat), Wd w0 ao xs → Wd w0 bo (cR true x) → Calls Try.prog 28 #[.agg #[.int .i64 N, .slice ao xs.length cap], .agg #[.int .i64 (cL true x), .slice bo (cR true x).length dap]] w0 fun e w' => ∃ co eap, e = .returned (.tuple #[.agg #[.int .i64 (joinN N xs (cL true x) (cR true x)), .slice co (joinL N xs (cL true x) (cR true x)).length eap], .int .i64 (joinE N xs (cL true x) (cR true x))]) ∧ OutF w0 w' co (joinL N xs (cL true x) (cR true x)) eap) := fun w0 bo dap h1 h2 => join_f N ao xs cap _ bo _ dap w0 h1 h2 hf (fit_cR _ _) hl
  generalize joinN N xs (cL true x) (cR true x) = R at *
  generalize joinL N xs (cL true x) (cR true x) = L at *
  generalize joinE N xs (cL true x) (cR true x) = E at *
  generalize cL true x = A at *
  generalize cR true x = M at *
  have hz : ((x : Int) == 0) = false := by simp; omega
  obtain ⟨W, hW⟩ : ∃ W, W = (w.alloc (.cells #[.int .i64 N, .slice ao xs.length cap] 24)).alloc ZO := ⟨_, rfl⟩
  have KK := box2_cells hW (Below.refl W.heap.size W)
  have sW : Hid (W.heap.size = w.heap.size + 2) := by unfold Hid; rw [hW]; simp
  have HW : Hid (W = (w.alloc (.cells #[.int .i64 N, .slice ao xs.length cap] 24)).alloc ZO) := hW
  have B : Box W w.heap.size (.int .i64 N) (.slice ao xs.length cap) := ⟨by rw [sW.out]; omega, KK.1.1, KK.1.2⟩
  have Z : ZB W (w.heap.size + 1) := ⟨by rw [sW.out]; omega, KK.2.1.1, KK.2.1.2, KK.2.2.1.1, KK.2.2.1.2⟩
  have hw : Below w.heap.size w W := KK.2.2.2.2
  clear KK hW
  have b0 := B.2.1
  have b1 := B.2.2
  have ne : w.heap.size ≠ w.heap.size + 1 := by omega
  go_enter Try.func13, Try.ntmps13
  go_wp2
  rw [← HW.out]
  go_region_held3 (fun w' => w'.cell? ⟨w.heap.size, 0, none⟩ = some (.int .i64 N) ∧ w'.cell? ⟨w.heap.size, 1, none⟩ = some (.slice ao xs.length cap)) (first | with_reducible exact ⟨b0, b1⟩ | with_reducible exact ⟨set2 b0 ne, set2 b1 ne⟩ | exact ⟨b0, b1⟩)
    (first | (go_at_call 30; refine (GO.out _).mono ?_; rintro e wa ⟨bo, dap, rfl, O1, O2, O3, O4, hb⟩; (with_reducible have hT := below_d hb); clear hb; replace B := B.keep hT; replace Z := Z.keep hT; replace hw := hw.trans (hT.mono hw.size); have XA := hx.keep hw; replace b0 := B.2.1; replace b1 := B.2.2; have hsz := hT.size; clear hT) | (go_at_call 28; refine (JN.out _ _ _ ?_ ?_).mono ?_; (with_reducible exact XA); (with_reducible exact O1); rintro e wb ⟨co, eap, rfl, P1, P2, P3, P4, hb⟩; replace B := B.keep hb; replace Z := Z.keep hb; replace hw := hw.trans (hb.mono hw.size); replace b0 := B.2.1; replace b1 := B.2.2; have Z2 := Z; obtain ⟨zl, z0, z1, v0, v1⟩ := Z2; clear hb))
  have P5 : ∀ a, co = some a → w.heap.size + 2 ≤ a.block := fun a ha => by have := P4 a ha; have e := sW.out; omega
  have P6 := P1.turn (((Turned.refl (w.heap.size + 1) wb).set 0 (.int .i64 R)).set 1 (.slice co L.length eap)) (fun _ a ha => by have := P5 a ha; omega)
  clear GO JN sW HW O1 O2 O3 O4 XA B Z P1 P4 hsz
  go_wp2
  exact bodyPost_ret (v := .tuple #[.agg #[.int .i64 R, .slice co L.length eap], .int .i64 E]) (by simp [results, Try.results13, go_sem, z0, z1]) rfl ⟨co, eap, rfl, P6, P2, P3, (fun a ha => by have := P5 a ha; omega), (hw.setCell (by simp) _).setCell (by simp) _⟩

theorem putd_c (N : Int) (ao : Option Addr) (xs : List Nat) (cap x : Nat) (w : World) (hx : Wd w ao xs) (hf : Fit xs) (hl : xs.length ≤ 1048576) (h64 : x < 18446744073709551616) :
    Calls Try.prog 13 #[.agg #[.int .i64 N, .slice ao xs.length cap], .int .u64 x] w fun e w' => ∃ bo dap, e = .returned (.tuple #[.agg #[.int .i64 (pN true N xs x), .slice bo (pL true N xs x).length dap], .int .i64 (pE true N xs x)]) ∧ OutF w w' bo (pL true N xs x) dap := by
  by_cases h : x = 0
  · subst h
    exact putd_z N ao xs cap w hx hf hl
  · have := putd_n N ao xs cap x w hx hf hl h h64
    unfold pN pL pE
    simp only [if_neg h]
    exact this
end Go.Proofs.Ytmdmjbpehbjgpaa
