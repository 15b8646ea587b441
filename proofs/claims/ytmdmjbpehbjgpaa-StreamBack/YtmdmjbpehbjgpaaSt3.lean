/-
  The contracts of gammaOf and deltaOf: a code by itself.
-/
import Derived.Test.YtmdmjbpehbjgpaaSt2
namespace Go.Proofs.Ytmdmjbpehbjgpaa
open Go.RowKit Num Bit
set_option linter.unusedVariables false
set_option linter.unusedSimpArgs false
set_option maxRecDepth 100000

theorem gammaOf_c (x : Nat) (w : World) (h0 : x ≠ 0) (h64 : x < 18446744073709551616) :
    Calls Try.prog 29 #[.int .u64 x] w fun e w' => ∃ bo dap, e = .returned (.agg #[.int .i64 (cL false x), .slice bo (cR false x).length dap]) ∧ OutF w w' bo (cR false x) dap := by
  have p := bl_pos x h0
  have q := bl64 x h64
  have LN : ∀ w0 : World, Calls Try.prog 36 #[.int .u64 x] w0 fun e w' => e = .returned (.int .i64 (bl x)) ∧ w' = w0 := fun w0 => len_c x (by omega) (by omega) w0
  obtain ⟨f1, f2, f3⟩ := first_row (bl x) p q
  have AP : Hid (∀ w0 : World, Calls Try.prog 43 #[.agg #[.int .i64 0, .slice none 0 0], .int .u64 (IntKind.u64.wrap (2 ^ (bl x - 1))), .int .i64 (bl x)] w0 fun e w' => ∃ bo dap, e = .returned (.tuple #[.agg #[.int .i64 (bl x), .slice bo (rowOf (bl x) (fun j => decide (j = bl x - 1))).length dap], .int .i64 0]) ∧ OutF w0 w' bo (rowOf (bl x) (fun j => decide (j = bl x - 1))) dap) := fun w0 => by
    rw [← f1, shl_one (bl x - 1) (by omega)]
    have := app_f 0 none [] 0 (2 ^ (bl x - 1)) (bl x) w0 (wd0 _ _) fit0 (two_pow_lt _ (by omega)) (by simp)
    rw [f2, f3] at this
    exact this
  obtain ⟨g1, g2, g3⟩ := rest_row (bl x) (bl x - 1) x (fun j => decide (j = bl x - 1)) (by omega) (by omega)
  obtain ⟨r1, r2⟩ := gam_row x h0
  rw [r1] at g1
  rw [r2] at g2
  have RS : Hid (∀ (w0 : World) (ao : Option Addr) (cap : Nat), Wd w0 ao (rowOf (bl x) (fun j => decide (j = bl x - 1))) → Calls Try.prog 44 #[.agg #[.int .i64 (bl x), .slice ao (rowOf (bl x) (fun j => decide (j = bl x - 1))).length cap], .int .u64 x] w0 fun e w' => ∃ bo dap, e = .returned (.agg #[.int .i64 (cL false x), .slice bo (cR false x).length dap]) ∧ OutF w0 w' bo (cR false x) dap) := fun w0 ao cap h => by
    have := rest_c (bl x) ao _ cap x w0 h (fit_rowOf _ _) h0 h64 (by rw [length_rowOf]; omega)
    rw [g1, g2] at this
    exact this
  clear f1 f2 f3 g1 g2 g3 r1 r2
  generalize rowOf (bl x) (fun j => decide (j = bl x - 1)) = M at *
  generalize cL false x = R at *
  generalize cR false x = L at *
  have m0 : (0 : Int) ≤ (bl x : Int) - 1 := by omega
  generalize bl x = n at *
  go_enter Try.func29, Try.ntmps29
  go_wp2_with (go_at_call 36; refine (LN _).mono ?_; rintro e w' ⟨rfl, rfl⟩)
  refine (AP.out _).mono ?_
  rintro e w1 ⟨bo, dap, rfl, O1, O2, O3, O4, hb⟩
  have Z := (ZB.new w).keep hb
  have hw := below_two hb
  have zl1 := Z.lt
  clear hb
  go_wp2_with fail
  refine (RS.out _ _ _ (O1.keep (below_alloc _ _))).mono ?_
  rintro e w2 ⟨co, eap, rfl, P1, P2, P3, P4, hb⟩
  have hB : Below w1.heap.size w1 w2 := (below_alloc w1 _).trans (hb.mono (by simp))
  have hl := hB.size
  have P5 : ∀ a, co = some a → w1.heap.size ≤ a.block := fun a ha => by have := P4 a ha; first | omega | (simp at this; omega)
  replace Z := Z.keep hB
  replace hw := hw.trans (hB.mono hw.size)
  clear hb hB LN AP RS O1 O2 O3 O4 P4
  have P6 := P1.turn (((Turned.refl w.heap.size w2).set 0 (.int .i64 R)).set 1 (.slice co L.length eap)) (fun _ a ha => by have := P5 a ha; omega)
  obtain ⟨zl, z0, z1, v0, v1⟩ := Z
  go_wp2
  exact bodyPost_ret (v := .agg #[.int .i64 R, .slice co L.length eap]) (by simp [results, Try.results29, go_sem, z0, z1]) rfl ⟨co, eap, rfl, P6, P2, P3, (fun a ha => by have := P5 a ha; omega), (hw.setCell (Nat.le_refl _) _).setCell (Nat.le_refl _) _⟩

theorem deltaOf_c (x : Nat) (w : World) (h0 : x ≠ 0) (h64 : x < 18446744073709551616) :
    Calls Try.prog 30 #[.int .u64 x] w fun e w' => ∃ bo dap, e = .returned (.agg #[.int .i64 (cL true x), .slice bo (cR true x).length dap]) ∧ OutF w w' bo (cR true x) dap := by
  have p := bl_pos x h0
  have q := bl64 x h64
  have LN : ∀ w0 : World, Calls Try.prog 36 #[.int .u64 x] w0 fun e w' => e = .returned (.int .i64 (bl x)) ∧ w' = w0 := fun w0 => len_c x (by omega) (by omega) w0
  have GO : Hid (∀ w0 : World, Calls Try.prog 29 #[.int .u64 (bl x)] w0 fun e w' => ∃ bo dap, e = .returned (.agg #[.int .i64 (cL false (bl x)), .slice bo (cR false (bl x)).length dap]) ∧ OutF w0 w' bo (cR false (bl x)) dap) := fun w0 => gammaOf_c (bl x) w0 (by omega) (by omega)
  obtain ⟨g1, g2, g3⟩ := rest_row (cL false (bl x)) (bl x - 1) x (cF false (bl x)) (by omega) (by have := cLg_le (bl x) (by omega); omega)
  obtain ⟨r1, r2⟩ := del_row x h0
  rw [r1] at g1
  rw [r2] at g2
  have lR := length_cR_le false (bl x) (by omega)
  have RS : Hid (∀ (w0 : World) (ao : Option Addr) (cap : Nat), Wd w0 ao (cR false (bl x)) → Calls Try.prog 44 #[.agg #[.int .i64 (cL false (bl x)), .slice ao (cR false (bl x)).length cap], .int .u64 x] w0 fun e w' => ∃ bo dap, e = .returned (.agg #[.int .i64 (cL true x), .slice bo (cR true x).length dap]) ∧ OutF w0 w' bo (cR true x) dap) := fun w0 ao cap h => by
    have := rest_c (cL false (bl x)) ao (cR false (bl x)) cap x w0 h (fit_cR _ _) h0 h64 (by omega)
    have e1 : appL (cL false (bl x) : Int) (cR false (bl x)) x ((bl x - 1 : Nat) : Int) = cR true x := g1
    have e2 : appN (cL false (bl x) : Int) (cR false (bl x)) ((bl x - 1 : Nat) : Int) = (cL true x : Int) := g2
    rw [e1, e2] at this
    exact this
  clear g1 g2 g3 r1 r2 lR
  generalize cL false (bl x) = A at *
  generalize cR false (bl x) = M at *
  generalize cL true x = R at *
  generalize cR true x = L at *
  generalize bl x = n at *
  go_enter Try.func30, Try.ntmps30
  go_wp2_with (go_at_call 36; refine (LN _).mono ?_; rintro e w' ⟨rfl, rfl⟩)
  refine (GO.out _).mono ?_
  rintro e w1 ⟨bo, dap, rfl, O1, O2, O3, O4, hb⟩
  have Z := (ZB.new w).keep hb
  have hw := below_two hb
  have zl1 := Z.lt
  clear hb
  go_wp2_with fail
  refine (RS.out _ _ _ O1).mono ?_
  rintro e w2 ⟨co, eap, rfl, P1, P2, P3, P4, hb⟩
  have hB : Below w1.heap.size w1 w2 := hb
  have hl := hB.size
  have P5 : ∀ a, co = some a → w1.heap.size ≤ a.block := fun a ha => by have := P4 a ha; first | omega | (simp at this; omega)
  replace Z := Z.keep hB
  replace hw := hw.trans (hB.mono hw.size)
  clear hb hB LN GO RS O1 O2 O3 O4 P4
  have P6 := P1.turn (((Turned.refl w.heap.size w2).set 0 (.int .i64 R)).set 1 (.slice co L.length eap)) (fun _ a ha => by have := P5 a ha; omega)
  obtain ⟨zl, z0, z1, v0, v1⟩ := Z
  go_wp2
  exact bodyPost_ret (v := .agg #[.int .i64 R, .slice co L.length eap]) (by simp [results, Try.results30, go_sem, z0, z1]) rfl ⟨co, eap, rfl, P6, P2, P3, (fun a ha => by have := P5 a ha; omega), (hw.setCell (Nat.le_refl _) _).setCell (Nat.le_refl _) _⟩
end Go.Proofs.Ytmdmjbpehbjgpaa
