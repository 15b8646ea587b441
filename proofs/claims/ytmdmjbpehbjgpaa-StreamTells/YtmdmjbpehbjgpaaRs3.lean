/-
  The contracts of the document's Size, put, PutGamma and PutDelta.
-/
import Derived.Test.YtmdmjbpehbjgpaaRs2
import Derived.Test.YtmdmjbpehbjgpaaSt2
namespace Go.Proofs.Ytmdmjbpehbjgpaa
open Go.RowKit Num Bit
set_option linter.unusedVariables false
set_option linter.unusedSimpArgs false
set_option maxRecDepth 100000

theorem bl_one {w : World} {base n c : Nat} {ao : Option Addr} {l : List Bool} (h : w.ownsRow base 4 1 (.slice ao n c) n (bv l)) : Bl w ao l := by
  have h2 : w.ownsRow base 4 1 (.slice ao n c) n (bv l ++ bv []) := by simpa [bv] using h
  have := bl_of h2
  rwa [List.append_nil] at this

/-- The document's code of a number: a slice that reads as its bits. -/
theorem rcode_c (d : Bool) (x : Nat) (h0 : x ≠ 0) (h64 : x < 18446744073709551616) (w : World) (F : Nat) (hF : F = if d then 34 else 33) :
    Calls Try.prog F #[.int .u64 x] w fun e w' => ∃ ao cap, e = .returned (.slice ao (cL d x) cap) ∧ Bl w' ao (codL d x) ∧ Below w.heap.size w w' := by
  subst hF
  cases d with
  | false =>
    simp only [Bool.false_eq_true, if_false]
    refine (rgamma_c x h0 h64 w).mono ?_
    rintro e w' ⟨v, rfl, ho, hb⟩
    obtain ⟨ao, cap, rfl, -, -⟩ := owns_shape ho
    have e1 : cL false x = gL x := by unfold cL; rw [if_neg h0]; simp
    rw [e1]
    exact ⟨ao, cap, rfl, bl_one ho, hb⟩
  | true =>
    simp only [if_true]
    refine (rdelta_c x h0 h64 w).mono ?_
    rintro e w' ⟨v, rfl, ho, hb⟩
    obtain ⟨ao, cap, rfl, -, -⟩ := owns_shape ho
    exact ⟨ao, cap, rfl, bl_one ho, hb⟩

theorem rsize_c (d : Bool) (x : Nat) (h64 : x < 18446744073709551616) (w : World) :
    Calls Try.prog 21 #[.int .u64 x, .bool d] w fun e w' => e = .returned (.int .i64 (cL d x)) ∧ Below w.heap.size w w' := by
  by_cases h : x = 0
  · subst h
    have R : Hid (0 = ((cL d 0 : Nat) : Int)) := by simp [Hid, cL]
    go_enter Try.func21, Try.ntmps21
    go_wp2
    go_ret
    exact ⟨ret_int R.out, Below.refl _ _⟩
  · have hz : ((x : Int) == 0) = false := by simp; omega
    cases d with
    | false =>
      have GA : Hid (∀ w0 : World, Calls Try.prog 33 #[.int .u64 x] w0 fun e w' => ∃ ao cap, e = .returned (.slice ao (cL false x) cap) ∧ Bl w' ao (codL false x) ∧ Below w0.heap.size w0 w') := fun w0 => rcode_c false x h h64 w0 _ rfl
      generalize cL false x = C at *
      go_enter Try.func21, Try.ntmps21
      go_wp2_with (go_at_call 33; refine (GA.out _).mono ?_; rintro e w1 ⟨ao, cap, rfl, -, hb⟩)
      go_ret
      exact ⟨rfl, hb⟩
    | true =>
      have GA : Hid (∀ w0 : World, Calls Try.prog 34 #[.int .u64 x] w0 fun e w' => ∃ ao cap, e = .returned (.slice ao (cL true x) cap) ∧ Bl w' ao (codL true x) ∧ Below w0.heap.size w0 w') := fun w0 => rcode_c true x h h64 w0 _ rfl
      generalize cL true x = C at *
      go_enter Try.func21, Try.ntmps21
      go_wp2_with (go_at_call 34; refine (GA.out _).mono ?_; rintro e w1 ⟨ao, cap, rfl, -, hb⟩)
      go_ret
      exact ⟨rfl, hb⟩

theorem refjoin_g (N : Int) (ao : Option Addr) (xs : List Nat) (cap : Nat) (M : Int) (bo : Option Addr) (ys : List Nat) (dap : Nat) (w : World) (hx : Wd w ao xs) (hy : Wd w bo ys) (hfx : Fit xs) (hfy : Fit ys) (hE : joinE N xs M ys = 0) :
    Calls Try.prog 46 #[.agg #[.int .i64 N, .slice ao xs.length cap], .agg #[.int .i64 M, .slice bo ys.length dap]] w fun e w' => ∃ co eap, e = .returned (.tuple #[.agg #[.int .i64 (joinN N xs M ys), .slice co (joinL N xs M ys).length eap], .int .i64 0]) ∧ OutF w w' co (joinL N xs M ys) eap := by
  have h : ¬ (chk N xs = false ∨ chk M ys = false ∨ 1048576 < N + M) := fun h => by unfold joinE at hE; rw [if_pos h] at hE; omega
  have hk : chk N xs = true := by cases hc : chk N xs with | true => rfl | false => exact absurd (.inl hc) h
  have hk2 : chk M ys = true := by cases hc : chk M ys with | true => rfl | false => exact absurd (.inr (.inl hc)) h
  obtain ⟨h0, h1, _, _⟩ := chk_out N xs hk
  obtain ⟨h2, h3, _, _⟩ := chk_out M ys hk2
  obtain ⟨n, rfl⟩ := Int.eq_ofNat_of_zero_le h0
  obtain ⟨m, rfl⟩ := Int.eq_ofNat_of_zero_le h2
  have e2 : joinN n xs m ys = (n : Int) + m := by unfold joinN; rw [hE]; rfl
  have e3 : joinL n xs m ys = rowOf (n + m) (fun j => if j < n then bitAt xs j else bitAt ys (j - n)) := by unfold joinL; rw [hE, show ((n : Int) + m).toNat = n + m by omega, Int.toNat_natCast]; rfl
  have e4 : frL (bitsOf xs n ++ bitsOf ys m) = joinL n xs m ys := by
    rw [e3]
    unfold frL
    rw [show (bitsOf xs n ++ bitsOf ys m).length = n + m by simp [bitsOf]]
    exact rowOf_congr _ _ _ fun j hj => bt_bits xs ys n m j hj
  refine (refjoin_ok ao xs cap bo ys dap n m w hx hy hfx hfy hk hk2 (by omega)).mono ?_
  rintro e w' ⟨g, rfl, hfr, hO, hb⟩
  rw [e4] at hO ⊢
  refine ⟨some ⟨g, 0, none⟩, (joinL n xs m ys).length, by rw [e2]; simp [bitsOf], hO.wd, ?_, Nat.le_refl _, fresh_of hfr, hb⟩
  rw [e3]; exact fit_rowOf _ _

theorem rput_ok (N : Int) (ao : Option Addr) (xs : List Nat) (cap : Nat) (ko : Option Addr) (l : List Bool) (kc : Nat) (w : World) (hx : Wd w ao xs) (hf : Fit xs) (hcap : xs.length ≤ cap) (hk : Bl w ko l) (hl : l.length ≤ 1048576) (hE : joinE N xs l.length (frL l) = 0) :
    Calls Try.prog 32 #[.agg #[.int .i64 N, .slice ao xs.length cap], .slice ko l.length kc] w fun e w' => ∃ bo dap, e = .returned (.tuple #[.agg #[.int .i64 (joinN N xs l.length (frL l)), .slice bo (joinL N xs l.length (frL l)).length dap], .int .i64 0]) ∧ OutF w w' bo (joinL N xs l.length (frL l)) dap := by
  have FR : Hid (∀ w0 : World, Bl w0 ko l → Calls Try.prog 45 #[.slice ko l.length kc] w0 fun e w' => ∃ bo dap, e = .returned (.tuple #[.agg #[.int .i64 l.length, .slice bo (frL l).length dap], .int .i64 0]) ∧ Out w0 w' bo (frL l) dap) := fun w0 h => reffrom_c ko l kc w0 h hl
  have fl : Fit (frL l) := fit_rowOf _ _
  have JN : Hid (∀ (w0 : World) (co : Option Addr) (cc : Nat), Wd w0 ao xs → Wd w0 co (frL l) → Calls Try.prog 46 #[.agg #[.int .i64 N, .slice ao xs.length cap], .agg #[.int .i64 l.length, .slice co (frL l).length cc]] w0 fun e w' => ∃ bo eap, e = .returned (.tuple #[.agg #[.int .i64 (joinN N xs l.length (frL l)), .slice bo (joinL N xs l.length (frL l)).length eap], .int .i64 0]) ∧ OutF w0 w' bo (joinL N xs l.length (frL l)) eap) := fun w0 co cc h1 h2 => refjoin_g N ao xs cap l.length co (frL l) cc w0 h1 h2 hf fl hE
  clear hE fl
  generalize joinN N xs l.length (frL l) = R at *
  generalize joinL N xs l.length (frL l) = L at *
  generalize frL l = M at *
  obtain ⟨W, hW⟩ : ∃ W, W = (w.alloc (.cells #[.int .i64 N, .slice ao xs.length cap] 24)).alloc ZO := ⟨_, rfl⟩
  have KK := box2_cells hW (Below.refl W.heap.size W)
  have sW : Hid (W.heap.size = w.heap.size + 2) := by unfold Hid; rw [hW]; simp
  have HW : Hid (W = (w.alloc (.cells #[.int .i64 N, .slice ao xs.length cap] 24)).alloc ZO) := hW
  have B : Box W w.heap.size (.int .i64 N) (.slice ao xs.length cap) := ⟨by rw [sW.out]; omega, KK.1.1, KK.1.2⟩
  have Z : ZB W (w.heap.size + 1) := ⟨by rw [sW.out]; omega, KK.2.1.1, KK.2.1.2, KK.2.2.1.1, KK.2.2.1.2⟩
  have hw : Below w.heap.size w W := KK.2.2.2.2
  clear KK hW
  go_enter Try.func32, Try.ntmps32
  go_wp2_with fail
  rw [← HW.out]
  refine (FR.out _ (hk.keep hw)).mono ?_
  rintro e w1 ⟨co, cc, rfl, C1, C2, C3, hb⟩
  replace B := B.keep hb
  replace Z := Z.keep hb
  replace hw := hw.trans (hb.mono hw.size)
  have s1 : w.heap.size + 2 ≤ w1.heap.size := by have := hb.size; have := sW.out; omega
  clear hb FR HW sW
  have bw := below_alloc w1 (.cells #[.int .i64 l.length, .slice co M.length cc] 24)
  have CV := C1.keep bw
  have XV := (hx.keep hw).keep bw
  have BV := B.keep bw
  have b0 := BV.2.1
  have b1 := BV.2.2
  have bl0 := BV.1
  clear C1 BV
  go_wp2_with fail
  refine (JN.out _ _ _ XV CV).mono ?_
  rintro e w2 ⟨bo, dap, rfl, P1, P2, P3, P4, hb⟩
  have hB : Below w1.heap.size w1 w2 := (below_alloc w1 _).trans (hb.mono (by simp))
  replace Z := Z.keep hB
  replace hw := hw.trans (hB.mono hw.size)
  have P5 : ∀ a, bo = some a → w.heap.size + 2 ≤ a.block := fun a ha => by have := P4 a ha; simp at this; omega
  have bw2 := below_alloc w2 (.cells #[.int .i64 R, .slice bo L.length dap] 24)
  have P6 := (P1.keep bw2).turn (((Turned.refl (w.heap.size + 1) _).set 0 (.int .i64 R)).set 1 (.slice bo L.length dap)) (fun _ a ha => by have := P5 a ha; omega)
  have hw3 := hw.trans (bw2.mono hw.size)
  replace Z := Z.keep bw2
  obtain ⟨zl, z0, z1, v0, v1⟩ := Z
  clear hb hB P1 P4 bw2 bw CV XV b0 b1 bl0 B JN
  go_wp2
  exact bodyPost_ret (v := .tuple #[.agg #[.int .i64 R, .slice bo L.length dap], .int .i64 0]) (by simp [results, Try.results32, go_sem, z0, z1]) rfl ⟨bo, dap, rfl, P6, P2, P3, (fun a ha => by have := P5 a ha; omega), (hw3.setCell (by simp) _).setCell (by simp) _⟩

theorem rput_bad (N : Int) (ao : Option Addr) (xs : List Nat) (cap : Nat) (ko : Option Addr) (l : List Bool) (kc : Nat) (w : World) (hx : Wd w ao xs) (hf : Fit xs) (hcap : xs.length ≤ cap) (hk : Bl w ko l) (hl : l.length ≤ 1048576) (hbad : chk N xs = false ∨ chk (l.length : Int) (frL l) = false ∨ 1048576 < N + l.length) :
    Calls Try.prog 32 #[.agg #[.int .i64 N, .slice ao xs.length cap], .slice ko l.length kc] w fun e w' => e = .returned (.tuple #[.agg #[.int .i64 N, .slice ao xs.length cap], .int .i64 2]) ∧ Wd w' ao xs ∧ Below w.heap.size w w' := by
  have FR : Hid (∀ w0 : World, Bl w0 ko l → Calls Try.prog 45 #[.slice ko l.length kc] w0 fun e w' => ∃ bo dap, e = .returned (.tuple #[.agg #[.int .i64 l.length, .slice bo (frL l).length dap], .int .i64 0]) ∧ Out w0 w' bo (frL l) dap) := fun w0 h => reffrom_c ko l kc w0 h hl
  have fl : Fit (frL l) := fit_rowOf _ _
  have JN : Hid (∀ (w0 : World) (co : Option Addr) (cc : Nat), Wd w0 ao xs → Wd w0 co (frL l) → Calls Try.prog 46 #[.agg #[.int .i64 N, .slice ao xs.length cap], .agg #[.int .i64 l.length, .slice co (frL l).length cc]] w0 fun e w' => e = .returned (.tuple #[.agg #[.int .i64 N, .slice ao xs.length cap], .int .i64 2]) ∧ Below w0.heap.size w0 w') := fun w0 co cc h1 h2 => refjoin_bad N ao xs cap l.length co (frL l) cc w0 h1 h2 hf fl hbad
  clear hbad fl
  generalize frL l = M at *
  obtain ⟨W, hW⟩ : ∃ W, W = (w.alloc (.cells #[.int .i64 N, .slice ao xs.length cap] 24)).alloc ZO := ⟨_, rfl⟩
  have KK := box2_cells hW (Below.refl W.heap.size W)
  have sW : Hid (W.heap.size = w.heap.size + 2) := by unfold Hid; rw [hW]; simp
  have HW : Hid (W = (w.alloc (.cells #[.int .i64 N, .slice ao xs.length cap] 24)).alloc ZO) := hW
  have B : Box W w.heap.size (.int .i64 N) (.slice ao xs.length cap) := ⟨by rw [sW.out]; omega, KK.1.1, KK.1.2⟩
  have Z : ZB W (w.heap.size + 1) := ⟨by rw [sW.out]; omega, KK.2.1.1, KK.2.1.2, KK.2.2.1.1, KK.2.2.1.2⟩
  have hw : Below w.heap.size w W := KK.2.2.2.2
  clear KK hW
  go_enter Try.func32, Try.ntmps32
  go_wp2_with fail
  rw [← HW.out]
  refine (FR.out _ (hk.keep hw)).mono ?_
  rintro e w1 ⟨co, cc, rfl, C1, C2, C3, hb⟩
  replace B := B.keep hb
  replace Z := Z.keep hb
  replace hw := hw.trans (hb.mono hw.size)
  have s1 : w.heap.size + 2 ≤ w1.heap.size := by have := hb.size; have := sW.out; omega
  clear hb FR HW sW
  have bw := below_alloc w1 (.cells #[.int .i64 l.length, .slice co M.length cc] 24)
  have CV := C1.keep bw
  have XV := (hx.keep hw).keep bw
  have BV := B.keep bw
  have b0 := BV.2.1
  have b1 := BV.2.2
  have bl0 := BV.1
  clear C1 BV
  go_wp2_with fail
  refine (JN.out _ _ _ XV CV).mono ?_
  rintro e w2 ⟨rfl, hb⟩
  have hB : Below w1.heap.size w1 w2 := (below_alloc w1 _).trans (hb.mono (by simp))
  replace Z := Z.keep hB
  replace B := B.keep hB
  replace hw := hw.trans (hB.mono hw.size)
  have bw2 := below_alloc w2 (.cells #[.int .i64 N, .slice ao xs.length cap] 24)
  have hw3 := hw.trans (bw2.mono hw.size)
  have P6 := (hx.keep hw3).turn (((Turned.refl (w.heap.size + 1) _).set 0 (.int .i64 N)).set 1 (.slice ao xs.length cap)) (fun h a ha => by have := hx.block h a ha; omega)
  replace Z := Z.keep bw2
  replace B := B.keep bw2
  obtain ⟨zl, z0, z1, v0, v1⟩ := Z
  obtain ⟨q0, q1, q2⟩ := B
  clear hb hB bw2 bw CV XV b0 b1 bl0 JN
  go_wp2
  exact bodyPost_ret (v := .tuple #[.agg #[.int .i64 N, .slice ao xs.length cap], .int .i64 2]) (by simp [results, Try.results32, go_sem, z0, z1]) rfl ⟨rfl, P6, (hw3.setCell (by simp) _).setCell (by simp) _⟩

theorem rput_c (N : Int) (ao : Option Addr) (xs : List Nat) (cap : Nat) (ko : Option Addr) (l : List Bool) (kc : Nat) (w : World) (hx : Wd w ao xs) (hf : Fit xs) (hcap : xs.length ≤ cap) (hk : Bl w ko l) (hl : l.length ≤ 1048576) :
    Calls Try.prog 32 #[.agg #[.int .i64 N, .slice ao xs.length cap], .slice ko l.length kc] w fun e w' => ∃ bo dap, e = .returned (.tuple #[.agg #[.int .i64 (joinN N xs l.length (frL l)), .slice bo (joinL N xs l.length (frL l)).length dap], .int .i64 (joinE N xs l.length (frL l))]) ∧ Out w w' bo (joinL N xs l.length (frL l)) dap ∧ ((bo = ao ∧ joinL N xs l.length (frL l) = xs) ∨ ∀ a, bo = some a → w.heap.size ≤ a.block) := by
  by_cases hE : joinE N xs l.length (frL l) = 0
  · refine (rput_ok N ao xs cap ko l kc w hx hf hcap hk hl hE).mono ?_
    rintro e w' ⟨bo, dap, rfl, h⟩
    rw [hE]
    exact ⟨bo, dap, rfl, h.out, .inr h.2.2.2.1⟩
  · have hbad : chk N xs = false ∨ chk (l.length : Int) (frL l) = false ∨ 1048576 < N + l.length := by
      by_cases h : chk N xs = false ∨ chk (l.length : Int) (frL l) = false ∨ 1048576 < N + l.length
      · exact h
      · unfold joinE at hE; rw [if_neg h] at hE; exact absurd rfl hE
    have e1 : joinE N xs l.length (frL l) = 2 := by unfold joinE; rw [if_pos hbad]
    have e2 : joinN N xs l.length (frL l) = N := by unfold joinN; rw [e1]; rfl
    have e3 : joinL N xs l.length (frL l) = xs := by unfold joinL; rw [e1]; rfl
    refine (rput_bad N ao xs cap ko l kc w hx hf hcap hk hl hbad).mono ?_
    rintro e w' ⟨rfl, h1, h2⟩
    rw [e1, e2, e3]
    exact ⟨ao, cap, rfl, ⟨h1, hf, hcap, h2⟩, .inl ⟨rfl, rfl⟩⟩

theorem rputg_z (N : Int) (ao : Option Addr) (xs : List Nat) (cap : Nat) (w : World) (hx : Wd w ao xs) (hf : Fit xs) (hcap : xs.length ≤ cap) :
    Calls Try.prog 15 #[.agg #[.int .i64 N, .slice ao xs.length cap], .int .u64 0] w fun e w' => ∃ bo dap, e = .returned (.tuple #[.agg #[.int .i64 N, .slice bo xs.length dap], .int .i64 2]) ∧ Out w w' bo xs dap := by
  obtain ⟨W, hW⟩ : ∃ W, W = (w.alloc (.cells #[.int .i64 N, .slice ao xs.length cap] 24)).alloc ZO := ⟨_, rfl⟩
  have KK := box2_cells hW (Below.refl W.heap.size W)
  have HW : Hid (W = (w.alloc (.cells #[.int .i64 N, .slice ao xs.length cap] 24)).alloc ZO) := hW
  have hw : Below w.heap.size w W := KK.2.2.2.2
  have P6 := (hx.keep hw).turn (((Turned.refl (w.heap.size + 1) W).set 0 (.int .i64 N)).set 1 (.slice ao xs.length cap)) (fun h a ha => by have := hx.block h a ha; omega)
  clear hW KK
  rw [HW.out] at hw P6
  clear HW
  go_enter Try.func15, Try.ntmps15
  go_wp2
  refine bodyPost_ret (v := .tuple #[.agg #[.int .i64 N, .slice ao xs.length cap], .int .i64 2]) (by simp [results, Try.results15, go_sem]) rfl ⟨ao, cap, rfl, ?_, hf, hcap, ?_⟩
  · first | exact P6 | simpa [go_sem] using P6
  · first | exact (hw.setCell (by simp) _).setCell (by simp) _ | exact ((below_alloc w _).alloc (by simp) _)

set_option maxHeartbeats 4000000 in
theorem rputg_n (N : Int) (ao : Option Addr) (xs : List Nat) (cap x : Nat) (w : World) (hx : Wd w ao xs) (hf : Fit xs) (hcap : xs.length ≤ cap) (h0 : x ≠ 0) (h64 : x < 18446744073709551616) :
    Calls Try.prog 15 #[.agg #[.int .i64 N, .slice ao xs.length cap], .int .u64 x] w fun e w' => ∃ bo dap, e = .returned (.tuple #[.agg #[.int .i64 (joinN N xs (cL false x) (cR false x)), .slice bo (joinL N xs (cL false x) (cR false x)).length dap], .int .i64 (joinE N xs (cL false x) (cR false x))]) ∧ Out w w' bo (joinL N xs (cL false x) (cR false x)) dap := by
  have GO : Hid (∀ w0 : World, Calls Try.prog 33 #[.int .u64 x] w0 fun e w' => ∃ ko kc, e = .returned (.slice ko (cL false x) kc) ∧ Bl w' ko (codL false x) ∧ Below w0.heap.size w0 w') := fun w0 => rcode_c false x h0 h64 w0 _ rfl
  have lc := length_codL false x h0
  have cl := cL_le false x h64
  have PT : Hid (∀ (w0 : World) (ko : Option Addr) (kc : Nat), Wd w0 ao xs → Bl w0 ko (codL false x) → Calls Try.prog 32 #[.agg #[.int .i64 N, .slice ao xs.length cap], .slice ko (cL false x) kc] w0 fun e w' => ∃ bo dap, e = .returned (.tuple #[.agg #[.int .i64 (joinN N xs (cL false x) (cR false x)), .slice bo (joinL N xs (cL false x) (cR false x)).length dap], .int .i64 (joinE N xs (cL false x) (cR false x))]) ∧ Out w0 w' bo (joinL N xs (cL false x) (cR false x)) dap ∧ ((bo = ao ∧ joinL N xs (cL false x) (cR false x) = xs) ∨ ∀ a, bo = some a → w0.heap.size ≤ a.block)) := fun w0 ko kc h1 h2 => by
    have := rput_c N ao xs cap ko (codL false x) kc w0 h1 hf hcap h2 (by omega)
    rw [lc, frL_codL false x h0] at this
    exact this
  clear lc cl
  generalize joinN N xs (cL false x) (cR false x) = R at *
  generalize joinL N xs (cL false x) (cR false x) = L at *
  generalize joinE N xs (cL false x) (cR false x) = E at *
  generalize cL false x = A at *
  generalize codL false x = M at *
  have hz : ((x : Int) == 0) = false := by simp; omega
  obtain ⟨W, hW⟩ : ∃ W, W = (w.alloc (.cells #[.int .i64 N, .slice ao xs.length cap] 24)).alloc ZO := ⟨_, rfl⟩
  have KK := box2_cells hW (Below.refl W.heap.size W)
  have sW : Hid (W.heap.size = w.heap.size + 2) := by unfold Hid; rw [hW]; simp
  have HW : Hid (W = (w.alloc (.cells #[.int .i64 N, .slice ao xs.length cap] 24)).alloc ZO) := hW
  have B : Box W w.heap.size (.int .i64 N) (.slice ao xs.length cap) := ⟨by rw [sW.out]; omega, KK.1.1, KK.1.2⟩
  have Z : ZB W (w.heap.size + 1) := ⟨by rw [sW.out]; omega, KK.2.1.1, KK.2.1.2, KK.2.2.1.1, KK.2.2.1.2⟩
  have hw : Below w.heap.size w W := KK.2.2.2.2
  clear KK hW
  have b0 := B.2.1
  have b1 := B.2.2
  have ne : w.heap.size ≠ w.heap.size + 1 := by omega
  go_enter Try.func15, Try.ntmps15
  go_wp2
  rw [← HW.out]
  go_region_held3 (fun w' => w'.cell? ⟨w.heap.size, 0, none⟩ = some (.int .i64 N) ∧ w'.cell? ⟨w.heap.size, 1, none⟩ = some (.slice ao xs.length cap)) (first | with_reducible exact ⟨b0, b1⟩ | with_reducible exact ⟨set2 b0 ne, set2 b1 ne⟩ | exact ⟨b0, b1⟩)
    (first | (go_at_call 33; refine (GO.out _).mono ?_; rintro e wa ⟨ko, kc, rfl, O1, hb⟩; (with_reducible have hT := below_d hb); clear hb; replace B := B.keep hT; replace Z := Z.keep hT; replace hw := hw.trans (hT.mono hw.size); have XA := hx.keep hw; replace b0 := B.2.1; replace b1 := B.2.2; have hsz := hT.size; clear hT) | (go_at_call 32; refine (PT.out _ _ _ ?_ ?_).mono ?_; (with_reducible exact XA); (with_reducible exact O1); rintro e wb ⟨co, eap, rfl, ⟨P1, P2, P3, hb⟩, P4⟩; replace B := B.keep hb; replace Z := Z.keep hb; replace hw := hw.trans (hb.mono hw.size); replace b0 := B.2.1; replace b1 := B.2.2; have Z2 := Z; obtain ⟨zl, z0, z1, v0, v1⟩ := Z2; clear hb))
  have P5 : 0 < L.length → ∀ a, co = some a → a.block ≠ w.heap.size + 1 := fun hl a ha => by
    rcases P4 with ⟨h, h2⟩ | h
    · rw [h2] at hl
      rw [h] at ha
      have := hx.block hl a ha
      omega
    · have := h a ha; have e := sW.out; omega
  have P6 := P1.turn (((Turned.refl (w.heap.size + 1) wb).set 0 (.int .i64 R)).set 1 (.slice co L.length eap)) P5
  clear GO PT sW HW O1 XA B Z P1 P4 P5 hsz
  go_wp2
  exact bodyPost_ret (v := .tuple #[.agg #[.int .i64 R, .slice co L.length eap], .int .i64 E]) (by simp [results, Try.results15, go_sem, z0, z1]) rfl ⟨co, eap, rfl, P6, P2, P3, (hw.setCell (by simp) _).setCell (by simp) _⟩

theorem rputg_c (N : Int) (ao : Option Addr) (xs : List Nat) (cap x : Nat) (w : World) (hx : Wd w ao xs) (hf : Fit xs) (hcap : xs.length ≤ cap) (h64 : x < 18446744073709551616) :
    Calls Try.prog 15 #[.agg #[.int .i64 N, .slice ao xs.length cap], .int .u64 x] w fun e w' => ∃ bo dap, e = .returned (.tuple #[.agg #[.int .i64 (pN false N xs x), .slice bo (pL false N xs x).length dap], .int .i64 (pE false N xs x)]) ∧ Out w w' bo (pL false N xs x) dap := by
  by_cases h : x = 0
  · subst h
    exact rputg_z N ao xs cap w hx hf hcap
  · have := rputg_n N ao xs cap x w hx hf hcap h h64
    unfold pN pL pE
    simp only [if_neg h]
    exact this

theorem rputd_z (N : Int) (ao : Option Addr) (xs : List Nat) (cap : Nat) (w : World) (hx : Wd w ao xs) (hf : Fit xs) (hcap : xs.length ≤ cap) :
    Calls Try.prog 16 #[.agg #[.int .i64 N, .slice ao xs.length cap], .int .u64 0] w fun e w' => ∃ bo dap, e = .returned (.tuple #[.agg #[.int .i64 N, .slice bo xs.length dap], .int .i64 2]) ∧ Out w w' bo xs dap := by
  obtain ⟨W, hW⟩ : ∃ W, W = (w.alloc (.cells #[.int .i64 N, .slice ao xs.length cap] 24)).alloc ZO := ⟨_, rfl⟩
  have KK := box2_cells hW (Below.refl W.heap.size W)
  have HW : Hid (W = (w.alloc (.cells #[.int .i64 N, .slice ao xs.length cap] 24)).alloc ZO) := hW
  have hw : Below w.heap.size w W := KK.2.2.2.2
  have P6 := (hx.keep hw).turn (((Turned.refl (w.heap.size + 1) W).set 0 (.int .i64 N)).set 1 (.slice ao xs.length cap)) (fun h a ha => by have := hx.block h a ha; omega)
  clear hW KK
  rw [HW.out] at hw P6
  clear HW
  go_enter Try.func16, Try.ntmps16
  go_wp2
  refine bodyPost_ret (v := .tuple #[.agg #[.int .i64 N, .slice ao xs.length cap], .int .i64 2]) (by simp [results, Try.results16, go_sem]) rfl ⟨ao, cap, rfl, ?_, hf, hcap, ?_⟩
  · first | exact P6 | simpa [go_sem] using P6
  · first | exact (hw.setCell (by simp) _).setCell (by simp) _ | exact ((below_alloc w _).alloc (by simp) _)

set_option maxHeartbeats 4000000 in
theorem rputd_n (N : Int) (ao : Option Addr) (xs : List Nat) (cap x : Nat) (w : World) (hx : Wd w ao xs) (hf : Fit xs) (hcap : xs.length ≤ cap) (h0 : x ≠ 0) (h64 : x < 18446744073709551616) :
    Calls Try.prog 16 #[.agg #[.int .i64 N, .slice ao xs.length cap], .int .u64 x] w fun e w' => ∃ bo dap, e = .returned (.tuple #[.agg #[.int .i64 (joinN N xs (cL true x) (cR true x)), .slice bo (joinL N xs (cL true x) (cR true x)).length dap], .int .i64 (joinE N xs (cL true x) (cR true x))]) ∧ Out w w' bo (joinL N xs (cL true x) (cR true x)) dap := by
  have GO : Hid (∀ w0 : World, Calls Try.prog 34 #[.int .u64 x] w0 fun e w' => ∃ ko kc, e = .returned (.slice ko (cL true x) kc) ∧ Bl w' ko (codL true x) ∧ Below w0.heap.size w0 w') := fun w0 => rcode_c true x h0 h64 w0 _ rfl
  have lc := length_codL true x h0
  have cl := cL_le true x h64
  have PT : Hid (∀ (w0 : World) (ko : Option Addr) (kc : Nat), Wd w0 ao xs → Bl w0 ko (codL true x) → Calls Try.prog 32 #[.agg #[.int .i64 N, .slice ao xs.length cap], .slice ko (cL true x) kc] w0 fun e w' => ∃ bo dap, e = .returned (.tuple #[.agg #[.int .i64 (joinN N xs (cL true x) (cR true x)), .slice bo (joinL N xs (cL true x) (cR true x)).length dap], .int .i64 (joinE N xs (cL true x) (cR true x))]) ∧ Out w0 w' bo (joinL N xs (cL true x) (cR true x)) dap ∧ ((bo = ao ∧ joinL N xs (cL true x) (cR true x) = xs) ∨ ∀ a, bo = some a → w0.heap.size ≤ a.block)) := fun w0 ko kc h1 h2 => by
    have := rput_c N ao xs cap ko (codL true x) kc w0 h1 hf hcap h2 (by omega)
    rw [lc, frL_codL true x h0] at this
    exact this
  clear lc cl
  generalize joinN N xs (cL true x) (cR true x) = R at *
  generalize joinL N xs (cL true x) (cR true x) = L at *
  generalize joinE N xs (cL true x) (cR true x) = E at *
  generalize cL true x = A at *
  generalize codL true x = M at *
  have hz : ((x : Int) == 0) = false := by simp; omega
  obtain ⟨W, hW⟩ : ∃ W, W = (w.alloc (.cells #[.int .i64 N, .slice ao xs.length cap] 24)).alloc ZO := ⟨_, rfl⟩
  have KK := box2_cells hW (Below.refl W.heap.size W)
  have sW : Hid (W.heap.size = w.heap.size + 2) := by unfold Hid; rw [hW]; simp
  have HW : Hid (W = (w.alloc (.cells #[.int .i64 N, .slice ao xs.length cap] 24)).alloc ZO) := hW
  have B : Box W w.heap.size (.int .i64 N) (.slice ao xs.length cap) := ⟨by rw [sW.out]; omega, KK.1.1, KK.1.2⟩
  have Z : ZB W (w.heap.size + 1) := ⟨by rw [sW.out]; omega, KK.2.1.1, KK.2.1.2, KK.2.2.1.1, KK.2.2.1.2⟩
  have hw : Below w.heap.size w W := KK.2.2.2.2
  clear KK hW
  have b0 := B.2.1
  have b1 := B.2.2
  have ne : w.heap.size ≠ w.heap.size + 1 := by omega
  go_enter Try.func16, Try.ntmps16
  go_wp2
  rw [← HW.out]
  go_region_held3 (fun w' => w'.cell? ⟨w.heap.size, 0, none⟩ = some (.int .i64 N) ∧ w'.cell? ⟨w.heap.size, 1, none⟩ = some (.slice ao xs.length cap)) (first | with_reducible exact ⟨b0, b1⟩ | with_reducible exact ⟨set2 b0 ne, set2 b1 ne⟩ | exact ⟨b0, b1⟩)
    (first | (go_at_call 34; refine (GO.out _).mono ?_; rintro e wa ⟨ko, kc, rfl, O1, hb⟩; (with_reducible have hT := below_d hb); clear hb; replace B := B.keep hT; replace Z := Z.keep hT; replace hw := hw.trans (hT.mono hw.size); have XA := hx.keep hw; replace b0 := B.2.1; replace b1 := B.2.2; have hsz := hT.size; clear hT) | (go_at_call 32; refine (PT.out _ _ _ ?_ ?_).mono ?_; (with_reducible exact XA); (with_reducible exact O1); rintro e wb ⟨co, eap, rfl, ⟨P1, P2, P3, hb⟩, P4⟩; replace B := B.keep hb; replace Z := Z.keep hb; replace hw := hw.trans (hb.mono hw.size); replace b0 := B.2.1; replace b1 := B.2.2; have Z2 := Z; obtain ⟨zl, z0, z1, v0, v1⟩ := Z2; clear hb))
  have P5 : 0 < L.length → ∀ a, co = some a → a.block ≠ w.heap.size + 1 := fun hl a ha => by
    rcases P4 with ⟨h, h2⟩ | h
    · rw [h2] at hl
      rw [h] at ha
      have := hx.block hl a ha
      omega
    · have := h a ha; have e := sW.out; omega
  have P6 := P1.turn (((Turned.refl (w.heap.size + 1) wb).set 0 (.int .i64 R)).set 1 (.slice co L.length eap)) P5
  clear GO PT sW HW O1 XA B Z P1 P4 P5 hsz
  go_wp2
  exact bodyPost_ret (v := .tuple #[.agg #[.int .i64 R, .slice co L.length eap], .int .i64 E]) (by simp [results, Try.results16, go_sem, z0, z1]) rfl ⟨co, eap, rfl, P6, P2, P3, (hw.setCell (by simp) _).setCell (by simp) _⟩

theorem rputd_c (N : Int) (ao : Option Addr) (xs : List Nat) (cap x : Nat) (w : World) (hx : Wd w ao xs) (hf : Fit xs) (hcap : xs.length ≤ cap) (h64 : x < 18446744073709551616) :
    Calls Try.prog 16 #[.agg #[.int .i64 N, .slice ao xs.length cap], .int .u64 x] w fun e w' => ∃ bo dap, e = .returned (.tuple #[.agg #[.int .i64 (pN true N xs x), .slice bo (pL true N xs x).length dap], .int .i64 (pE true N xs x)]) ∧ Out w w' bo (pL true N xs x) dap := by
  by_cases h : x = 0
  · subst h
    exact rputd_z N ao xs cap w hx hf hcap
  · have := rputd_n N ao xs cap x w hx hf hcap h h64
    unfold pN pL pE
    simp only [if_neg h]
    exact this
end Go.Proofs.Ytmdmjbpehbjgpaa
