/-
  The contracts of the document's low, gamma and delta: lists of bits in memory of the call's own.
-/
import Derived.Test.YtmdmjbpehbjgpaaRs1
namespace Go.Proofs.Ytmdmjbpehbjgpaa
open Go.RowKit Num Bit
set_option linter.unusedVariables false
set_option linter.unusedSimpArgs false
set_option maxRecDepth 100000

theorem test_end (x q : Nat) : (((x : Int) / 2 ^ q).tmod 2 == 1) = x.testBit q := by
  rw [bit_test, shr_cast]
  have : ((x / 2 ^ q : Nat) : Int).tmod 2 = ((x / 2 ^ q % 2 : Nat) : Int) := by generalize x / 2 ^ q = z; rw [Int.tmod_eq_emod_of_nonneg (by omega)]; omega
  rw [this, Bool.eq_iff_iff, beq_iff_eq, decide_eq_true_eq]
  omega

/-- An append to a row of the call's own, out of whatever source (nothing among them). -/
theorem wpList_append_u {ops : Array Oper} {rest : List Oper} {o : Oper} {a : Act} {w : World} {Q : Exit → Act → World → Prop} (hgd : o.guard = none) (s x : Operand) (t : TypeId)
    (ho : o.op = .call { callee := .builtin .append, args := #[s, x], argTypes := #[t, t] })
    (base : Nat) (e : TypeId) (i : TypeInfo) (z : Value) (bytes : Nat) (ht : Try.prog.underlying t = some (.slice e)) (hi : Try.prog.info? e = some i) (hz : i.zero = some z)
    (hsize : i.size = 1) (hby : i.bytes = bytes) (hzs : z.cells.size = 1)
    (v : Value) (n : Nat) (vs : List Value) (hs : a.eval s = v) (hown : w.ownsRow base e 1 v n vs)
    (xa : Option Addr) (m c : Nat) (news : List Value) (hx : a.eval x = .slice xa m c) (hl : news.length = m) (hsrc : 0 < m → ∃ ad, xa = some ad ∧ ∀ j u, news[j]? = some u → w.cell? (ad.add j) = some u) (h1 : ∀ u ∈ news, u.oneCell' = true)
    (h63 : n + m ≤ maxLen) (hbytes : (n + m) * bytes ≤ 140737488355328) (hbase : base ≤ w.heap.size)
    (h : ∀ ao cap w', w'.ownsRow base e 1 (.slice ao (n + m) cap) (n + m) (vs ++ news) → n + m ≤ cap → Below base w w' → wpList Try.prog ops Q rest (a.put o.dst (.slice ao (n + m) cap)) w') : wpList Try.prog ops Q (o :: rest) a w :=
  wpList_plain hgd fun K hK => by
    have hw : Region.wanted o (yielded ops a.tmps) = true := by simp [Region.wanted, hgd]
    have := step_append_u (ops := ops) (o := o) (a := a) (w := w) (K := K) (Q := Q) (E := True) hgd s x t ho base e i z bytes ht hi hz hsize hby hzs v n vs hs hown xa m c news hx hl hsrc h1 h63 hbytes hbase (fun ao cap w' h1 h2 h3 _ _ _ => hK _ _ (h ao cap w' h1 h2 h3))
    rw [if_pos hw] at this
    exact this

theorem made_bv (n : Nat) : (madeCells #[.bool false] n).toList = bv (List.replicate n false) := by
  rw [toList_madeCells_one (.bool false) n, bv, List.map_replicate]

set_option maxHeartbeats 2000000 in
theorem low_c (x n : Nat) (hx64 : x < 18446744073709551616) (hn : n ≤ 64) (w : World) :
    Calls Try.prog 48 #[.int .u64 x, .int .i64 n] w fun e w' => ∃ v, e = .returned v ∧ w'.ownsRow w.heap.size 4 1 v n (bv (lowL x n)) ∧ Below w.heap.size w w' := by
  obtain ⟨i0, hi, hz0, hz1, hz2⟩ := info_parts Try.info4
  have x0 : (0 : Int) ≤ (x : Int) := by omega
  go_enter Try.func48, Try.ntmps48
  go_wp2
  go_loopw [5, 6] (fun v i wr => ∃ q : Nat, q ≤ n ∧ i = .int .i64 q ∧ wr.ownsRow w.heap.size 4 1 v q (bv (lowL x q)) ∧ Below w.heap.size w wr) (fun _ i _ => n - (intOf i).toNat)
  case atStart => exact ⟨0, Nat.zero_le _, rfl, World.ownsRow_nil _ _ _ _, Below.refl _ _⟩
  case round =>
    obtain ⟨q, hq, rfl, hown, hwr⟩ := hrel
    by_cases hlt : q < n
    · have hlt2 : (q : Int) < (n : Int) := by omega
      have q64 : (q : Int) < 64 := by omega
      have T : Hid ((((x : Int) / 2 ^ q).tmod 2 == 1) = x.testBit q) := test_end x q
      have hsz := hwr.size
      go_wp2_with (at_builtin; rw [T.out]; refine wpList_append_own _ rfl _ _ 43 rfl w.heap.size 4 i0 (.bool false) 1 1 Try.underlying43 hi hz0 hz1 hz2 rfl (by decide) _ _ _ rfl (hown.alloc _) ⟨wr.heap.size, 0, none⟩ 1 1 [.bool (x.testBit q)] rfl rfl ?c1 ?c2 ?c3 ?c4 ?c5 ?_)
      case c1 =>
        intro j u hj
        match j, hj with
        | 0, hj => simp at hj; subst hj; simp [Addr.add]
      case c2 => intro u hu; simp at hu; subst hu; rfl
      case c3 => unfold maxLen; omega
      case c4 => omega
      case c5 => simp; omega
      intro v' w3 hown3 hgrow _
      have hrow : ∀ k, u5.ownBlock = some k → w.heap.size ≤ k := fun k hk => (hown.lt k hk).1
      have hb3 : Below w.heap.size (wr.alloc (.cells #[.bool (x.testBit q)] 4)) w3 := (Below.refl _ _).grown hgrow (by simp; omega) hrow
      have hb4 : Below w.heap.size wr w3 := Below.trans ((Below.refl _ _).alloc (by omega) _) hb3
      have hw3 := hwr.trans hb4
      rw [lowL_succ] at hown3
      have HO : Hid (w3.ownsRow w.heap.size 4 1 v' (q + 1) (bv (lowL x (q + 1)))) := hown3
      clear hgrow hown hb3 hb4 hown3 hrow hi hz0 hz1 hz2
      go_wp2
      first
        | exact ⟨⟨q + 1, by omega, by go_num, HO.out, hw3⟩, by simp only [intOf]; omega⟩
        | (go_roundw
           case rel => exact ⟨q + 1, by omega, by go_num, HO.out, hw3⟩
           case measure => simp only [intOf]; omega)
    · have hqm : q = n := by omega
      have HO : Hid (wr.ownsRow w.heap.size 4 1 u5 n (bv (lowL x n))) := by
        rw [hqm] at hown
        exact hown
      clear hqm hown
      go_wp2
      go_ret
      exact ⟨u5, rfl, HO.out, hwr⟩

set_option maxHeartbeats 2000000 in
theorem rgamma_c (x : Nat) (h0 : x ≠ 0) (h64 : x < 18446744073709551616) (w : World) :
    Calls Try.prog 33 #[.int .u64 x] w fun e w' => ∃ v, e = .returned v ∧ w'.ownsRow w.heap.size 4 1 v (gL x) (bv (gamL x)) ∧ Below w.heap.size w w' := by
  obtain ⟨i0, hi, hz0, hz1, hz2⟩ := info_parts Try.info4
  have p := bl_pos x h0
  have q := bl64 x h64
  have LN : ∀ w0 : World, Calls Try.prog 47 #[.int .u64 x] w0 fun e w' => e = .returned (.int .i64 (bl x)) ∧ w' = w0 := fun w0 => reflen_c x (by omega) (by omega) w0
  obtain ⟨n, hn⟩ : ∃ n, n = bl x - 1 := ⟨_, rfl⟩
  have hbl : (bl x : Int) = (n : Int) + 1 := by omega
  have eL : gL x = n + 1 + n := by unfold gL; omega
  have eG : gamL x = List.replicate n false ++ [true] ++ lowL x n := by unfold gamL; rw [← hn]
  rw [eL, eG]
  rw [hbl] at LN
  have LO : Hid (∀ w0 : World, Calls Try.prog 48 #[.int .u64 x, .int .i64 n] w0 fun e w' => ∃ v, e = .returned v ∧ w'.ownsRow w0.heap.size 4 1 v n (bv (lowL x n)) ∧ Below w0.heap.size w0 w') := fun w0 => low_c x n h64 (by omega) w0
  have n1 : n ≤ 63 := by omega
  clear eL eG hbl hn p q
  go_enter Try.func33, Try.ntmps33
  go_wp2_with fail
  refine (LN _).mono ?_
  rintro e w0 ⟨rfl, hw0⟩
  rw [hw0]
  clear hw0 w0 LN
  go_wp2_with (at_make; refine wpList_make_full _ rfl _ _ 43 rfl w.heap.size 4 i0 (.bool false) 1 Try.underlying43 hi hz0 hz1 .i64 .i64 _ _ n rfl rfl rfl rfl ?b2 ?b3 ?b4 ?_)
  case b2 => rw [hz2]; omega
  case b3 => unfold maxLen; omega
  case b4 => omega
  intro w1 hown hgr
  have hb1 : Below w.heap.size w w1 := (Below.refl _ _).grown hgr (Nat.le_refl _) (fun k h => by cases h)
  rw [made_bv] at hown
  have hs1 := hb1.size
  clear hgr
  go_wp2_with (at_builtin; refine wpList_append_own _ rfl _ _ 43 rfl w.heap.size 4 i0 (.bool false) 1 1 Try.underlying43 hi hz0 hz1 hz2 rfl (by decide) _ _ _ rfl (hown.alloc _) ⟨w1.heap.size, 0, none⟩ 1 1 [.bool true] rfl rfl ?c1 ?c2 ?c3 ?c4 ?c5 ?_)
  case c1 =>
    intro j u hj
    match j, hj with
    | 0, hj => simp at hj; subst hj; simp [Addr.add]
  case c2 => intro u hu; simp at hu; subst hu; rfl
  case c3 => unfold maxLen; omega
  case c4 => omega
  case c5 => simp; omega
  intro v2 w2 hown2 hgrow _
  have hb2 : Below w.heap.size w w2 := hb1.trans (Below.trans ((Below.refl _ _).alloc (by omega) _) ((Below.refl _ _).grown hgrow (by simp; omega) (fun k hk => (hown.lt k hk).1)))
  have hs2 := hb2.size
  clear hgrow hown hs1 hb1
  have H2 : Hid (w2.ownsRow w.heap.size 4 1 v2 (n + 1) (bv (List.replicate n false) ++ [.bool true])) := hown2
  clear hown2
  go_wp2_with fail
  refine (LO.out _).mono ?_
  rintro e w3 ⟨v3, rfl, own3, hb⟩
  have own2 := owns_below H2.out hb
  have hb3 := hb2.trans (hb.mono hs2)
  have hs3 := hb3.size
  obtain ⟨xa, xc, hv3, hle3, -⟩ := owns_shape own3
  have src := own_src own3 hv3
  clear own3 H2 hb LO hb2
  subst hv3
  go_wp2_with (at_builtin; refine wpList_append_u rfl _ _ 43 rfl w.heap.size 4 i0 (.bool false) 1 Try.underlying43 hi hz0 hz1 hz2 rfl v2 (n + 1) (bv (List.replicate n false) ++ [.bool true]) rfl own2 xa n xc (bv (lowL x n)) rfl (by simp [bv, length_lowL]) src (one_bv _) ?c3 ?c4 hs3 ?_)
  case c3 => unfold maxLen; omega
  case c4 => omega
  intro co cc w4 own4 hle4 hB4
  have e4 : bv (List.replicate n false) ++ .bool true :: bv (lowL x n) = bv (List.replicate n false ++ [true] ++ lowL x n) := by simp [bv]
  rw [e4] at own4
  have H4 : Hid (w4.ownsRow w.heap.size 4 1 (.slice co (n + 1 + n) cc) (n + 1 + n) (bv (List.replicate n false ++ [true] ++ lowL x n))) := own4
  have hb4 := hb3.trans hB4
  clear own4 own2 src hB4 hb3 hi hz0 hz1 hz2
  go_wp2
  go_ret
  exact ⟨_, rfl, H4.out, hb4⟩

set_option maxHeartbeats 2000000 in
theorem rdelta_c (x : Nat) (h0 : x ≠ 0) (h64 : x < 18446744073709551616) (w : World) :
    Calls Try.prog 34 #[.int .u64 x] w fun e w' => ∃ v, e = .returned v ∧ w'.ownsRow w.heap.size 4 1 v (cL true x) (bv (codL true x)) ∧ Below w.heap.size w w' := by
  obtain ⟨i0, hi, hz0, hz1, hz2⟩ := info_parts Try.info4
  have p := bl_pos x h0
  have q := bl64 x h64
  have LN : ∀ w0 : World, Calls Try.prog 47 #[.int .u64 x] w0 fun e w' => e = .returned (.int .i64 (bl x)) ∧ w' = w0 := fun w0 => reflen_c x (by omega) (by omega) w0
  obtain ⟨n, hn⟩ : ∃ n, n = bl x - 1 := ⟨_, rfl⟩
  have hbl : bl x = n + 1 := by omega
  have GA : Hid (∀ w0 : World, Calls Try.prog 33 #[.int .u64 ((n : Int) + 1)] w0 fun e w' => ∃ v, e = .returned v ∧ w'.ownsRow w0.heap.size 4 1 v (gL (n + 1)) (bv (gamL (n + 1))) ∧ Below w0.heap.size w0 w') := fun w0 => rgamma_c (n + 1) (by omega) (by omega) w0
  have eL : cL true x = gL (n + 1) + n := by unfold cL; rw [if_neg h0, hbl]; simp
  have eG : codL true x = gamL (n + 1) ++ lowL x n := by unfold codL; rw [hbl]; simp
  have gl := gL_le (n + 1) (by omega)
  rw [eL, eG]
  have LN2 : ∀ w0 : World, Calls Try.prog 47 #[.int .u64 x] w0 fun e w' => e = .returned (.int .i64 ((n : Int) + 1)) ∧ w' = w0 := fun w0 => by have := LN w0; rw [hbl] at this; exact this
  have LO : Hid (∀ w0 : World, Calls Try.prog 48 #[.int .u64 x, .int .i64 n] w0 fun e w' => ∃ v, e = .returned v ∧ w'.ownsRow w0.heap.size 4 1 v n (bv (lowL x n)) ∧ Below w0.heap.size w0 w') := fun w0 => low_c x n h64 (by omega) w0
  have n1 : n ≤ 63 := by omega
  clear eL eG hbl hn p q LN
  generalize gL (n + 1) = G at *
  generalize gamL (n + 1) = M at *
  go_enter Try.func34, Try.ntmps34
  go_wp2_with fail
  refine (LN2 _).mono ?_
  rintro e w0 ⟨rfl, hw0⟩
  rw [hw0]
  clear hw0 w0 LN2
  go_wp2_with fail
  refine (GA.out _).mono ?_
  rintro e w2 ⟨v2, rfl, hown2, hb2⟩
  have hs2 := hb2.size
  have H2 : Hid (w2.ownsRow w.heap.size 4 1 v2 G (bv M)) := hown2
  clear hown2 GA
  go_wp2_with fail
  refine (LO.out _).mono ?_
  rintro e w3 ⟨v3, rfl, own3, hb⟩
  have own2 := owns_below H2.out hb
  have hb3 := hb2.trans (hb.mono hs2)
  have hs3 := hb3.size
  obtain ⟨xa, xc, hv3, hle3, -⟩ := owns_shape own3
  have src := own_src own3 hv3
  clear own3 H2 hb LO hb2
  subst hv3
  go_wp2_with (at_builtin; refine wpList_append_u rfl _ _ 43 rfl w.heap.size 4 i0 (.bool false) 1 Try.underlying43 hi hz0 hz1 hz2 rfl v2 G (bv M) rfl own2 xa n xc (bv (lowL x n)) rfl (by simp [bv, length_lowL]) src (one_bv _) ?c3 ?c4 hs3 ?_)
  case c3 => unfold maxLen; omega
  case c4 => omega
  intro co cc w4 own4 hle4 hB4
  have e4 : bv M ++ bv (lowL x n) = bv (M ++ lowL x n) := by simp [bv]
  rw [e4] at own4
  have H4 : Hid (w4.ownsRow w.heap.size 4 1 (.slice co (G + n) cc) (G + n) (bv (M ++ lowL x n))) := own4
  have hb4 := hb3.trans hB4
  clear own4 own2 src hB4 hb3 hi hz0 hz1 hz2
  go_wp2
  go_ret
  exact ⟨_, rfl, H4.out, hb4⟩
end Go.Proofs.Ytmdmjbpehbjgpaa
