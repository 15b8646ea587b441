/-
  An append to a row of the call's own, of whatever size its elements are; the contract of the document's without.
-/
import Derived.Test.YtbkagloonlddfaaUe
import Derived.Test.YtbkagloonlddfaaUz
import Derived.Test.YtbkagloonlddfaaRg
namespace Go.Proofs.Ytbkagloonlddfaa
open Go.RowKit Num Hp
set_option linter.unusedVariables false
set_option linter.unusedSimpArgs false
set_option maxRecDepth 100000

theorem owns_shape_g {w : World} {base e size n : Nat} {v : Value} {vs : List Value} (h : w.ownsRow base e size v n vs) : ∃ ao cap, v = .slice ao n cap := by
  obtain ⟨h1, ⟨rfl, rfl⟩ | ⟨g, cap, cur, rfl, e2, hh, r, _⟩⟩ := h
  · exact ⟨none, 0, rfl⟩
  · exact ⟨some ⟨g, 0, none⟩, cap, rfl⟩
theorem wp_append_g {o : Oper} {a : Act} {w : World} {K : Act → World → Prop} {Q : Exit → Act → World → Prop} (s x : Operand) (t : TypeId)
    (ho : o.op = .call { callee := .builtin .append, args := #[s, x], argTypes := #[t, t] })
    (base : Nat) (e : TypeId) (i : TypeInfo) (z : Value) (size bytes : Nat) (ht : Try.prog.underlying t = some (.slice e)) (hi : Try.prog.info? e = some i) (hz : i.zero = some z)
    (hsize : i.size = size) (hby : i.bytes = bytes) (hzs : z.cells.size = size) (hsz : 0 < size)
    (v : Value) (n : Nat) (vs : List Value) (hs : a.eval s = v) (hown : w.ownsRow base e size v n vs)
    (xa : Option Addr) (m c : Nat) (news : List Value) (hx : a.eval x = .slice xa m c) (hl : news.length = m * size) (hsrc : 0 < m → ∃ ad, xa = some ad ∧ ∀ j u, news[j]? = some u → w.cell? (ad.add j) = some u) (h1 : ∀ u ∈ news, u.oneCell' = true)
    (h63 : n + m ≤ maxLen) (hbytes : (n + m) * bytes ≤ 140737488355328) (hbase : base ≤ w.heap.size)
    (h : ∀ ao cap w', w'.ownsRow base e size (.slice ao (n + m) cap) (n + m) (vs ++ news) → Below base w w' → (∀ k, k < w.heap.size → v.ownBlock ≠ some k → w'.heap[k]? = w.heap[k]?) → w.heap.size ≤ w'.heap.size → K (a.put o.dst (.slice ao (n + m) cap)) w') :
    Oper.wp Try.prog o a w K Q := by
  by_cases hm : m = 0
  · subst hm
    have hn : news = [] := List.eq_nil_of_length_eq_zero (by omega)
    subst hn
    have hr := Ap.run_append_zero w base t o.type e i size ht hi v n vs hown xa c
    obtain ⟨ao, cap, rfl⟩ := owns_shape_g hown
    unfold Oper.wp execOp
    simp only [ho, resolve, invoke, builtin, Sem.run_bind, Sem.run_pure, Result.andThen_ok, List.map_toArray, List.map_cons, List.map_nil, hs, hx, hr]
    refine h ao cap w (by simpa using hown) (Below.refl _ _) (fun _ _ _ => rfl) (Nat.le_refl _)
  · obtain ⟨ad, rfl, hn⟩ := hsrc (by omega)
    refine wp_append_lies w s x t ho base e i z size bytes ht hi hz hsize hby hzs hsz v n vs hs hown ad m c news hx hl hn h1 (by omega) h63 hbytes hbase w.heap.size rfl ?_
    intro g cap w' o1 o2 o3 o4
    refine h (some ⟨g, 0, none⟩) cap w' o1 ?_ ?_ o2.size
    · exact (Below.refl _ _).grown o2 hbase (fun k hk => (hown.lt k hk).1)
    · intro k hk hne
      exact o2.block k hk (fun q => hne q.symm)
theorem owns_empty3 {e : TypeId} (w : World) (base : Nat) (h : base ≤ w.heap.size) {size : Nat} : (w.alloc (.cells #[] e)).ownsRow base e size (.slice (some ⟨w.heap.size, 0, none⟩) 0 0) 0 [] := by
  refine ⟨by simp, .inr ⟨w.heap.size, 0, #[], rfl, h, ?_, Nat.le_refl _, by unfold maxLen; omega, by simp, by simp⟩⟩
  exact Cel.new w [] e
theorem owns_cells {w : World} {base e size g cap n : Nat} {vs : List Value} (h : w.ownsRow base e size (.slice (some ⟨g, 0, none⟩) n cap) n vs) : g < w.heap.size ∧ ∀ j u, vs[j]? = some u → w.cell? ⟨g, j, none⟩ = some u := by
  obtain ⟨h1, ⟨h, _⟩ | ⟨g', cap', cur, e1, e2, hh, r1, r2, r3, r4⟩⟩ := h
  · cases h
  · simp only [Value.slice.injEq, Option.some.injEq, Addr.mk.injEq] at e1
    obtain ⟨⟨rfl, _, _⟩, _, rfl⟩ := e1
    refine ⟨(Array.getElem?_eq_some_iff.1 hh).1, fun j u hu => ?_⟩
    rw [cell_of_row w g j cur e (0, 0) hh]
    rw [← r4] at hu
    have hj : j < n * size := by
      have := (List.getElem?_eq_some_iff.1 hu).1
      rw [List.length_take] at this
      omega
    rw [List.getElem?_take_of_lt hj] at hu
    simpa using hu
theorem one_tbs (L : List TB) : ∀ u ∈ tbs L, u.oneCell' = true := by
  intro u hu
  unfold tbs at hu
  obtain ⟨x, _, hx⟩ := List.mem_flatMap.1 hu
  unfold tbc at hx
  simp only [List.mem_cons, List.not_mem_nil, or_false] at hx
  rcases hx with rfl | rfl | rfl <;> rfl
theorem tbs_take (L : List TB) (i j : Nat) (u : Value) (h : (tbs (L.take i))[j]? = some u) : (tbs L)[j]? = some u := by
  have e := tbs_append (L.take i) (L.drop i)
  rw [List.take_append_drop] at e
  rw [e, List.getElem?_append_left (List.getElem?_eq_some_iff.1 h).1]
  exact h
theorem tbs_drop (L : List TB) (i j : Nat) (u : Value) (hi : i ≤ L.length) (h : (tbs (L.drop i))[j]? = some u) : (tbs L)[i * 3 + j]? = some u := by
  have e := tbs_append (L.take i) (L.drop i)
  rw [List.take_append_drop] at e
  have hl : (tbs (L.take i)).length = i * 3 := by rw [length_tbs, List.length_take]; congr 1; omega
  rw [e, List.getElem?_append_right (by omega), hl, show i * 3 + j - i * 3 = j by omega]
  exact h
theorem addr_add (g o j : Nat) : (⟨g, o, none⟩ : Addr).add j = ⟨g, o + j, none⟩ := by unfold Addr.add; split <;> simp_all
def TZ : Value := .agg #[.int .i64 0, .int .i64 0, .slice none 0 0]
theorem info_tb : (Try.prog.info? 48).map (fun i => (i.zero, i.size, i.bytes)) = some (some TZ, 3, 40) := by kernel_rfl

set_option maxHeartbeats 8000000 in
theorem rwithout_c (base g cap n i : Nat) (L : List TB) (w : World) (hx : w.ownsRow base 48 3 (.slice (some ⟨g, 0, none⟩) n cap) n (tbs L)) (hn : L.length = n) (hi : i < n) (hl : n ≤ 256) :
    Calls Try.prog 29 #[.slice (some ⟨g, 0, none⟩) n cap, .int .i64 i] w fun e w' => ∃ ao c, e = .returned (.slice ao (n - 1) c) ∧ w'.ownsRow w.heap.size 48 3 (.slice ao (n - 1) c) (n - 1) (tbs (L.eraseIdx i)) ∧ Below w.heap.size w w' := by
  obtain ⟨i0, hi0, hz0, hz1, hz2⟩ := info_parts info_tb
  have hin := hi
  have hcap : n ≤ cap := by
    obtain ⟨h1, ⟨h, _⟩ | ⟨g', cap', cur, e1, e2, hh, r1, r2, r3, r4⟩⟩ := hx
    · cases h
    · simp only [Value.slice.injEq] at e1; omega
  obtain ⟨hg, hc⟩ := owns_cells hx
  have HS1 : Hid (∀ w0, Below w.heap.size w w0 → ∀ j u, (tbs (L.take i))[j]? = some u → w0.cell? ((⟨g, 0, none⟩ : Addr).add j) = some u) := fun w0 hb j u hu => by
    have := (hb.cell (p := ⟨g, j, none⟩) hg).trans (hc j u (tbs_take L i j u hu))
    rw [addr_add, Nat.zero_add]; exact this
  have HS2 : Hid (∀ w0, Below w.heap.size w w0 → ∀ j u, (tbs (L.drop (i + 1)))[j]? = some u → w0.cell? ((⟨g, (i + 1) * 3, none⟩ : Addr).add j) = some u) := fun w0 hb j u hu => by
    have := (hb.cell (p := ⟨g, (i + 1) * 3 + j, none⟩) hg).trans (hc _ u (tbs_drop L (i + 1) j u (by omega) hu))
    rw [addr_add]; exact this
  have HL1 : Hid ((tbs (L.take i)).length = i * 3) := by show (tbs (L.take i)).length = i * 3; rw [length_tbs, List.length_take]; congr 1; omega
  have HL2 : Hid ((tbs (L.drop (i + 1))).length = (n - (i + 1)) * 3) := by show (tbs (L.drop (i + 1))).length = _; rw [length_tbs, List.length_drop, hn]
  have HE : Hid (tbs (L.take i) ++ tbs (L.drop (i + 1)) = tbs (L.eraseIdx i)) := by show _ = tbs (L.eraseIdx i); rw [← tbs_append, List.eraseIdx_eq_take_drop_succ]
  have H1 : Hid (i + (n - (i + 1)) = n - 1) := by show i + (n - (i + 1)) = n - 1; omega
  have hinz : (i : Int) < (n : Int) := by omega
  have hic : i ≤ cap := by omega
  obtain ⟨i1, hi1⟩ : ∃ i1, i1 = i + 1 := ⟨_, rfl⟩
  have e1 : IntKind.i64.wrap ((i : Int) + 1) = (i1 : Int) := by rw [IntKind.wrap_i64]; omega
  have hi1n : i1 ≤ n := by omega
  have HS3 : Hid (∀ w0, Below w.heap.size w w0 → 0 < n - i1 → ∃ ad, (if cap = i1 then some (⟨g, 0, none⟩ : Addr) else some ⟨g, i1 * 3, none⟩) = some ad ∧ ∀ j u, (tbs (L.drop i1))[j]? = some u → w0.cell? (ad.add j) = some u) := fun w0 hb h0 => by
    rw [if_neg (by omega)]
    exact ⟨_, rfl, by rw [hi1]; exact HS2.out w0 hb⟩
  rw [← hi1] at HL2 HE H1
  clear HS2 hi1
  clear hx hc hn hi
  have hi := hi0
  clear hi0
  go_enter Try.func29, Try.ntmps29
  go_wp2
  refine region_g [] (fun w' => Below w.heap.size w w') (by kernel_rfl) ?_
  have hS : Below w.heap.size w w.drew := (Below.refl _ _).drew
  generalize w.drew = Y at *
  refine AnyG.take 1 (v := ?vv1) rfl (by kernel_rfl) (by kernel_rfl) (by kernel_rfl) (by kernel_rfl) (fun _ _ _ h => h) hS ?hy1 (by rfl) ?rest1
  case hy1 =>
    intro w0 h0
    go_simp
    try with_reducible rfl
  simp only [Act.put, List.getElem_toArray, List.getElem_cons_zero, List.getElem_cons_succ, List.setIfInBounds_toArray, List.set_cons_zero, List.set_cons_succ]
  refine AnyG.take 2 (v := ?vv2) rfl (by kernel_rfl) (by kernel_rfl) (by kernel_rfl) (by kernel_rfl) (fun _ _ _ h => h) hS ?hy2 (by rfl) ?rest2
  case hy2 =>
    intro w0 h0
    go_simp
    try with_reducible rfl
  simp only [Act.put, List.getElem_toArray, List.getElem_cons_zero, List.getElem_cons_succ, List.setIfInBounds_toArray, List.set_cons_zero, List.set_cons_succ]
  refine AnyG.take 3 (v := ?vv3) rfl (by kernel_rfl) (by kernel_rfl) (by kernel_rfl) (by kernel_rfl) (fun _ _ _ h => h) hS ?hy3 (by rfl) ?rest3
  case hy3 =>
    intro w0 h0
    go_simp
    try with_reducible rfl
  simp only [Act.put, List.getElem_toArray, List.getElem_cons_zero, List.getElem_cons_succ, List.setIfInBounds_toArray, List.set_cons_zero, List.set_cons_succ]
  refine AnyG.take 5 (v := ?vv4) rfl (by kernel_rfl) (by kernel_rfl) (by kernel_rfl) (by kernel_rfl) (fun _ _ _ h => h) hS ?hy4 (by rfl) ?rest4
  case hy4 =>
    intro w0 h0
    go_simp
    try with_reducible rfl
  simp only [Act.put, List.getElem_toArray, List.getElem_cons_zero, List.getElem_cons_succ, List.setIfInBounds_toArray, List.set_cons_zero, List.set_cons_succ]
  refine AnyG.take 6 (v := ?vv5) rfl (by kernel_rfl) (by kernel_rfl) (by kernel_rfl) (by kernel_rfl) (fun _ _ _ h => h) hS ?hy5 (by rfl) ?rest5
  case hy5 =>
    intro w0 h0
    go_simp
    try with_reducible rfl
  simp only [Act.put, List.getElem_toArray, List.getElem_cons_zero, List.getElem_cons_succ, List.setIfInBounds_toArray, List.set_cons_zero, List.set_cons_succ]
  refine AnyG.take 7 (v := ?vv6) rfl (by kernel_rfl) (by kernel_rfl) (by kernel_rfl) (by kernel_rfl) (fun _ _ _ h => h) hS ?hy6 (by rfl) ?rest6
  case hy6 =>
    intro w0 h0
    go_simp
    try with_reducible rfl
  simp only [Act.put, List.getElem_toArray, List.getElem_cons_zero, List.getElem_cons_succ, List.setIfInBounds_toArray, List.set_cons_zero, List.set_cons_succ]
  refine AnyG.take 8 (v := ?vv7) rfl (by kernel_rfl) (by kernel_rfl) (by kernel_rfl) (by kernel_rfl) (fun _ _ _ h => h) hS ?hy7 (by rfl) ?rest7
  case hy7 =>
    intro w0 h0
    go_simp
    try with_reducible rfl
  simp only [Act.put, List.getElem_toArray, List.getElem_cons_zero, List.getElem_cons_succ, List.setIfInBounds_toArray, List.set_cons_zero, List.set_cons_succ]
  refine AnyG.one 0 (by kernel_rfl) rfl ?_
  intro K hK
  go_simp
  refine hK.out _ _ (fun _ => hS.alloc hS.size _) ?_
  clear hK K
  try simp only [Act.put, List.getElem_toArray, List.getElem_cons_zero, List.getElem_cons_succ, List.setIfInBounds_toArray, List.set_cons_zero, List.set_cons_succ]
  have O0 : (Y.alloc (.cells #[] 48)).ownsRow w.heap.size 48 3 (.slice (some ⟨Y.heap.size, 0, none⟩) 0 0) 0 [] := owns_empty3 Y _ hS.size
  replace hS := hS.alloc hS.size (.cells #[] 48)
  generalize Y.alloc (.cells #[] 48) = Y1 at *
  generalize Y.heap.size = g1 at *
  refine AnyG.one 4 (by kernel_rfl) rfl ?_
  intro K hK
  refine wp_append_g _ _ _ rfl w.heap.size 48 i0 TZ 3 40 Try.underlying46 hi hz0 hz1 hz2 rfl (by decide) (.slice (some ⟨g1, 0, none⟩) 0 0) 0 [] rfl O0 (some ⟨g, 0, none⟩) i _ (tbs (L.take i)) rfl HL1.out (fun _ => ⟨_, rfl, HS1.out _ hS⟩) (one_tbs _) (by unfold maxLen; omega) (by omega) hS.size ?_
  intro ao c2 w2 O1 hb2 hk2 hs2
  refine hK.out _ _ (fun _ => hS.trans hb2) ?_
  clear hK K
  try simp only [Act.put, List.getElem_toArray, List.getElem_cons_zero, List.getElem_cons_succ, List.setIfInBounds_toArray, List.set_cons_zero, List.set_cons_succ]
  replace hS := hS.trans hb2
  clear hb2 hk2 hs2 O0
  simp only [Nat.zero_add, List.nil_append] at O1 ⊢
  refine AnyG.one 9 (by kernel_rfl) rfl ?_
  intro K hK
  refine wp_append_g _ _ _ rfl w.heap.size 48 i0 TZ 3 40 Try.underlying46 hi hz0 hz1 hz2 rfl (by decide) (.slice ao i c2) i (tbs (L.take i)) rfl O1 _ (n - i1) _ (tbs (L.drop i1)) rfl HL2.out (HS3.out _ hS) (one_tbs _) (by unfold maxLen; omega) (by omega) hS.size ?_
  intro ao3 c3 w3 O2 hb3 hk3 hs3
  refine hK.out _ _ (fun _ => hS.trans hb3) ?_
  clear hK K
  try simp only [Act.put, List.getElem_toArray, List.getElem_cons_zero, List.getElem_cons_succ, List.setIfInBounds_toArray, List.set_cons_zero, List.set_cons_succ]
  replace hS := hS.trans hb3
  clear hb3 hk3 hs3 O1
  refine AnyG.takeW 10 (v := ?vv8) rfl (by kernel_rfl) (by kernel_rfl) (by kernel_rfl) (fun _ _ _ h => h) ?hy8 (by rfl) ?rest8
  case hy8 =>
    intro w0
    go_simp
    try with_reducible rfl
  simp only [Act.put, List.getElem_toArray, List.getElem_cons_zero, List.getElem_cons_succ, List.setIfInBounds_toArray, List.set_cons_zero, List.set_cons_succ]
  refine AnyG.done (by kernel_rfl) ?_ _
  have HO := hide O2
  clear O2
  generalize (if cap = i1 then some (⟨g, 0, none⟩ : Addr) else some ⟨g, i1 * 3, none⟩) = xa at *
  go_wp2
  go_ret
  refine ⟨ao3, c3, ?_, ?_, hS⟩
  · rw [H1.out]; rfl
  · have := HO.out
    rw [H1.out, HE.out] at this
    exact this
end Go.Proofs.Ytbkagloonlddfaa
