/-
  An append to a row of the call's own, of whatever size its elements are; the contract of the document's without. Plain: what the document's Lengths keeps, round by round; rows that stay.
-/
import Derived.Test.YtckkhmmicbpihaaM09
import Derived.Test.YtckkhmmicbpihaaM06
import Derived.Test.YtckkhmmicbpihaaM04
namespace Go.Proofs.Ytckkhmmicbpihaa
open Go.RowKit Num Hp
set_option linter.unusedVariables false
set_option linter.unusedSimpArgs false
set_option maxRecDepth 100000

theorem owns_shape_g {w : World} {base e size n : Nat} {v : Value} {vs : List Value} (h : w.ownsRow base e size v n vs) : ∃ ao cap, v = .slice ao n cap := by
  obtain ⟨h1, ⟨rfl, rfl⟩ | ⟨g, cap, cur, rfl, e2, hh, r, _⟩⟩ := h
  · exact ⟨none, 0, rfl⟩
  · exact ⟨some ⟨g, 0, none⟩, cap, rfl⟩
theorem wp_append_g {o : Oper} {a : Act} {w : World} {K : Act → World → Prop} {Q : Exit → Act → World → Prop} (s x : Operand) (t : TypeId)
    (ho : o.op = .call { callee := .builtin .append, args := #[s, x], argTypes := #[t, t] })
    (base : Nat) (e : TypeId) (i : TypeInfo) (z : Value) (size bytes : Nat) (ht : Try.prog.underlying t = some (.slice e)) (hi : Try.prog.info? e = some i) (hz : i.zero = some z)
    (hsize : i.size = size) (hby : i.bytes = bytes) (hzs : z.cells.size = size) (hsz : 0 < size)
    (v : Value) (n : Nat) (vs : List Value) (hs : a.eval s = v) (hown : w.ownsRow base e size v n vs)
    (xa : Option Addr) (m c : Nat) (news : List Value) (hx : a.eval x = .slice xa m c) (hl : news.length = m * size) (hsrc : 0 < m → ∃ ad, xa = some ad ∧ ∀ j u, news[j]? = some u → w.cell? (ad.add j) = some u) (h1 : ∀ u ∈ news, u.oneCell' = true)
    (h63 : n + m ≤ maxLen) (hbytes : (n + m) * bytes ≤ 140737488355328) (hbase : base ≤ w.heap.size)
    (h : ∀ ao cap w', w'.ownsRow base e size (.slice ao (n + m) cap) (n + m) (vs ++ news) → Below base w w' → (∀ k, k < w.heap.size → v.ownBlock ≠ some k → w'.heap[k]? = w.heap[k]?) → w.heap.size ≤ w'.heap.size → K (a.put o.dst (.slice ao (n + m) cap)) w') :
    Oper.wp Try.prog o a w K Q := by
  by_cases hm : m = 0
  · subst hm
    have hn : news = [] := List.eq_nil_of_length_eq_zero (by omega)
    subst hn
    have hr := Ap.run_append_zero w base t o.type e i size ht hi v n vs hown xa c
    obtain ⟨ao, cap, rfl⟩ := owns_shape_g hown
    unfold Oper.wp execOp
    simp only [ho, resolve, invoke, builtin, Sem.run_bind, Sem.run_pure, Result.andThen_ok, List.map_toArray, List.map_cons, List.map_nil, hs, hx, hr]
    refine h ao cap w (by simpa using hown) (Below.refl _ _) (fun _ _ _ => rfl) (Nat.le_refl _)
  · obtain ⟨ad, rfl, hn⟩ := hsrc (by omega)
    refine wp_append_lies w s x t ho base e i z size bytes ht hi hz hsize hby hzs hsz v n vs hs hown ad m c news hx hl hn h1 (by omega) h63 hbytes hbase w.heap.size rfl ?_
    intro g cap w' o1 o2 o3 o4
    refine h (some ⟨g, 0, none⟩) cap w' o1 ?_ ?_ o2.size
    · exact (Below.refl _ _).grown o2 hbase (fun k hk => (hown.lt k hk).1)
    · intro k hk hne
      exact o2.block k hk (fun q => hne q.symm)
theorem owns_empty3 {e : TypeId} (w : World) (base : Nat) (h : base ≤ w.heap.size) {size : Nat} : (w.alloc (.cells #[] e)).ownsRow base e size (.slice (some ⟨w.heap.size, 0, none⟩) 0 0) 0 [] := by
  refine ⟨by simp, .inr ⟨w.heap.size, 0, #[], rfl, h, ?_, Nat.le_refl _, by unfold maxLen; omega, by simp, by simp⟩⟩
  exact Cel.new w [] e
theorem owns_cells {w : World} {base e size g cap n : Nat} {vs : List Value} (h : w.ownsRow base e size (.slice (some ⟨g, 0, none⟩) n cap) n vs) : g < w.heap.size ∧ ∀ j u, vs[j]? = some u → w.cell? ⟨g, j, none⟩ = some u := by
  obtain ⟨h1, ⟨h, _⟩ | ⟨g', cap', cur, e1, e2, hh, r1, r2, r3, r4⟩⟩ := h
  · cases h
  · simp only [Value.slice.injEq, Option.some.injEq, Addr.mk.injEq] at e1
    obtain ⟨⟨rfl, _, _⟩, _, rfl⟩ := e1
    refine ⟨(Array.getElem?_eq_some_iff.1 hh).1, fun j u hu => ?_⟩
    rw [cell_of_row w g j cur e (0, 0) hh]
    rw [← r4] at hu
    have hj : j < n * size := by
      have := (List.getElem?_eq_some_iff.1 hu).1
      rw [List.length_take] at this
      omega
    rw [List.getElem?_take_of_lt hj] at hu
    simpa using hu
theorem one_tbs (L : List TB) : ∀ u ∈ tbs L, u.oneCell' = true := by
  intro u hu
  unfold tbs at hu
  obtain ⟨x, _, hx⟩ := List.mem_flatMap.1 hu
  unfold tbc at hx
  simp only [List.mem_cons, List.not_mem_nil, or_false] at hx
  rcases hx with rfl | rfl | rfl <;> rfl
theorem tbs_take (L : List TB) (i j : Nat) (u : Value) (h : (tbs (L.take i))[j]? = some u) : (tbs L)[j]? = some u := by
  have e := tbs_append (L.take i) (L.drop i)
  rw [List.take_append_drop] at e
  rw [e, List.getElem?_append_left (List.getElem?_eq_some_iff.1 h).1]
  exact h
theorem tbs_drop (L : List TB) (i j : Nat) (u : Value) (hi : i ≤ L.length) (h : (tbs (L.drop i))[j]? = some u) : (tbs L)[i * 3 + j]? = some u := by
  have e := tbs_append (L.take i) (L.drop i)
  rw [List.take_append_drop] at e
  have hl : (tbs (L.take i)).length = i * 3 := by rw [length_tbs, List.length_take]; congr 1; omega
  rw [e, List.getElem?_append_right (by omega), hl, show i * 3 + j - i * 3 = j by omega]
  exact h
theorem addr_add (g o j : Nat) : (⟨g, o, none⟩ : Addr).add j = ⟨g, o + j, none⟩ := by unfold Addr.add; split <;> simp_all
def TZ : Value := .agg #[.int .i64 0, .int .i64 0, .slice none 0 0]
theorem info_tb : (Try.prog.info? 104).map (fun i => (i.zero, i.size, i.bytes)) = some (some TZ, 3, 40) := by kernel_rfl

set_option maxHeartbeats 8000000 in
theorem rwithout_c (base g cap n i : Nat) (L : List TB) (w : World) (hx : w.ownsRow base 104 3 (.slice (some ⟨g, 0, none⟩) n cap) n (tbs L)) (hn : L.length = n) (hi : i < n) (hl : n ≤ 256) :
    Calls Try.prog 75 #[.slice (some ⟨g, 0, none⟩) n cap, .int .i64 i] w fun e w' => ∃ ao c, e = .returned (.slice ao (n - 1) c) ∧ w'.ownsRow w.heap.size 104 3 (.slice ao (n - 1) c) (n - 1) (tbs (L.eraseIdx i)) ∧ Below w.heap.size w w' := by
  obtain ⟨i0, hi0, hz0, hz1, hz2⟩ := info_parts info_tb
  have hin := hi
  have hcap : n ≤ cap := by
    obtain ⟨h1, ⟨h, _⟩ | ⟨g', cap', cur, e1, e2, hh, r1, r2, r3, r4⟩⟩ := hx
    · cases h
    · simp only [Value.slice.injEq] at e1; omega
  obtain ⟨hg, hc⟩ := owns_cells hx
  have HS1 : Hid (∀ w0, Below w.heap.size w w0 → ∀ j u, (tbs (L.take i))[j]? = some u → w0.cell? ((⟨g, 0, none⟩ : Addr).add j) = some u) := fun w0 hb j u hu => by
    have := (hb.cell (p := ⟨g, j, none⟩) hg).trans (hc j u (tbs_take L i j u hu))
    rw [addr_add, Nat.zero_add]; exact this
  have HS2 : Hid (∀ w0, Below w.heap.size w w0 → ∀ j u, (tbs (L.drop (i + 1)))[j]? = some u → w0.cell? ((⟨g, (i + 1) * 3, none⟩ : Addr).add j) = some u) := fun w0 hb j u hu => by
    have := (hb.cell (p := ⟨g, (i + 1) * 3 + j, none⟩) hg).trans (hc _ u (tbs_drop L (i + 1) j u (by omega) hu))
    rw [addr_add]; exact this
  have HL1 : Hid ((tbs (L.take i)).length = i * 3) := by show (tbs (L.take i)).length = i * 3; rw [length_tbs, List.length_take]; congr 1; omega
  have HL2 : Hid ((tbs (L.drop (i + 1))).length = (n - (i + 1)) * 3) := by show (tbs (L.drop (i + 1))).length = _; rw [length_tbs, List.length_drop, hn]
  have HE : Hid (tbs (L.take i) ++ tbs (L.drop (i + 1)) = tbs (L.eraseIdx i)) := by show _ = tbs (L.eraseIdx i); rw [← tbs_append, List.eraseIdx_eq_take_drop_succ]
  have H1 : Hid (i + (n - (i + 1)) = n - 1) := by show i + (n - (i + 1)) = n - 1; omega
  have hinz : (i : Int) < (n : Int) := by omega
  have hic : i ≤ cap := by omega
  obtain ⟨i1, hi1⟩ : ∃ i1, i1 = i + 1 := ⟨_, rfl⟩
  have e1 : IntKind.i64.wrap ((i : Int) + 1) = (i1 : Int) := by rw [IntKind.wrap_i64]; omega
  have hi1n : i1 ≤ n := by omega
  have HS3 : Hid (∀ w0, Below w.heap.size w w0 → 0 < n - i1 → ∃ ad, (if cap = i1 then some (⟨g, 0, none⟩ : Addr) else some ⟨g, i1 * 3, none⟩) = some ad ∧ ∀ j u, (tbs (L.drop i1))[j]? = some u → w0.cell? (ad.add j) = some u) := fun w0 hb h0 => by
    rw [if_neg (by omega)]
    exact ⟨_, rfl, by rw [hi1]; exact HS2.out w0 hb⟩
  rw [← hi1] at HL2 HE H1
  clear HS2 hi1
  clear hx hc hn hi
  have hi := hi0
  clear hi0
  go_enter Try.func75, Try.ntmps75
  go_wp2
  refine region_g [] (fun w' => Below w.heap.size w w') (by kernel_rfl) ?_
  have hS : Below w.heap.size w w.drew := (Below.refl _ _).drew
  generalize w.drew = Y at *
  refine AnyG.take 1 (v := ?vv1) rfl (by kernel_rfl) (by kernel_rfl) (by kernel_rfl) (by kernel_rfl) (fun _ _ _ h => h) hS ?hy1 (by rfl) ?rest1
  case hy1 =>
    intro w0 h0
    go_simp
    try with_reducible rfl
  simp only [Act.put, List.getElem_toArray, List.getElem_cons_zero, List.getElem_cons_succ, List.setIfInBounds_toArray, List.set_cons_zero, List.set_cons_succ]
  refine AnyG.take 2 (v := ?vv2) rfl (by kernel_rfl) (by kernel_rfl) (by kernel_rfl) (by kernel_rfl) (fun _ _ _ h => h) hS ?hy2 (by rfl) ?rest2
  case hy2 =>
    intro w0 h0
    go_simp
    try with_reducible rfl
  simp only [Act.put, List.getElem_toArray, List.getElem_cons_zero, List.getElem_cons_succ, List.setIfInBounds_toArray, List.set_cons_zero, List.set_cons_succ]
  refine AnyG.take 3 (v := ?vv3) rfl (by kernel_rfl) (by kernel_rfl) (by kernel_rfl) (by kernel_rfl) (fun _ _ _ h => h) hS ?hy3 (by rfl) ?rest3
  case hy3 =>
    intro w0 h0
    go_simp
    try with_reducible rfl
  simp only [Act.put, List.getElem_toArray, List.getElem_cons_zero, List.getElem_cons_succ, List.setIfInBounds_toArray, List.set_cons_zero, List.set_cons_succ]
  refine AnyG.take 5 (v := ?vv4) rfl (by kernel_rfl) (by kernel_rfl) (by kernel_rfl) (by kernel_rfl) (fun _ _ _ h => h) hS ?hy4 (by rfl) ?rest4
  case hy4 =>
    intro w0 h0
    go_simp
    try with_reducible rfl
  simp only [Act.put, List.getElem_toArray, List.getElem_cons_zero, List.getElem_cons_succ, List.setIfInBounds_toArray, List.set_cons_zero, List.set_cons_succ]
  refine AnyG.take 6 (v := ?vv5) rfl (by kernel_rfl) (by kernel_rfl) (by kernel_rfl) (by kernel_rfl) (fun _ _ _ h => h) hS ?hy5 (by rfl) ?rest5
  case hy5 =>
    intro w0 h0
    go_simp
    try with_reducible rfl
  simp only [Act.put, List.getElem_toArray, List.getElem_cons_zero, List.getElem_cons_succ, List.setIfInBounds_toArray, List.set_cons_zero, List.set_cons_succ]
  refine AnyG.take 7 (v := ?vv6) rfl (by kernel_rfl) (by kernel_rfl) (by kernel_rfl) (by kernel_rfl) (fun _ _ _ h => h) hS ?hy6 (by rfl) ?rest6
  case hy6 =>
    intro w0 h0
    go_simp
    try with_reducible rfl
  simp only [Act.put, List.getElem_toArray, List.getElem_cons_zero, List.getElem_cons_succ, List.setIfInBounds_toArray, List.set_cons_zero, List.set_cons_succ]
  refine AnyG.take 8 (v := ?vv7) rfl (by kernel_rfl) (by kernel_rfl) (by kernel_rfl) (by kernel_rfl) (fun _ _ _ h => h) hS ?hy7 (by rfl) ?rest7
  case hy7 =>
    intro w0 h0
    go_simp
    try with_reducible rfl
  simp only [Act.put, List.getElem_toArray, List.getElem_cons_zero, List.getElem_cons_succ, List.setIfInBounds_toArray, List.set_cons_zero, List.set_cons_succ]
  refine AnyG.one 0 (by kernel_rfl) rfl ?_
  intro K hK
  go_simp
  refine hK.out _ _ (fun _ => hS.alloc hS.size _) ?_
  clear hK K
  try simp only [Act.put, List.getElem_toArray, List.getElem_cons_zero, List.getElem_cons_succ, List.setIfInBounds_toArray, List.set_cons_zero, List.set_cons_succ]
  have O0 : (Y.alloc (.cells #[] 104)).ownsRow w.heap.size 104 3 (.slice (some ⟨Y.heap.size, 0, none⟩) 0 0) 0 [] := owns_empty3 Y _ hS.size
  replace hS := hS.alloc hS.size (.cells #[] 104)
  generalize Y.alloc (.cells #[] 104) = Y1 at *
  generalize Y.heap.size = g1 at *
  refine AnyG.one 4 (by kernel_rfl) rfl ?_
  intro K hK
  refine wp_append_g _ _ _ rfl w.heap.size 104 i0 TZ 3 40 Try.underlying102 hi hz0 hz1 hz2 rfl (by decide) (.slice (some ⟨g1, 0, none⟩) 0 0) 0 [] rfl O0 (some ⟨g, 0, none⟩) i _ (tbs (L.take i)) rfl HL1.out (fun _ => ⟨_, rfl, HS1.out _ hS⟩) (one_tbs _) (by unfold maxLen; omega) (by omega) hS.size ?_
  intro ao c2 w2 O1 hb2 hk2 hs2
  refine hK.out _ _ (fun _ => hS.trans hb2) ?_
  clear hK K
  try simp only [Act.put, List.getElem_toArray, List.getElem_cons_zero, List.getElem_cons_succ, List.setIfInBounds_toArray, List.set_cons_zero, List.set_cons_succ]
  replace hS := hS.trans hb2
  clear hb2 hk2 hs2 O0
  simp only [Nat.zero_add, List.nil_append] at O1 ⊢
  refine AnyG.one 9 (by kernel_rfl) rfl ?_
  intro K hK
  refine wp_append_g _ _ _ rfl w.heap.size 104 i0 TZ 3 40 Try.underlying102 hi hz0 hz1 hz2 rfl (by decide) (.slice ao i c2) i (tbs (L.take i)) rfl O1 _ (n - i1) _ (tbs (L.drop i1)) rfl HL2.out (HS3.out _ hS) (one_tbs _) (by unfold maxLen; omega) (by omega) hS.size ?_
  intro ao3 c3 w3 O2 hb3 hk3 hs3
  refine hK.out _ _ (fun _ => hS.trans hb3) ?_
  clear hK K
  try simp only [Act.put, List.getElem_toArray, List.getElem_cons_zero, List.getElem_cons_succ, List.setIfInBounds_toArray, List.set_cons_zero, List.set_cons_succ]
  replace hS := hS.trans hb3
  clear hb3 hk3 hs3 O1
  refine AnyG.takeW 10 (v := ?vv8) rfl (by kernel_rfl) (by kernel_rfl) (by kernel_rfl) (fun _ _ _ h => h) ?hy8 (by rfl) ?rest8
  case hy8 =>
    intro w0
    go_simp
    try with_reducible rfl
  simp only [Act.put, List.getElem_toArray, List.getElem_cons_zero, List.getElem_cons_succ, List.setIfInBounds_toArray, List.set_cons_zero, List.set_cons_succ]
  refine AnyG.done (by kernel_rfl) ?_ _
  have HO := hide O2
  clear O2
  generalize (if cap = i1 then some (⟨g, 0, none⟩ : Addr) else some ⟨g, i1 * 3, none⟩) = xa at *
  go_wp2
  go_ret
  refine ⟨ao3, c3, ?_, ?_, hS⟩
  · rw [H1.out]; rfl
  · have := HO.out
    rw [H1.out, HE.out] at this
    exact this
end Go.Proofs.Ytckkhmmicbpihaa

namespace Go.Proofs.Ytckkhmmicbpihaa
open Go.RowKit Num Hp Hn Ho
set_option linter.unusedVariables false
set_option linter.unusedSimpArgs false
set_option maxRecDepth 100000

theorem owns_keep {w w' : World} {base e size n : Nat} {v : Value} {vs : List Value} (h : w.ownsRow base e size v n vs) (hb : Below w.heap.size w w') : w'.ownsRow base e size v n vs := by
  obtain ⟨h1, h2 | ⟨g, cap, cur, e1, e2, hh, r⟩⟩ := h
  · exact ⟨h1, .inl h2⟩
  · exact ⟨h1, .inr ⟨g, cap, cur, e1, e2, (hb.block g ((Array.getElem?_eq_some_iff.1 hh).1)).trans hh, r⟩⟩
theorem owns_only {g base e size n : Nat} {w w' : World} {v : Value} {vs : List Value} (h : Only g w w') (ho : w.ownsRow base e size v n vs) (hg : g < base) : w'.ownsRow base e size v n vs := by
  obtain ⟨h1, h2 | ⟨k, cap, cur, e1, e2, hh, r⟩⟩ := ho
  · exact ⟨h1, .inl h2⟩
  · exact ⟨h1, .inr ⟨k, cap, cur, e1, e2, (h.block k (by omega)).trans hh, r⟩⟩
theorem owns_low {w : World} {base b2 e size n : Nat} {v : Value} {vs : List Value} (h : w.ownsRow base e size v n vs) (hb : b2 ≤ base) : w.ownsRow b2 e size v n vs := by
  obtain ⟨h1, h2 | ⟨g, cap, cur, e1, e2, r⟩⟩ := h
  · exact ⟨h1, .inl h2⟩
  · exact ⟨h1, .inr ⟨g, cap, cur, e1, by omega, r⟩⟩
/-- A row of other elements stays where this one grows. -/
theorem owns_grow {w w' : World} {base e size n b2 e2 size2 n2 : Nat} {v u : Value} {vs us : List Value} (h : w.ownsRow base e size v n vs) (hu : w.ownsRow b2 e2 size2 u n2 us) (hne : e ≠ e2)
    (hk : ∀ k, k < w.heap.size → u.ownBlock ≠ some k → w'.heap[k]? = w.heap[k]?) : w'.ownsRow base e size v n vs := by
  obtain ⟨h1, h2 | ⟨g, cap, cur, e1, e3, hh, r⟩⟩ := h
  · exact ⟨h1, .inl h2⟩
  · refine ⟨h1, .inr ⟨g, cap, cur, e1, e3, (hk g (Array.getElem?_eq_some_iff.1 hh).1 ?_).trans hh, r⟩⟩
    obtain ⟨_, ⟨rfl, _⟩ | ⟨g2, cap2, cur2, rfl, _, hh2, _⟩⟩ := hu
    · intro q; cases q
    · intro q
      simp only [Value.ownBlock, Option.some.injEq] at q
      subst q
      rw [hh] at hh2
      simp only [Option.some.injEq, Obj.cells.injEq] at hh2
      exact hne hh2.2.1
/-- What the document's things are like. -/
structure TI (T : List Tg) (n : Nat) : Prop where
  wt : (T.map Tg.wt).sum ≤ 268435456
  sl : (T.map fun x => x.sy.length).sum ≤ 256
  sm : ∀ x ∈ T, ∀ c ∈ x.sy, c < 256
  ne : ∀ x ∈ T, 0 < x.sy.length
  ids : n + T.length ≤ 512
theorem sum_perm {l m : List Nat} (h : l.Perm m) : l.sum = m.sum := by
  induction h with
  | nil => rfl
  | cons x _ ih => simp [ih]
  | swap x y l => simp; omega
  | trans _ _ h1 h2 => exact h1.trans h2
theorem le_sum {l : List Nat} {x : Nat} (h : x ∈ l) : x ≤ l.sum := by
  induction l with
  | nil => cases h
  | cons y l ih =>
    rw [List.sum_cons]
    rcases List.mem_cons.1 h with rfl | h
    · omega
    · have := ih h; omega
theorem TI.two {T : List Tg} {n : Nat} (h : TI T n) (h2 : 2 ≤ T.length) : (fstT T).wt + (sndT T).wt ≤ 268435456 ∧ (fstT T).sy.length + (sndT T).sy.length ≤ 256 ∧ (∀ c ∈ (fstT T).sy ++ (sndT T).sy, c < 256) ∧ 0 < (fstT T).sy.length ∧ 0 < (sndT T).sy.length := by
  obtain ⟨p, _, _⟩ := parts h2
  have a := sum_perm (p.map Tg.wt)
  have b := sum_perm (p.map fun x => x.sy.length)
  simp only [List.map_cons, List.sum_cons] at a b
  have := h.wt
  have := h.sl
  have m1 : fstT T ∈ T := p.subset (by simp)
  have m2 : sndT T ∈ T := p.subset (by simp)
  refine ⟨by omega, by omega, fun c hc => ?_, h.ne _ m1, h.ne _ m2⟩
  rcases List.mem_append.1 hc with hc | hc
  · exact h.sm _ m1 c hc
  · exact h.sm _ m2 c hc
theorem TI.next {T : List Tg} {n : Nat} (h : TI T n) (h2 : 2 ≤ T.length) : TI (Ho.next n T) (n + 1) := by
  obtain ⟨p, _, _⟩ := parts h2
  have a := sum_perm (p.map Tg.wt)
  have b := sum_perm (p.map fun x => x.sy.length)
  simp only [List.map_cons, List.sum_cons] at a b
  have h3 := h.wt
  have h4 := h.sl
  obtain ⟨_, _, hs, g1, g2⟩ := h.two h2
  refine ⟨?_, ?_, ?_, ?_, by rw [next_len n h2]; have := h.ids; omega⟩
  · unfold Ho.next joint
    rw [List.map_append, List.sum_append]
    simp
    omega
  · unfold Ho.next joint
    rw [List.map_append, List.sum_append]
    simp
    omega
  · intro x hx
    unfold Ho.next at hx
    rcases List.mem_append.1 hx with hx | hx
    · exact h.sm x (p.subset (by simp [hx]))
    · obtain rfl := List.mem_singleton.1 hx
      exact hs
  · intro x hx
    unfold Ho.next at hx
    rcases List.mem_append.1 hx with hx | hx
    · exact h.ne x (p.subset (by simp [hx]))
    · obtain rfl := List.mem_singleton.1 hx
      show 0 < (_ ++ _ : List Nat).length
      rw [List.length_append]
      omega
theorem run_step {n : Nat} {T : List Tg} {d : Nat → Nat} (h2 : 2 ≤ T.length) (hn : n < 512) : run (512 - n) n T d = run (512 - (n + 1)) (n + 1) (next n T) (bump d ((fstT T).sy ++ (sndT T).sy)) := by
  rw [show 512 - n = (512 - (n + 1)) + 1 by omega, run, if_neg (by omega)]
theorem run_over {f n : Nat} {T : List Tg} {d : Nat → Nat} (h : T.length ≤ 1) : run f n T d = d := by
  cases f with
  | zero => rfl
  | succ f => rw [run, if_pos h]
/-- Lengths as they stand. -/
def dls (d : Nat → Nat) : List Nat := (List.range 256).map d
theorem length_dls (d : Nat → Nat) : (dls d).length = 256 := by simp [dls]
theorem dls_at (d : Nat → Nat) (c : Nat) (h : c < 256) : (dls d).getD c 0 = d c := by
  unfold dls
  rw [List.getD_eq_getElem?_getD, List.getElem?_map, List.getElem?_range h]
  rfl
theorem dls_set (d e : Nat → Nat) (c : Nat) (h : c < 256) (he : ∀ x, x < 256 → e x = if x = c then e c else d x) : (dls d).set c (e c) = dls e := by
  refine List.ext_getElem? fun j => ?_
  by_cases hj : j < 256
  · rw [List.getElem?_set]
    have e1 : (dls e)[j]? = some (e j) := by unfold dls; rw [List.getElem?_map, List.getElem?_range hj]; rfl
    have e2 : (dls d)[j]? = some (d j) := by unfold dls; rw [List.getElem?_map, List.getElem?_range hj]; rfl
    by_cases k : c = j
    · subst k
      rw [if_pos rfl, if_pos (by rw [length_dls]; exact hj), e1]
    · rw [if_neg k, e2, e1, he j hj, if_neg (fun q => k q.symm)]
  · rw [List.getElem?_eq_none (by rw [List.length_set, length_dls]; omega), List.getElem?_eq_none (by rw [length_dls]; omega)]
theorem dls_zero : dls (fun _ => 0) = List.replicate 256 0 := by
  unfold dls
  rw [List.map_const', List.length_range]
/-- One symbol more. -/
theorem bump_step (d : Nat → Nat) (s : List Nat) (k : Nat) (hk : k < s.length) (hs : s.getD k 0 < 256) : (dls (bump d (s.take k))).set (s.getD k 0) (bump d (s.take k) (s.getD k 0) + 1) = dls (bump d (s.take (k + 1))) := by
  have e : s.take (k + 1) = s.take k ++ [s.getD k 0] := by
    rw [List.take_add_one, List.getD_eq_getElem?_getD, List.getElem?_eq_getElem hk]
    rfl
  have e2 : bump d (s.take (k + 1)) (s.getD k 0) = bump d (s.take k) (s.getD k 0) + 1 := by
    unfold bump
    rw [e, List.count_append, List.count_singleton_self]
    omega
  rw [← e2]
  refine dls_set _ _ _ hs fun x _ => ?_
  by_cases k1 : x = s.getD k 0
  · rw [if_pos k1, k1]
  · rw [if_neg k1]
    unfold bump
    rw [e, List.count_append, List.count_cons_of_ne (fun q => k1 q.symm), List.count_nil, Nat.add_zero]
theorem bump_nil (d : Nat → Nat) : bump d [] = d := by funext c; unfold bump; simp
theorem bump_le (d : Nat → Nat) (s : List Nat) (c : Nat) : bump d s c ≤ d c + s.length := by
  unfold bump
  have := List.count_le_length (a := c) (l := s)
  omega
/-- What stands in memory. -/
structure LI (w wr : World) (go : Nat) (v : Value) (L : List TB) (d : Nat → Nat) : Prop where
  row : wr.ownsRow (go + 1) 104 3 v L.length (tbs L)
  out : Cel wr go (ivh (dls d)) 3
  sy : ∀ x ∈ L, wr.ownsRow (go + 1) 3 1 (.slice (some ⟨x.g, 0, none⟩) x.t.sy.length x.cap) x.t.sy.length (ivh x.t.sy)
  lt : w.heap.size ≤ go
  bw : Below w.heap.size w wr
theorem LI.keep {w wr wx : World} {go : Nat} {v : Value} {L : List TB} {d : Nat → Nat} (h : LI w wr go v L d) (hb : Below wr.heap.size wr wx) : LI w wx go v L d :=
  ⟨owns_keep h.row hb, h.out.kept hb, fun x hx => owns_keep (h.sy x hx) hb, h.lt, h.bw.trans (hb.mono h.bw.size)⟩
theorem owns_slice {w : World} {base e size n : Nat} {v : Value} {vs : List Value} (h : w.ownsRow base e size v n vs) (h0 : 0 < n) : ∃ g cap, v = .slice (some ⟨g, 0, none⟩) n cap := by
  obtain ⟨h1, ⟨rfl, rfl⟩ | ⟨g, cap, cur, rfl, _⟩⟩ := h
  · omega
  · exact ⟨g, cap, rfl⟩
/-- A thing more. -/
theorem LI.more {w wr w1 w2 : World} {go : Nat} {v v2 : Value} {L : List TB} {d : Nat → Nat} (h : LI w wr go v L d) (x : TB) (hb : Below wr.heap.size wr w1)
    (hx : w1.ownsRow (go + 1) 3 1 (.slice (some ⟨x.g, 0, none⟩) x.t.sy.length x.cap) x.t.sy.length (ivh x.t.sy))
    (ho : w2.ownsRow (go + 1) 104 3 v2 (L.length + 1) (tbs L ++ tbc x)) (hk : ∀ k, k < w1.heap.size → v.ownBlock ≠ some k → w2.heap[k]? = w1.heap[k]?) (hb2 : Below (go + 1) w1 w2) : LI w w2 go v2 (L ++ [x]) d := by
  have r := owns_keep h.row hb
  have e : tbs (L ++ [x]) = tbs L ++ tbc x := by rw [tbs_append]; unfold tbs; simp
  refine ⟨by rw [e, List.length_append]; exact ho, (h.out.kept hb).keep hb2 (by omega), fun y hy => ?_, h.lt, (h.bw.trans (hb.mono h.bw.size)).trans (hb2.mono (by have := h.lt; omega))⟩
  rcases List.mem_append.1 hy with hy | hy
  · exact owns_grow (owns_keep (h.sy y hy) hb) r (by decide) hk
  · obtain rfl := List.mem_singleton.1 hy
    exact owns_grow hx r (by decide) hk
end Go.Proofs.Ytckkhmmicbpihaa
