/-
  The contract of read.
-/
import Derived.Test.YtadfnllfeoidhaaDoorKr
import Derived.Test.YtadfnllfeoidhaaDoorKy
import Derived.Test.YtadfnllfeoidhaaDoorCi
namespace Go.Proofs.YtadfnllfeoidhaaDoor
open Go.RowKit
set_option linter.unusedVariables false
set_option linter.unusedSimpArgs false
set_option maxRecDepth 100000

theorem step_store {ops : Array Oper} {d : Option Tmp} {ty T : TypeId} {ps : String} {af : Array Edge} {a : Act} {w : World} {K : Act → World → Prop} {Q : Exit → Act → World → Prop} {E : Prop} {x y : Operand}
    (g : Nat) (old cs : List Value) (hx : a.eval x = .pointer (some ⟨g, 0, none⟩)) (hy : a.eval y = .agg cs.toArray) (hc : Cel w g old T) (lo : old.length = cs.length) (hi : (Tryd.prog.info? T).map (·.size) = some cs.length) (h1 : cs.toArray.all (·.oneCell') = true)
    (h : ∀ w1, Cel w1 g cs T → Only g w w1 → K (a.put d undef) w1) :
    if Region.wanted (⟨d, .store T x y, ty, ps, af, none⟩ : Oper) (yielded ops a.tmps) = true then Oper.wp Tryd.prog (⟨d, .store T x y, ty, ps, af, none⟩ : Oper) a w K Q else E := by
  rw [if_pos (by simp [Region.wanted])]
  exact wp_store_row _ x y rfl g cs.toArray hx hy _ _ hc (by simpa using hi) (by simpa using lo) h1 (h _ (setRow_heap w g _ _ _ _ hc) (Only.row g w _))
namespace Rs
/-- What the words of a name tell. -/
def rdL : List ByteArray → Co.Zf
  | [a, b, c] => ((Mp.look Mp.shL a : Nat), 0, 0, (Mp.look Mp.kdL b : Nat), (num c : Nat))
  | [a, b, c, d, e] => ((Mp.look Mp.shL a : Nat), (Mp.look Mp.shL b : Nat), (num c : Nat), (Mp.look Mp.kdL d : Nat), (num e : Nat))
  | _ => (0, 0, 0, 0, 0)
end Rs
theorem WS.open {w : World} {B n : Nat} {v : Value} {l : List ByteArray} (h : WS w B v l) (hn : l.length = n + 1) : ∃ g cap, v = .slice (some ⟨g, 0, none⟩) (n + 1) cap ∧ n + 1 ≤ cap ∧ g < w.heap.size ∧ ∀ j x, l[j]? = some x → w.cell? ⟨g, j, none⟩ = some (.string x) := by
  unfold WS at h
  rw [hn] at h
  obtain ⟨h1, ⟨_, h2⟩ | ⟨g, cap, cur, rfl, e2, hh, r⟩⟩ := id h
  · exact absurd h2 (by omega)
  · exact ⟨g, cap, rfl, r.1, (Ag.owns_cells h).1, fun j x hx => (Ag.owns_cells h).2 j _ (by rw [List.getElem?_map, hx]; rfl)⟩
set_option maxHeartbeats 8000000 in
theorem kread_3 (x0 x1 x2 : ByteArray) (B : Nat) (v : Value) (w : World) (h : WS w B v [x0, x1, x2]) :
    Calls Tryd.prog 25 #[v] w fun e w' => e = .returned (.agg (Co.cv (Rs.rdL [x0, x1, x2])).toArray) ∧ Below w.heap.size w w' := by
  obtain ⟨g, cap, rfl, hcap, hg, hc⟩ := h.open (n := 2) rfl
  have k0 := hc 0 _ rfl
  have k1 := hc 1 _ rfl
  have k2 := hc 2 _ rfl
  have KS := hide kshapes_c
  have KK := hide kkinds_c
  have KU2 := hide (fun w0 => knum_c x2 w0)
  obtain ⟨W, hW⟩ : ∃ W, W = w.alloc (.cells #[.int .i64 0, .int .i64 0, .int .i64 0, .int .i64 0, .int .i64 0] 23) := ⟨_, rfl⟩
  have HB0 : Hid (Below w.heap.size w W) := by rw [hW]; exact below_alloc w _
  have HC : Hid (Cel W w.heap.size [.int .i64 0, .int .i64 0, .int .i64 0, .int .i64 0, .int .i64 0] 23) := by rw [hW]; exact Cel.new w _ _
  have HW := hide hW
  clear hW
  obtain ⟨gr, hgr0⟩ : ∃ gr, Hid (gr = w.heap.size) := ⟨_, rfl⟩
  rw [← hgr0.out] at HC
  have hgr : Hid (w.heap.size ≤ gr) := by rw [hgr0.out]; exact Nat.le_refl _
  have hgg : Hid (g ≠ gr) := by have := hgr0.out; show g ≠ gr; omega
  have HS0 : Hid ((fun w' => (∃ cs : List Value, cs.length = 5 ∧ Cel w' gr cs 23) ∧ (w'.cell? ⟨g, 0, none⟩ = some (.string x0) ∧ w'.cell? ⟨g, 1, none⟩ = some (.string x1) ∧ w'.cell? ⟨g, 2, none⟩ = some (.string x2)) ∧ Below w.heap.size w w') W) := ⟨⟨_, rfl, HC.out⟩, ⟨(HB0.out.cell (p := ⟨g, 0, none⟩) hg).trans k0, (HB0.out.cell (p := ⟨g, 1, none⟩) hg).trans k1, (HB0.out.cell (p := ⟨g, 2, none⟩) hg).trans k2⟩, HB0.out⟩
  clear HC hc k0 k1 k2
  go_enter Tryd.func25, Tryd.ntmps25
  go_wp2
  rw [← HW.out, ← hgr0.out]
  refine region_g [] (fun w' => (∃ cs : List Value, cs.length = 5 ∧ Cel w' gr cs 23) ∧ (w'.cell? ⟨g, 0, none⟩ = some (.string x0) ∧ w'.cell? ⟨g, 1, none⟩ = some (.string x1) ∧ w'.cell? ⟨g, 2, none⟩ = some (.string x2)) ∧ Below w.heap.size w w') (by kernel_rfl) ?_
  have hS : (fun w' => (∃ cs : List Value, cs.length = 5 ∧ Cel w' gr cs 23) ∧ (w'.cell? ⟨g, 0, none⟩ = some (.string x0) ∧ w'.cell? ⟨g, 1, none⟩ = some (.string x1) ∧ w'.cell? ⟨g, 2, none⟩ = some (.string x2)) ∧ Below w.heap.size w w') W.drew := ⟨HS0.out.1, HS0.out.2.1, HS0.out.2.2.drew⟩
  generalize W.drew = V at *
  refine AnyG.take 1 (v := ?vv1) rfl (by kernel_rfl) (by kernel_rfl) (by kernel_rfl) (by kernel_rfl) (fun _ _ _ h => h) hS ?hy1 (by rfl) ?rest1
  case hy1 =>
    intro w0 h0
    go_simp
    try with_reducible rfl
  simp only [Act.put, List.getElem_toArray, List.getElem_cons_zero, List.getElem_cons_succ, List.setIfInBounds_toArray, List.set_cons_zero, List.set_cons_succ]
  refine AnyG.take 2 (v := ?vv2) rfl (by kernel_rfl) (by kernel_rfl) (by kernel_rfl) (by kernel_rfl) (fun _ _ _ h => h) hS ?hy2 (by rfl) ?rest2
  case hy2 =>
    intro w0 h0
    go_simp
    try with_reducible rfl
  simp only [Act.put, List.getElem_toArray, List.getElem_cons_zero, List.getElem_cons_succ, List.setIfInBounds_toArray, List.set_cons_zero, List.set_cons_succ]
  refine AnyG.take 3 (v := ?vv3) rfl (by kernel_rfl) (by kernel_rfl) (by kernel_rfl) (by kernel_rfl) (fun _ _ _ h => h) hS ?hy3 (by rfl) ?rest3
  case hy3 =>
    intro w0 h0
    have q := (h0).2.1.1
    go_simp
    try with_reducible rfl
  simp only [Act.put, List.getElem_toArray, List.getElem_cons_zero, List.getElem_cons_succ, List.setIfInBounds_toArray, List.set_cons_zero, List.set_cons_succ]
  refine AnyG.take 6 (v := ?vv4) rfl (by kernel_rfl) (by kernel_rfl) (by kernel_rfl) (by kernel_rfl) (fun _ _ _ h => h) hS ?hy4 (by rfl) ?rest4
  case hy4 =>
    intro w0 h0
    go_simp
    try with_reducible rfl
  simp only [Act.put, List.getElem_toArray, List.getElem_cons_zero, List.getElem_cons_succ, List.setIfInBounds_toArray, List.set_cons_zero, List.set_cons_succ]
  refine AnyG.take 7 (v := ?vv5) rfl (by kernel_rfl) (by kernel_rfl) (by kernel_rfl) (by kernel_rfl) (fun _ _ _ h => h) hS ?hy5 (by rfl) ?rest5
  case hy5 =>
    intro w0 h0
    go_simp
    try with_reducible rfl
  simp only [Act.put, List.getElem_toArray, List.getElem_cons_zero, List.getElem_cons_succ, List.setIfInBounds_toArray, List.set_cons_zero, List.set_cons_succ]
  refine AnyG.take 8 (v := ?vv6) rfl (by kernel_rfl) (by kernel_rfl) (by kernel_rfl) (by kernel_rfl) (fun _ _ _ h => h) hS ?hy6 (by rfl) ?rest6
  case hy6 =>
    intro w0 h0
    have q := (h0).2.1.2.1
    go_simp
    try with_reducible rfl
  simp only [Act.put, List.getElem_toArray, List.getElem_cons_zero, List.getElem_cons_succ, List.setIfInBounds_toArray, List.set_cons_zero, List.set_cons_succ]
  refine AnyG.take 10 (v := ?vv7) rfl (by kernel_rfl) (by kernel_rfl) (by kernel_rfl) (by kernel_rfl) (fun _ _ _ h => h) hS ?hy7 (by rfl) ?rest7
  case hy7 =>
    intro w0 h0
    go_simp
    try with_reducible rfl
  simp only [Act.put, List.getElem_toArray, List.getElem_cons_zero, List.getElem_cons_succ, List.setIfInBounds_toArray, List.set_cons_zero, List.set_cons_succ]
  refine AnyG.take 11 (v := ?vv8) rfl (by kernel_rfl) (by kernel_rfl) (by kernel_rfl) (by kernel_rfl) (fun _ _ _ h => h) hS ?hy8 (by rfl) ?rest8
  case hy8 =>
    intro w0 h0
    go_simp
    try with_reducible rfl
  simp only [Act.put, List.getElem_toArray, List.getElem_cons_zero, List.getElem_cons_succ, List.setIfInBounds_toArray, List.set_cons_zero, List.set_cons_succ]
  refine AnyG.take 12 (v := ?vv9) rfl (by kernel_rfl) (by kernel_rfl) (by kernel_rfl) (by kernel_rfl) (fun _ _ _ h => h) hS ?hy9 (by rfl) ?rest9
  case hy9 =>
    intro w0 h0
    have q := (h0).2.1.2.2
    go_simp
    try with_reducible rfl
  simp only [Act.put, List.getElem_toArray, List.getElem_cons_zero, List.getElem_cons_succ, List.setIfInBounds_toArray, List.set_cons_zero, List.set_cons_succ]
  refine AnyG.one 0 (by kernel_rfl) rfl ?_
  intro K hK
  go_simp
  refine (KS.out _).mono ?_
  rintro e v1 ⟨g1, rfl, hI1, hg1, hb⟩
  have hT1 : (fun w' => (∃ cs : List Value, cs.length = 5 ∧ Cel w' gr cs 23) ∧ (w'.cell? ⟨g, 0, none⟩ = some (.string x0) ∧ w'.cell? ⟨g, 1, none⟩ = some (.string x1) ∧ w'.cell? ⟨g, 2, none⟩ = some (.string x2)) ∧ Below w.heap.size w w') v1 := ⟨(by obtain ⟨cs, q1, q2⟩ := (hS).1; exact ⟨cs, q1, q2.kept hb⟩), ⟨(hb.cell (p := ⟨g, 0, none⟩) (cell_lt (hS).2.1.1).1).trans (hS).2.1.1, (hb.cell (p := ⟨g, 1, none⟩) (cell_lt (hS).2.1.2.1).1).trans (hS).2.1.2.1, (hb.cell (p := ⟨g, 2, none⟩) (cell_lt (hS).2.1.2.2).1).trans (hS).2.1.2.2⟩, (hS).2.2.trans (hb.mono (hS).2.2.size)⟩
  have HG0 : Hid (g1 ≠ gr) := fun q => by obtain ⟨cs, q1, q2⟩ := (hS).1; have := q2.lt; omega
  clear hb hg1 hS
  refine hK.out _ _ (fun _ => hT1) ?_
  clear hK K
  try simp only [Act.put, List.getElem_toArray, List.getElem_cons_zero, List.getElem_cons_succ, List.setIfInBounds_toArray, List.set_cons_zero, List.set_cons_succ]
  refine AnyG.more (E := (fun w' => Mp.Is w' g1 Mp.shL)) _ _ _ _ hT1 hI1 ?_
  have hS1 := And.intro hT1 hI1
  clear hT1 hI1
  skip
  refine AnyG.take 4 (v := ?vv10) rfl (by kernel_rfl) (by kernel_rfl) (by kernel_rfl) (by kernel_rfl) (fun _ _ _ h => h) hS1 ?hy10 (by rfl) ?rest10
  case hy10 =>
    intro w0 h0
    have q := Mp.run_look (h0.2) x0
    go_simp
    try with_reducible rfl
  simp only [Act.put, List.getElem_toArray, List.getElem_cons_zero, List.getElem_cons_succ, List.setIfInBounds_toArray, List.set_cons_zero, List.set_cons_succ]
  refine AnyG.one 5 (by kernel_rfl) rfl ?_
  intro K hK
  go_simp
  refine (KK.out _).mono ?_
  rintro e v2 ⟨g2, rfl, hI2, hg2, hb⟩
  have hT2 : (fun w' => (fun w' => (∃ cs : List Value, cs.length = 5 ∧ Cel w' gr cs 23) ∧ (w'.cell? ⟨g, 0, none⟩ = some (.string x0) ∧ w'.cell? ⟨g, 1, none⟩ = some (.string x1) ∧ w'.cell? ⟨g, 2, none⟩ = some (.string x2)) ∧ Below w.heap.size w w') w' ∧ (fun w' => Mp.Is w' g1 Mp.shL) w') v2 := ⟨⟨(by obtain ⟨cs, q1, q2⟩ := (hS1.1).1; exact ⟨cs, q1, q2.kept hb⟩), ⟨(hb.cell (p := ⟨g, 0, none⟩) (cell_lt (hS1.1).2.1.1).1).trans (hS1.1).2.1.1, (hb.cell (p := ⟨g, 1, none⟩) (cell_lt (hS1.1).2.1.2.1).1).trans (hS1.1).2.1.2.1, (hb.cell (p := ⟨g, 2, none⟩) (cell_lt (hS1.1).2.1.2.2).1).trans (hS1.1).2.1.2.2⟩, (hS1.1).2.2.trans (hb.mono (hS1.1).2.2.size)⟩, (hS1.2).keep hb⟩
  have HG1 : Hid (g2 ≠ gr) := fun q => by obtain ⟨cs, q1, q2⟩ := (hS1.1).1; have := q2.lt; omega
  clear hb hg2 hS1
  refine hK.out _ _ (fun _ => hT2) ?_
  clear hK K
  try simp only [Act.put, List.getElem_toArray, List.getElem_cons_zero, List.getElem_cons_succ, List.setIfInBounds_toArray, List.set_cons_zero, List.set_cons_succ]
  refine AnyG.more (E := (fun w' => Mp.Is w' g2 Mp.kdL)) _ _ _ _ hT2 hI2 ?_
  have hS2 := And.intro hT2 hI2
  clear hT2 hI2
  skip
  refine AnyG.take 9 (v := ?vv11) rfl (by kernel_rfl) (by kernel_rfl) (by kernel_rfl) (by kernel_rfl) (fun _ _ _ h => h) hS2 ?hy11 (by rfl) ?rest11
  case hy11 =>
    intro w0 h0
    have q := Mp.run_look (h0.2) x1
    go_simp
    try with_reducible rfl
  simp only [Act.put, List.getElem_toArray, List.getElem_cons_zero, List.getElem_cons_succ, List.setIfInBounds_toArray, List.set_cons_zero, List.set_cons_succ]
  refine AnyG.one 13 (by kernel_rfl) rfl ?_
  intro K hK
  go_simp
  refine (KU2.out _).mono ?_
  rintro e v3 ⟨rfl, hb⟩
  have hS3 : (fun w' => (fun w' => (fun w' => (∃ cs : List Value, cs.length = 5 ∧ Cel w' gr cs 23) ∧ (w'.cell? ⟨g, 0, none⟩ = some (.string x0) ∧ w'.cell? ⟨g, 1, none⟩ = some (.string x1) ∧ w'.cell? ⟨g, 2, none⟩ = some (.string x2)) ∧ Below w.heap.size w w') w' ∧ (fun w' => Mp.Is w' g1 Mp.shL) w') w' ∧ (fun w' => Mp.Is w' g2 Mp.kdL) w') v3 := ⟨⟨⟨(by obtain ⟨cs, q1, q2⟩ := (hS2.1.1).1; exact ⟨cs, q1, q2.kept hb⟩), ⟨(hb.cell (p := ⟨g, 0, none⟩) (cell_lt (hS2.1.1).2.1.1).1).trans (hS2.1.1).2.1.1, (hb.cell (p := ⟨g, 1, none⟩) (cell_lt (hS2.1.1).2.1.2.1).1).trans (hS2.1.1).2.1.2.1, (hb.cell (p := ⟨g, 2, none⟩) (cell_lt (hS2.1.1).2.1.2.2).1).trans (hS2.1.1).2.1.2.2⟩, (hS2.1.1).2.2.trans (hb.mono (hS2.1.1).2.2.size)⟩, (hS2.1.2).keep hb⟩, (hS2.2).keep hb⟩
  clear hb hS2
  refine hK.out _ _ (fun _ => hS3) ?_
  clear hK K
  try simp only [Act.put, List.getElem_toArray, List.getElem_cons_zero, List.getElem_cons_succ, List.setIfInBounds_toArray, List.set_cons_zero, List.set_cons_succ]
  refine AnyG.take 14 (v := ?vv12) rfl (by kernel_rfl) (by kernel_rfl) (by kernel_rfl) (by kernel_rfl) (fun _ _ _ h => h) hS3 ?hy12 (by rfl) ?rest12
  case hy12 =>
    intro w0 h0
    go_simp
    try with_reducible rfl
  simp only [Act.put, List.getElem_toArray, List.getElem_cons_zero, List.getElem_cons_succ, List.setIfInBounds_toArray, List.set_cons_zero, List.set_cons_succ]
  refine AnyG.one 15 (by kernel_rfl) rfl ?_
  intro K hK
  obtain ⟨cs, q1, q2⟩ := (hS3.1.1).1
  refine step_store gr cs [.int .i64 (Mp.look Mp.shL x0 : Nat), .int .i64 0, .int .i64 0, .int .i64 (Mp.look Mp.kdL x1 : Nat), .int .i64 (Rs.num x2 : Nat)] (by rfl) (by rfl) q2 (by rw [q1]; rfl) info_cfg (one5 _ _ _ _ _) ?_
  intro w9 hc9 ho9
  have hS9 : (fun w' => (fun w' => (fun w' => (∃ cs : List Value, cs.length = 5 ∧ Cel w' gr cs 23) ∧ (w'.cell? ⟨g, 0, none⟩ = some (.string x0) ∧ w'.cell? ⟨g, 1, none⟩ = some (.string x1) ∧ w'.cell? ⟨g, 2, none⟩ = some (.string x2)) ∧ Below w.heap.size w w') w' ∧ (fun w' => Mp.Is w' g1 Mp.shL) w') w' ∧ (fun w' => Mp.Is w' g2 Mp.kdL) w') w9 := ⟨⟨⟨⟨[.int .i64 (Mp.look Mp.shL x0 : Nat), .int .i64 0, .int .i64 0, .int .i64 (Mp.look Mp.kdL x1 : Nat), .int .i64 (Rs.num x2 : Nat)], rfl, hc9⟩, ⟨(ho9.cell (p := ⟨g, 0, none⟩) hgg.out).trans (hS3.1.1).2.1.1, (ho9.cell (p := ⟨g, 1, none⟩) hgg.out).trans (hS3.1.1).2.1.2.1, (ho9.cell (p := ⟨g, 2, none⟩) hgg.out).trans (hS3.1.1).2.1.2.2⟩, (hS3.1.1).2.2.trans (ho9.below hgr.out)⟩, (ho9.block _ (HG0.out)).trans (hS3.1.2)⟩, (ho9.block _ (HG1.out)).trans (hS3.2)⟩
  have HB9 : Hid (Below w.heap.size w w9) := (hS9.1.1).2.2
  refine hK.out _ _ (fun _ => hS9) ?_
  clear hK K
  try simp only [Act.put, List.getElem_toArray, List.getElem_cons_zero, List.getElem_cons_succ, List.setIfInBounds_toArray, List.set_cons_zero, List.set_cons_succ]
  refine AnyG.done (by kernel_rfl) ?_ _
  go_wp2
  have hc10 := hc9
  refine bodyPost_ret (result_cel1 rfl gr [.int .i64 (Mp.look Mp.shL x0 : Nat), .int .i64 0, .int .i64 0, .int .i64 (Mp.look Mp.kdL x1 : Nat), .int .i64 (Rs.num x2 : Nat)] rfl hc9 Tryd.underlying23 info_cfg) rfl ?_
  exact ⟨rfl, HB9.out⟩
set_option maxHeartbeats 8000000 in
theorem kread_5 (x0 x1 x2 x3 x4 : ByteArray) (B : Nat) (v : Value) (w : World) (h : WS w B v [x0, x1, x2, x3, x4]) :
    Calls Tryd.prog 25 #[v] w fun e w' => e = .returned (.agg (Co.cv (Rs.rdL [x0, x1, x2, x3, x4])).toArray) ∧ Below w.heap.size w w' := by
  obtain ⟨g, cap, rfl, hcap, hg, hc⟩ := h.open (n := 4) rfl
  have k0 := hc 0 _ rfl
  have k1 := hc 1 _ rfl
  have k2 := hc 2 _ rfl
  have k3 := hc 3 _ rfl
  have k4 := hc 4 _ rfl
  have KS := hide kshapes_c
  have KK := hide kkinds_c
  have KU2 := hide (fun w0 => knum_c x2 w0)
  have KU4 := hide (fun w0 => knum_c x4 w0)
  obtain ⟨W, hW⟩ : ∃ W, W = w.alloc (.cells #[.int .i64 0, .int .i64 0, .int .i64 0, .int .i64 0, .int .i64 0] 23) := ⟨_, rfl⟩
  have HB0 : Hid (Below w.heap.size w W) := by rw [hW]; exact below_alloc w _
  have HC : Hid (Cel W w.heap.size [.int .i64 0, .int .i64 0, .int .i64 0, .int .i64 0, .int .i64 0] 23) := by rw [hW]; exact Cel.new w _ _
  have HW := hide hW
  clear hW
  obtain ⟨gr, hgr0⟩ : ∃ gr, Hid (gr = w.heap.size) := ⟨_, rfl⟩
  rw [← hgr0.out] at HC
  have hgr : Hid (w.heap.size ≤ gr) := by rw [hgr0.out]; exact Nat.le_refl _
  have hgg : Hid (g ≠ gr) := by have := hgr0.out; show g ≠ gr; omega
  have HS0 : Hid ((fun w' => (∃ cs : List Value, cs.length = 5 ∧ Cel w' gr cs 23) ∧ (w'.cell? ⟨g, 0, none⟩ = some (.string x0) ∧ w'.cell? ⟨g, 1, none⟩ = some (.string x1) ∧ w'.cell? ⟨g, 2, none⟩ = some (.string x2) ∧ w'.cell? ⟨g, 3, none⟩ = some (.string x3) ∧ w'.cell? ⟨g, 4, none⟩ = some (.string x4)) ∧ Below w.heap.size w w') W) := ⟨⟨_, rfl, HC.out⟩, ⟨(HB0.out.cell (p := ⟨g, 0, none⟩) hg).trans k0, (HB0.out.cell (p := ⟨g, 1, none⟩) hg).trans k1, (HB0.out.cell (p := ⟨g, 2, none⟩) hg).trans k2, (HB0.out.cell (p := ⟨g, 3, none⟩) hg).trans k3, (HB0.out.cell (p := ⟨g, 4, none⟩) hg).trans k4⟩, HB0.out⟩
  clear HC hc k0 k1 k2 k3 k4
  go_enter Tryd.func25, Tryd.ntmps25
  go_wp2
  rw [← HW.out, ← hgr0.out]
  refine region_g [] (fun w' => (∃ cs : List Value, cs.length = 5 ∧ Cel w' gr cs 23) ∧ (w'.cell? ⟨g, 0, none⟩ = some (.string x0) ∧ w'.cell? ⟨g, 1, none⟩ = some (.string x1) ∧ w'.cell? ⟨g, 2, none⟩ = some (.string x2) ∧ w'.cell? ⟨g, 3, none⟩ = some (.string x3) ∧ w'.cell? ⟨g, 4, none⟩ = some (.string x4)) ∧ Below w.heap.size w w') (by kernel_rfl) ?_
  have hS : (fun w' => (∃ cs : List Value, cs.length = 5 ∧ Cel w' gr cs 23) ∧ (w'.cell? ⟨g, 0, none⟩ = some (.string x0) ∧ w'.cell? ⟨g, 1, none⟩ = some (.string x1) ∧ w'.cell? ⟨g, 2, none⟩ = some (.string x2) ∧ w'.cell? ⟨g, 3, none⟩ = some (.string x3) ∧ w'.cell? ⟨g, 4, none⟩ = some (.string x4)) ∧ Below w.heap.size w w') W.drew := ⟨HS0.out.1, HS0.out.2.1, HS0.out.2.2.drew⟩
  generalize W.drew = V at *
  refine AnyG.take 1 (v := ?vv13) rfl (by kernel_rfl) (by kernel_rfl) (by kernel_rfl) (by kernel_rfl) (fun _ _ _ h => h) hS ?hy13 (by rfl) ?rest13
  case hy13 =>
    intro w0 h0
    go_simp
    try with_reducible rfl
  simp only [Act.put, List.getElem_toArray, List.getElem_cons_zero, List.getElem_cons_succ, List.setIfInBounds_toArray, List.set_cons_zero, List.set_cons_succ]
  refine AnyG.take 2 (v := ?vv14) rfl (by kernel_rfl) (by kernel_rfl) (by kernel_rfl) (by kernel_rfl) (fun _ _ _ h => h) hS ?hy14 (by rfl) ?rest14
  case hy14 =>
    intro w0 h0
    go_simp
    try with_reducible rfl
  simp only [Act.put, List.getElem_toArray, List.getElem_cons_zero, List.getElem_cons_succ, List.setIfInBounds_toArray, List.set_cons_zero, List.set_cons_succ]
  refine AnyG.take 3 (v := ?vv15) rfl (by kernel_rfl) (by kernel_rfl) (by kernel_rfl) (by kernel_rfl) (fun _ _ _ h => h) hS ?hy15 (by rfl) ?rest15
  case hy15 =>
    intro w0 h0
    have q := (h0).2.1.1
    go_simp
    try with_reducible rfl
  simp only [Act.put, List.getElem_toArray, List.getElem_cons_zero, List.getElem_cons_succ, List.setIfInBounds_toArray, List.set_cons_zero, List.set_cons_succ]
  refine AnyG.take 6 (v := ?vv16) rfl (by kernel_rfl) (by kernel_rfl) (by kernel_rfl) (by kernel_rfl) (fun _ _ _ h => h) hS ?hy16 (by rfl) ?rest16
  case hy16 =>
    intro w0 h0
    go_simp
    try with_reducible rfl
  simp only [Act.put, List.getElem_toArray, List.getElem_cons_zero, List.getElem_cons_succ, List.setIfInBounds_toArray, List.set_cons_zero, List.set_cons_succ]
  refine AnyG.take 7 (v := ?vv17) rfl (by kernel_rfl) (by kernel_rfl) (by kernel_rfl) (by kernel_rfl) (fun _ _ _ h => h) hS ?hy17 (by rfl) ?rest17
  case hy17 =>
    intro w0 h0
    go_simp
    try with_reducible rfl
  simp only [Act.put, List.getElem_toArray, List.getElem_cons_zero, List.getElem_cons_succ, List.setIfInBounds_toArray, List.set_cons_zero, List.set_cons_succ]
  refine AnyG.take 8 (v := ?vv18) rfl (by kernel_rfl) (by kernel_rfl) (by kernel_rfl) (by kernel_rfl) (fun _ _ _ h => h) hS ?hy18 (by rfl) ?rest18
  case hy18 =>
    intro w0 h0
    have q := (h0).2.1.2.1
    go_simp
    try with_reducible rfl
  simp only [Act.put, List.getElem_toArray, List.getElem_cons_zero, List.getElem_cons_succ, List.setIfInBounds_toArray, List.set_cons_zero, List.set_cons_succ]
  refine AnyG.take 10 (v := ?vv19) rfl (by kernel_rfl) (by kernel_rfl) (by kernel_rfl) (by kernel_rfl) (fun _ _ _ h => h) hS ?hy19 (by rfl) ?rest19
  case hy19 =>
    intro w0 h0
    go_simp
    try with_reducible rfl
  simp only [Act.put, List.getElem_toArray, List.getElem_cons_zero, List.getElem_cons_succ, List.setIfInBounds_toArray, List.set_cons_zero, List.set_cons_succ]
  refine AnyG.take 11 (v := ?vv20) rfl (by kernel_rfl) (by kernel_rfl) (by kernel_rfl) (by kernel_rfl) (fun _ _ _ h => h) hS ?hy20 (by rfl) ?rest20
  case hy20 =>
    intro w0 h0
    go_simp
    try with_reducible rfl
  simp only [Act.put, List.getElem_toArray, List.getElem_cons_zero, List.getElem_cons_succ, List.setIfInBounds_toArray, List.set_cons_zero, List.set_cons_succ]
  refine AnyG.take 12 (v := ?vv21) rfl (by kernel_rfl) (by kernel_rfl) (by kernel_rfl) (by kernel_rfl) (fun _ _ _ h => h) hS ?hy21 (by rfl) ?rest21
  case hy21 =>
    intro w0 h0
    have q := (h0).2.1.2.2.1
    go_simp
    try with_reducible rfl
  simp only [Act.put, List.getElem_toArray, List.getElem_cons_zero, List.getElem_cons_succ, List.setIfInBounds_toArray, List.set_cons_zero, List.set_cons_succ]
  refine AnyG.take 15 (v := ?vv22) rfl (by kernel_rfl) (by kernel_rfl) (by kernel_rfl) (by kernel_rfl) (fun _ _ _ h => h) hS ?hy22 (by rfl) ?rest22
  case hy22 =>
    intro w0 h0
    go_simp
    try with_reducible rfl
  simp only [Act.put, List.getElem_toArray, List.getElem_cons_zero, List.getElem_cons_succ, List.setIfInBounds_toArray, List.set_cons_zero, List.set_cons_succ]
  refine AnyG.take 16 (v := ?vv23) rfl (by kernel_rfl) (by kernel_rfl) (by kernel_rfl) (by kernel_rfl) (fun _ _ _ h => h) hS ?hy23 (by rfl) ?rest23
  case hy23 =>
    intro w0 h0
    go_simp
    try with_reducible rfl
  simp only [Act.put, List.getElem_toArray, List.getElem_cons_zero, List.getElem_cons_succ, List.setIfInBounds_toArray, List.set_cons_zero, List.set_cons_succ]
  refine AnyG.take 17 (v := ?vv24) rfl (by kernel_rfl) (by kernel_rfl) (by kernel_rfl) (by kernel_rfl) (fun _ _ _ h => h) hS ?hy24 (by rfl) ?rest24
  case hy24 =>
    intro w0 h0
    have q := (h0).2.1.2.2.2.1
    go_simp
    try with_reducible rfl
  simp only [Act.put, List.getElem_toArray, List.getElem_cons_zero, List.getElem_cons_succ, List.setIfInBounds_toArray, List.set_cons_zero, List.set_cons_succ]
  refine AnyG.take 19 (v := ?vv25) rfl (by kernel_rfl) (by kernel_rfl) (by kernel_rfl) (by kernel_rfl) (fun _ _ _ h => h) hS ?hy25 (by rfl) ?rest25
  case hy25 =>
    intro w0 h0
    go_simp
    try with_reducible rfl
  simp only [Act.put, List.getElem_toArray, List.getElem_cons_zero, List.getElem_cons_succ, List.setIfInBounds_toArray, List.set_cons_zero, List.set_cons_succ]
  refine AnyG.take 20 (v := ?vv26) rfl (by kernel_rfl) (by kernel_rfl) (by kernel_rfl) (by kernel_rfl) (fun _ _ _ h => h) hS ?hy26 (by rfl) ?rest26
  case hy26 =>
    intro w0 h0
    go_simp
    try with_reducible rfl
  simp only [Act.put, List.getElem_toArray, List.getElem_cons_zero, List.getElem_cons_succ, List.setIfInBounds_toArray, List.set_cons_zero, List.set_cons_succ]
  refine AnyG.take 21 (v := ?vv27) rfl (by kernel_rfl) (by kernel_rfl) (by kernel_rfl) (by kernel_rfl) (fun _ _ _ h => h) hS ?hy27 (by rfl) ?rest27
  case hy27 =>
    intro w0 h0
    have q := (h0).2.1.2.2.2.2
    go_simp
    try with_reducible rfl
  simp only [Act.put, List.getElem_toArray, List.getElem_cons_zero, List.getElem_cons_succ, List.setIfInBounds_toArray, List.set_cons_zero, List.set_cons_succ]
  refine AnyG.one 0 (by kernel_rfl) rfl ?_
  intro K hK
  go_simp
  refine (KS.out _).mono ?_
  rintro e v1 ⟨g1, rfl, hI1, hg1, hb⟩
  have hT1 : (fun w' => (∃ cs : List Value, cs.length = 5 ∧ Cel w' gr cs 23) ∧ (w'.cell? ⟨g, 0, none⟩ = some (.string x0) ∧ w'.cell? ⟨g, 1, none⟩ = some (.string x1) ∧ w'.cell? ⟨g, 2, none⟩ = some (.string x2) ∧ w'.cell? ⟨g, 3, none⟩ = some (.string x3) ∧ w'.cell? ⟨g, 4, none⟩ = some (.string x4)) ∧ Below w.heap.size w w') v1 := ⟨(by obtain ⟨cs, q1, q2⟩ := (hS).1; exact ⟨cs, q1, q2.kept hb⟩), ⟨(hb.cell (p := ⟨g, 0, none⟩) (cell_lt (hS).2.1.1).1).trans (hS).2.1.1, (hb.cell (p := ⟨g, 1, none⟩) (cell_lt (hS).2.1.2.1).1).trans (hS).2.1.2.1, (hb.cell (p := ⟨g, 2, none⟩) (cell_lt (hS).2.1.2.2.1).1).trans (hS).2.1.2.2.1, (hb.cell (p := ⟨g, 3, none⟩) (cell_lt (hS).2.1.2.2.2.1).1).trans (hS).2.1.2.2.2.1, (hb.cell (p := ⟨g, 4, none⟩) (cell_lt (hS).2.1.2.2.2.2).1).trans (hS).2.1.2.2.2.2⟩, (hS).2.2.trans (hb.mono (hS).2.2.size)⟩
  have HG0 : Hid (g1 ≠ gr) := fun q => by obtain ⟨cs, q1, q2⟩ := (hS).1; have := q2.lt; omega
  clear hb hg1 hS
  refine hK.out _ _ (fun _ => hT1) ?_
  clear hK K
  try simp only [Act.put, List.getElem_toArray, List.getElem_cons_zero, List.getElem_cons_succ, List.setIfInBounds_toArray, List.set_cons_zero, List.set_cons_succ]
  refine AnyG.more (E := (fun w' => Mp.Is w' g1 Mp.shL)) _ _ _ _ hT1 hI1 ?_
  have hS1 := And.intro hT1 hI1
  clear hT1 hI1
  skip
  refine AnyG.take 4 (v := ?vv28) rfl (by kernel_rfl) (by kernel_rfl) (by kernel_rfl) (by kernel_rfl) (fun _ _ _ h => h) hS1 ?hy28 (by rfl) ?rest28
  case hy28 =>
    intro w0 h0
    have q := Mp.run_look (h0.2) x0
    go_simp
    try with_reducible rfl
  simp only [Act.put, List.getElem_toArray, List.getElem_cons_zero, List.getElem_cons_succ, List.setIfInBounds_toArray, List.set_cons_zero, List.set_cons_succ]
  refine AnyG.one 5 (by kernel_rfl) rfl ?_
  intro K hK
  go_simp
  refine (KS.out _).mono ?_
  rintro e v2 ⟨g2, rfl, hI2, hg2, hb⟩
  have hT2 : (fun w' => (fun w' => (∃ cs : List Value, cs.length = 5 ∧ Cel w' gr cs 23) ∧ (w'.cell? ⟨g, 0, none⟩ = some (.string x0) ∧ w'.cell? ⟨g, 1, none⟩ = some (.string x1) ∧ w'.cell? ⟨g, 2, none⟩ = some (.string x2) ∧ w'.cell? ⟨g, 3, none⟩ = some (.string x3) ∧ w'.cell? ⟨g, 4, none⟩ = some (.string x4)) ∧ Below w.heap.size w w') w' ∧ (fun w' => Mp.Is w' g1 Mp.shL) w') v2 := ⟨⟨(by obtain ⟨cs, q1, q2⟩ := (hS1.1).1; exact ⟨cs, q1, q2.kept hb⟩), ⟨(hb.cell (p := ⟨g, 0, none⟩) (cell_lt (hS1.1).2.1.1).1).trans (hS1.1).2.1.1, (hb.cell (p := ⟨g, 1, none⟩) (cell_lt (hS1.1).2.1.2.1).1).trans (hS1.1).2.1.2.1, (hb.cell (p := ⟨g, 2, none⟩) (cell_lt (hS1.1).2.1.2.2.1).1).trans (hS1.1).2.1.2.2.1, (hb.cell (p := ⟨g, 3, none⟩) (cell_lt (hS1.1).2.1.2.2.2.1).1).trans (hS1.1).2.1.2.2.2.1, (hb.cell (p := ⟨g, 4, none⟩) (cell_lt (hS1.1).2.1.2.2.2.2).1).trans (hS1.1).2.1.2.2.2.2⟩, (hS1.1).2.2.trans (hb.mono (hS1.1).2.2.size)⟩, (hS1.2).keep hb⟩
  have HG1 : Hid (g2 ≠ gr) := fun q => by obtain ⟨cs, q1, q2⟩ := (hS1.1).1; have := q2.lt; omega
  clear hb hg2 hS1
  refine hK.out _ _ (fun _ => hT2) ?_
  clear hK K
  try simp only [Act.put, List.getElem_toArray, List.getElem_cons_zero, List.getElem_cons_succ, List.setIfInBounds_toArray, List.set_cons_zero, List.set_cons_succ]
  refine AnyG.more (E := (fun w' => Mp.Is w' g2 Mp.shL)) _ _ _ _ hT2 hI2 ?_
  have hS2 := And.intro hT2 hI2
  clear hT2 hI2
  skip
  refine AnyG.take 9 (v := ?vv29) rfl (by kernel_rfl) (by kernel_rfl) (by kernel_rfl) (by kernel_rfl) (fun _ _ _ h => h) hS2 ?hy29 (by rfl) ?rest29
  case hy29 =>
    intro w0 h0
    have q := Mp.run_look (h0.2) x1
    go_simp
    try with_reducible rfl
  simp only [Act.put, List.getElem_toArray, List.getElem_cons_zero, List.getElem_cons_succ, List.setIfInBounds_toArray, List.set_cons_zero, List.set_cons_succ]
  refine AnyG.one 13 (by kernel_rfl) rfl ?_
  intro K hK
  go_simp
  refine (KU2.out _).mono ?_
  rintro e v3 ⟨rfl, hb⟩
  have hS3 : (fun w' => (fun w' => (fun w' => (∃ cs : List Value, cs.length = 5 ∧ Cel w' gr cs 23) ∧ (w'.cell? ⟨g, 0, none⟩ = some (.string x0) ∧ w'.cell? ⟨g, 1, none⟩ = some (.string x1) ∧ w'.cell? ⟨g, 2, none⟩ = some (.string x2) ∧ w'.cell? ⟨g, 3, none⟩ = some (.string x3) ∧ w'.cell? ⟨g, 4, none⟩ = some (.string x4)) ∧ Below w.heap.size w w') w' ∧ (fun w' => Mp.Is w' g1 Mp.shL) w') w' ∧ (fun w' => Mp.Is w' g2 Mp.shL) w') v3 := ⟨⟨⟨(by obtain ⟨cs, q1, q2⟩ := (hS2.1.1).1; exact ⟨cs, q1, q2.kept hb⟩), ⟨(hb.cell (p := ⟨g, 0, none⟩) (cell_lt (hS2.1.1).2.1.1).1).trans (hS2.1.1).2.1.1, (hb.cell (p := ⟨g, 1, none⟩) (cell_lt (hS2.1.1).2.1.2.1).1).trans (hS2.1.1).2.1.2.1, (hb.cell (p := ⟨g, 2, none⟩) (cell_lt (hS2.1.1).2.1.2.2.1).1).trans (hS2.1.1).2.1.2.2.1, (hb.cell (p := ⟨g, 3, none⟩) (cell_lt (hS2.1.1).2.1.2.2.2.1).1).trans (hS2.1.1).2.1.2.2.2.1, (hb.cell (p := ⟨g, 4, none⟩) (cell_lt (hS2.1.1).2.1.2.2.2.2).1).trans (hS2.1.1).2.1.2.2.2.2⟩, (hS2.1.1).2.2.trans (hb.mono (hS2.1.1).2.2.size)⟩, (hS2.1.2).keep hb⟩, (hS2.2).keep hb⟩
  clear hb hS2
  refine hK.out _ _ (fun _ => hS3) ?_
  clear hK K
  try simp only [Act.put, List.getElem_toArray, List.getElem_cons_zero, List.getElem_cons_succ, List.setIfInBounds_toArray, List.set_cons_zero, List.set_cons_succ]
  refine AnyG.one 14 (by kernel_rfl) rfl ?_
  intro K hK
  go_simp
  refine (KK.out _).mono ?_
  rintro e v4 ⟨g4, rfl, hI4, hg4, hb⟩
  have hT4 : (fun w' => (fun w' => (fun w' => (∃ cs : List Value, cs.length = 5 ∧ Cel w' gr cs 23) ∧ (w'.cell? ⟨g, 0, none⟩ = some (.string x0) ∧ w'.cell? ⟨g, 1, none⟩ = some (.string x1) ∧ w'.cell? ⟨g, 2, none⟩ = some (.string x2) ∧ w'.cell? ⟨g, 3, none⟩ = some (.string x3) ∧ w'.cell? ⟨g, 4, none⟩ = some (.string x4)) ∧ Below w.heap.size w w') w' ∧ (fun w' => Mp.Is w' g1 Mp.shL) w') w' ∧ (fun w' => Mp.Is w' g2 Mp.shL) w') v4 := ⟨⟨⟨(by obtain ⟨cs, q1, q2⟩ := (hS3.1.1).1; exact ⟨cs, q1, q2.kept hb⟩), ⟨(hb.cell (p := ⟨g, 0, none⟩) (cell_lt (hS3.1.1).2.1.1).1).trans (hS3.1.1).2.1.1, (hb.cell (p := ⟨g, 1, none⟩) (cell_lt (hS3.1.1).2.1.2.1).1).trans (hS3.1.1).2.1.2.1, (hb.cell (p := ⟨g, 2, none⟩) (cell_lt (hS3.1.1).2.1.2.2.1).1).trans (hS3.1.1).2.1.2.2.1, (hb.cell (p := ⟨g, 3, none⟩) (cell_lt (hS3.1.1).2.1.2.2.2.1).1).trans (hS3.1.1).2.1.2.2.2.1, (hb.cell (p := ⟨g, 4, none⟩) (cell_lt (hS3.1.1).2.1.2.2.2.2).1).trans (hS3.1.1).2.1.2.2.2.2⟩, (hS3.1.1).2.2.trans (hb.mono (hS3.1.1).2.2.size)⟩, (hS3.1.2).keep hb⟩, (hS3.2).keep hb⟩
  have HG2 : Hid (g4 ≠ gr) := fun q => by obtain ⟨cs, q1, q2⟩ := (hS3.1.1).1; have := q2.lt; omega
  clear hb hg4 hS3
  refine hK.out _ _ (fun _ => hT4) ?_
  clear hK K
  try simp only [Act.put, List.getElem_toArray, List.getElem_cons_zero, List.getElem_cons_succ, List.setIfInBounds_toArray, List.set_cons_zero, List.set_cons_succ]
  refine AnyG.more (E := (fun w' => Mp.Is w' g4 Mp.kdL)) _ _ _ _ hT4 hI4 ?_
  have hS4 := And.intro hT4 hI4
  clear hT4 hI4
  skip
  refine AnyG.take 18 (v := ?vv30) rfl (by kernel_rfl) (by kernel_rfl) (by kernel_rfl) (by kernel_rfl) (fun _ _ _ h => h) hS4 ?hy30 (by rfl) ?rest30
  case hy30 =>
    intro w0 h0
    have q := Mp.run_look (h0.2) x3
    go_simp
    try with_reducible rfl
  simp only [Act.put, List.getElem_toArray, List.getElem_cons_zero, List.getElem_cons_succ, List.setIfInBounds_toArray, List.set_cons_zero, List.set_cons_succ]
  refine AnyG.one 22 (by kernel_rfl) rfl ?_
  intro K hK
  go_simp
  refine (KU4.out _).mono ?_
  rintro e v5 ⟨rfl, hb⟩
  have hS5 : (fun w' => (fun w' => (fun w' => (fun w' => (∃ cs : List Value, cs.length = 5 ∧ Cel w' gr cs 23) ∧ (w'.cell? ⟨g, 0, none⟩ = some (.string x0) ∧ w'.cell? ⟨g, 1, none⟩ = some (.string x1) ∧ w'.cell? ⟨g, 2, none⟩ = some (.string x2) ∧ w'.cell? ⟨g, 3, none⟩ = some (.string x3) ∧ w'.cell? ⟨g, 4, none⟩ = some (.string x4)) ∧ Below w.heap.size w w') w' ∧ (fun w' => Mp.Is w' g1 Mp.shL) w') w' ∧ (fun w' => Mp.Is w' g2 Mp.shL) w') w' ∧ (fun w' => Mp.Is w' g4 Mp.kdL) w') v5 := ⟨⟨⟨⟨(by obtain ⟨cs, q1, q2⟩ := (hS4.1.1.1).1; exact ⟨cs, q1, q2.kept hb⟩), ⟨(hb.cell (p := ⟨g, 0, none⟩) (cell_lt (hS4.1.1.1).2.1.1).1).trans (hS4.1.1.1).2.1.1, (hb.cell (p := ⟨g, 1, none⟩) (cell_lt (hS4.1.1.1).2.1.2.1).1).trans (hS4.1.1.1).2.1.2.1, (hb.cell (p := ⟨g, 2, none⟩) (cell_lt (hS4.1.1.1).2.1.2.2.1).1).trans (hS4.1.1.1).2.1.2.2.1, (hb.cell (p := ⟨g, 3, none⟩) (cell_lt (hS4.1.1.1).2.1.2.2.2.1).1).trans (hS4.1.1.1).2.1.2.2.2.1, (hb.cell (p := ⟨g, 4, none⟩) (cell_lt (hS4.1.1.1).2.1.2.2.2.2).1).trans (hS4.1.1.1).2.1.2.2.2.2⟩, (hS4.1.1.1).2.2.trans (hb.mono (hS4.1.1.1).2.2.size)⟩, (hS4.1.1.2).keep hb⟩, (hS4.1.2).keep hb⟩, (hS4.2).keep hb⟩
  clear hb hS4
  refine hK.out _ _ (fun _ => hS5) ?_
  clear hK K
  try simp only [Act.put, List.getElem_toArray, List.getElem_cons_zero, List.getElem_cons_succ, List.setIfInBounds_toArray, List.set_cons_zero, List.set_cons_succ]
  refine AnyG.take 23 (v := ?vv31) rfl (by kernel_rfl) (by kernel_rfl) (by kernel_rfl) (by kernel_rfl) (fun _ _ _ h => h) hS5 ?hy31 (by rfl) ?rest31
  case hy31 =>
    intro w0 h0
    go_simp
    try with_reducible rfl
  simp only [Act.put, List.getElem_toArray, List.getElem_cons_zero, List.getElem_cons_succ, List.setIfInBounds_toArray, List.set_cons_zero, List.set_cons_succ]
  refine AnyG.one 24 (by kernel_rfl) rfl ?_
  intro K hK
  obtain ⟨cs, q1, q2⟩ := (hS5.1.1.1).1
  refine step_store gr cs [.int .i64 (Mp.look Mp.shL x0 : Nat), .int .i64 (Mp.look Mp.shL x1 : Nat), .int .i64 (Rs.num x2 : Nat), .int .i64 (Mp.look Mp.kdL x3 : Nat), .int .i64 (Rs.num x4 : Nat)] (by rfl) (by rfl) q2 (by rw [q1]; rfl) info_cfg (one5 _ _ _ _ _) ?_
  intro w9 hc9 ho9
  have hS9 : (fun w' => (fun w' => (fun w' => (fun w' => (∃ cs : List Value, cs.length = 5 ∧ Cel w' gr cs 23) ∧ (w'.cell? ⟨g, 0, none⟩ = some (.string x0) ∧ w'.cell? ⟨g, 1, none⟩ = some (.string x1) ∧ w'.cell? ⟨g, 2, none⟩ = some (.string x2) ∧ w'.cell? ⟨g, 3, none⟩ = some (.string x3) ∧ w'.cell? ⟨g, 4, none⟩ = some (.string x4)) ∧ Below w.heap.size w w') w' ∧ (fun w' => Mp.Is w' g1 Mp.shL) w') w' ∧ (fun w' => Mp.Is w' g2 Mp.shL) w') w' ∧ (fun w' => Mp.Is w' g4 Mp.kdL) w') w9 := ⟨⟨⟨⟨⟨[.int .i64 (Mp.look Mp.shL x0 : Nat), .int .i64 (Mp.look Mp.shL x1 : Nat), .int .i64 (Rs.num x2 : Nat), .int .i64 (Mp.look Mp.kdL x3 : Nat), .int .i64 (Rs.num x4 : Nat)], rfl, hc9⟩, ⟨(ho9.cell (p := ⟨g, 0, none⟩) hgg.out).trans (hS5.1.1.1).2.1.1, (ho9.cell (p := ⟨g, 1, none⟩) hgg.out).trans (hS5.1.1.1).2.1.2.1, (ho9.cell (p := ⟨g, 2, none⟩) hgg.out).trans (hS5.1.1.1).2.1.2.2.1, (ho9.cell (p := ⟨g, 3, none⟩) hgg.out).trans (hS5.1.1.1).2.1.2.2.2.1, (ho9.cell (p := ⟨g, 4, none⟩) hgg.out).trans (hS5.1.1.1).2.1.2.2.2.2⟩, (hS5.1.1.1).2.2.trans (ho9.below hgr.out)⟩, (ho9.block _ (HG0.out)).trans (hS5.1.1.2)⟩, (ho9.block _ (HG1.out)).trans (hS5.1.2)⟩, (ho9.block _ (HG2.out)).trans (hS5.2)⟩
  have HB9 : Hid (Below w.heap.size w w9) := (hS9.1.1.1).2.2
  refine hK.out _ _ (fun _ => hS9) ?_
  clear hK K
  try simp only [Act.put, List.getElem_toArray, List.getElem_cons_zero, List.getElem_cons_succ, List.setIfInBounds_toArray, List.set_cons_zero, List.set_cons_succ]
  refine AnyG.done (by kernel_rfl) ?_ _
  go_wp2
  have hc10 := hc9
  refine bodyPost_ret (result_cel1 rfl gr [.int .i64 (Mp.look Mp.shL x0 : Nat), .int .i64 (Mp.look Mp.shL x1 : Nat), .int .i64 (Rs.num x2 : Nat), .int .i64 (Mp.look Mp.kdL x3 : Nat), .int .i64 (Rs.num x4 : Nat)] rfl hc9 Tryd.underlying23 info_cfg) rfl ?_
  exact ⟨rfl, HB9.out⟩
end Go.Proofs.YtadfnllfeoidhaaDoor
