/-
  The contract of the document's Lengths.
-/
import Derived.Test.YtckkhmmicbpihaaM10
import Derived.Deep.WholeRow
import Derived.Deep.Cut
import Derived.Deep.DeepCutAuto
namespace Go.Proofs.Ytckkhmmicbpihaa
open Go.RowKit Num Hp Hn Ho
set_option linter.unusedVariables false
set_option linter.unusedSimpArgs false
set_option maxRecDepth 100000

theorem wpList_append_g {ops : Array Oper} {rest : List Oper} {o : Oper} {a : Act} {w : World} {Q : Exit → Act → World → Prop} (hgd : o.guard = none) (s x : Operand) (t : TypeId)
    (ho : o.op = .call { callee := .builtin .append, args := #[s, x], argTypes := #[t, t] })
    (base : Nat) (e : TypeId) (i : TypeInfo) (z : Value) (size bytes : Nat) (ht : Try.prog.underlying t = some (.slice e)) (hi : Try.prog.info? e = some i) (hz : i.zero = some z)
    (hsize : i.size = size) (hby : i.bytes = bytes) (hzs : z.cells.size = size) (hsz : 0 < size)
    (v : Value) (n : Nat) (vs : List Value) (hs : a.eval s = v) (hown : w.ownsRow base e size v n vs)
    (xa : Option Addr) (m c : Nat) (news : List Value) (hx : a.eval x = .slice xa m c) (hl : news.length = m * size) (hsrc : 0 < m → ∃ ad, xa = some ad ∧ ∀ j u, news[j]? = some u → w.cell? (ad.add j) = some u) (h1 : ∀ u ∈ news, u.oneCell' = true)
    (h63 : n + m ≤ maxLen) (hbytes : (n + m) * bytes ≤ 140737488355328) (hbase : base ≤ w.heap.size)
    (h : ∀ ao cap w', w'.ownsRow base e size (.slice ao (n + m) cap) (n + m) (vs ++ news) → Below base w w' → (∀ k, k < w.heap.size → v.ownBlock ≠ some k → w'.heap[k]? = w.heap[k]?) → w.heap.size ≤ w'.heap.size → wpList Try.prog ops Q rest (a.put o.dst (.slice ao (n + m) cap)) w') : wpList Try.prog ops Q (o :: rest) a w :=
  wpList_plain hgd fun K hK => wp_append_g s x t ho base e i z size bytes ht hi hz hsize hby hzs hsz v n vs hs hown xa m c news hx hl hsrc h1 h63 hbytes hbase (fun ao cap w' h1 h2 h3 h4 => hK _ _ (h ao cap w' h1 h2 h3 h4))
theorem one_tbc (x : TB) : ∀ u ∈ tbc x, u.oneCell' = true := by
  intro u hu
  unfold tbc at hu
  simp only [List.mem_cons, List.not_mem_nil, or_false] at hu
  rcases hu with rfl | rfl | rfl <;> rfl
theorem cel_src {w : World} {g : Nat} {cs : List Value} {T : TypeId} (h : Cel w g cs T) : ∀ j u, cs[j]? = some u → w.cell? ((⟨g, 0, none⟩ : Addr).add j) = some u := fun j u hu => by
  rw [addr_add, Nat.zero_add]; exact h.cell j hu
theorem used_step (cnt : Nat → Nat) (q : Nat) (h : 0 < cnt q) : used cnt (q + 1) = used cnt q ++ [q] := by
  unfold used; rw [List.range_succ, List.filter_append]; simp [h]
theorem used_same (cnt : Nat → Nat) (q : Nat) (h : ¬ 0 < cnt q) : used cnt (q + 1) = used cnt q := by
  unfold used; rw [List.range_succ, List.filter_append]; simp; omega
theorem things_step (cnt : Nat → Nat) (q : Nat) (h : 0 < cnt q) : things cnt (q + 1) = things cnt q ++ [one cnt q] := by unfold things; rw [used_step cnt q h]; simp
theorem things_same (cnt : Nat → Nat) (q : Nat) (h : ¬ 0 < cnt q) : things cnt (q + 1) = things cnt q := by unfold things; rw [used_same cnt q h]
theorem owns_new {w : World} {base : Nat} {e : TypeId} {v : Value} (h : base ≤ w.heap.size) : (w.alloc (.cells #[v] e)).ownsRow base e 1 (.slice (some ⟨w.heap.size, 0, none⟩) 1 1) 1 [v] := by
  refine ⟨by simp, .inr ⟨w.heap.size, 1, #[v], rfl, h, ?_, Nat.le_refl _, by unfold maxLen; omega, by simp, by simp⟩⟩
  exact Cel.new w [v] e
theorem sum_le_of (f : Nat → Nat) (B : Nat) : ∀ (l : List Nat), (∀ x ∈ l, f x ≤ B) → (l.map f).sum ≤ l.length * B
  | [], _ => by simp
  | x :: l, h => by
    have := sum_le_of f B l (fun y hy => h y (List.mem_cons_of_mem _ hy))
    have := h x (by simp)
    simp only [List.map_cons, List.sum_cons, List.length_cons, Nat.add_mul]
    omega
theorem ti_start {cnt : Nat → Nat} (h : ∀ c, cnt c ≤ 1048576) : TI (things cnt 256) 256 := by
  have hl := used_len cnt 256
  refine ⟨?_, ?_, ?_, ?_, by unfold things; rw [List.length_map]; omega⟩
  · have e : (things cnt 256).map Tg.wt = (used cnt 256).map cnt := by unfold things; rw [List.map_map]; rfl
    rw [e]
    have := sum_le_of cnt 1048576 (used cnt 256) (fun x _ => h x)
    have : (used cnt 256).length * 1048576 ≤ 256 * 1048576 := Nat.mul_le_mul_right _ hl
    omega
  · have e : ((things cnt 256).map fun x => x.sy.length) = (used cnt 256).map (fun _ => 1) := by unfold things; rw [List.map_map]; rfl
    rw [e]
    have := sum_le_of (fun _ => 1) 1 (used cnt 256) (fun x _ => Nat.le_refl _)
    omega
  · intro x hx c hc
    unfold things at hx
    obtain ⟨k, hk, rfl⟩ := List.mem_map.1 hx
    obtain rfl : c = k := by simpa [one] using hc
    exact (mem_used.1 hk).1
  · intro x hx
    unfold things at hx
    obtain ⟨k, hk, rfl⟩ := List.mem_map.1 hx
    simp [one]
theorem tr_of {w : World} {base g cap : Nat} {L : List TB} (h : w.ownsRow base 104 3 (.slice (some ⟨g, 0, none⟩) L.length cap) L.length (tbs L)) : TR w g L := by
  obtain ⟨h1, h2⟩ := owns_cells h
  refine ⟨h1, fun i hi => ⟨?_, ?_⟩⟩
  · exact h2 _ _ (by have := tbs_get L i 0 hi (by omega); rw [Nat.add_zero] at this; rw [this]; rfl)
  · exact h2 _ _ (by rw [tbs_get L i 1 hi (by omega)]; rfl)
theorem sy_of {w : World} {base g cap : Nat} {L : List TB} (h : w.ownsRow base 104 3 (.slice (some ⟨g, 0, none⟩) L.length cap) L.length (tbs L)) {i : Nat} (hi : i < L.length) : w.cell? ⟨g, i * 3 + 2, none⟩ = some (.slice (some ⟨(tbi L i).g, 0, none⟩) (tbi L i).t.sy.length (tbi L i).cap) := by
  obtain ⟨h1, h2⟩ := owns_cells h
  exact h2 _ _ (by rw [tbs_get L i 2 hi (by omega)]; rfl)

theorem cel_ne {w : World} {a b : Nat} {cs ds : List Value} {T U : TypeId} (h : Cel w a cs T) (k : Cel w b ds U) (hne : T ≠ U) : a ≠ b := by
  rintro rfl
  unfold Cel at h k
  rw [h] at k
  simp only [Option.some.injEq, Obj.cells.injEq] at k
  exact hne k.2.1
theorem map_erase : ∀ (L : List TB) (i : Nat), (L.eraseIdx i).map TB.t = (L.map TB.t).eraseIdx i
  | [], _ => by simp
  | x :: L, 0 => rfl
  | x :: L, i + 1 => by simp only [List.eraseIdx_cons_succ, List.map_cons, map_erase L i]
theorem LI.less {w wr wx : World} {go i : Nat} {v v2 : Value} {L : List TB} {d : Nat → Nat} (h : LI w wr go v L d) (hb : Below wr.heap.size wr wx) (hi : i < L.length) (ho : wx.ownsRow wr.heap.size 104 3 v2 (L.length - 1) (tbs (L.eraseIdx i))) : LI w wx go v2 (L.eraseIdx i) d :=
  ⟨by rw [List.length_eraseIdx, if_pos hi]; exact owns_low ho h.out.lt, h.out.kept hb, fun x hx => owns_keep (h.sy x (List.mem_of_mem_eraseIdx hx)) hb, h.lt, h.bw.trans (hb.mono h.bw.size)⟩
theorem rwithout_li {w wr : World} {go g c i : Nat} {L : List TB} {d : Nat → Nat} (h : LI w wr go (.slice (some ⟨g, 0, none⟩) L.length c) L d) (hi : i < L.length) (hl : L.length ≤ 256) :
    Calls Try.prog 75 #[.slice (some ⟨g, 0, none⟩) L.length c, .int .i64 i] wr fun e w' => ∃ ao c2, e = .returned (.slice ao (L.eraseIdx i).length c2) ∧ LI w w' go (.slice ao (L.eraseIdx i).length c2) (L.eraseIdx i) d ∧ Below wr.heap.size wr w' := by
  refine (rwithout_c (go + 1) g c L.length i L wr h.row rfl hi hl).mono ?_
  rintro e w' ⟨ao, c2, rfl, o, hb⟩
  have e1 : (L.eraseIdx i).length = L.length - 1 := by rw [List.length_eraseIdx, if_pos hi]
  refine ⟨ao, c2, by rw [e1], ?_, hb⟩
  have := h.less hb hi o
  rw [e1]
  exact this
theorem tbi_mem {L : List TB} {i : Nat} (h : i < L.length) : tbi L i ∈ L := by
  unfold tbi
  rw [List.getD_eq_getElem?_getD, List.getElem?_eq_getElem h]
  exact List.getElem_mem h
theorem next_of {n : Nat} {T : List Tg} {L L1 L2 : List TB} {i j : Nat} {x y z : TB} (hT : T = L.map TB.t) (hi : i = Ho.least T) (h1 : L1 = L.eraseIdx i) (hj : j = Ho.least (L1.map TB.t)) (h2 : L2 = L1.eraseIdx j) (hx : x = tbi L i) (hy : y = tbi L1 j) (hz : z.t = ⟨n, x.t.wt + y.t.wt, x.t.sy ++ y.t.sy⟩) :
    x.t = fstT T ∧ y.t = sndT T ∧ (L2 ++ [z]).map TB.t = Ho.next n T := by
  have e1 : L1.map TB.t = lst1 T := by rw [h1, map_erase, ← hT, hi]; rfl
  have e2 : L2.map TB.t = lst2 T := by rw [h2, map_erase, e1, hj, e1]; rfl
  have f1 : x.t = fstT T := by rw [hx, ← tg_map, ← hT, hi]; rfl
  have f2 : y.t = sndT T := by rw [hy, ← tg_map, e1, hj, e1]; rfl
  refine ⟨f1, f2, ?_⟩
  rw [List.map_append, e2, List.map_cons, List.map_nil, hz, f1, f2]
  rfl
theorem LI.outs {w wr wx : World} {go : Nat} {v : Value} {L : List TB} {d e : Nat → Nat} (h : LI w wr go v L d) (ho : Only go wr wx) (hc : Cel wx go (ivh (dls e)) 3) : LI w wx go v L e :=
  ⟨owns_only ho h.row (by omega), hc, fun x hx => owns_only ho (h.sy x hx) (by omega), h.lt, h.bw.trans (ho.below h.lt)⟩
theorem one_ivh (l : List Nat) : ∀ u ∈ ivh l, u.oneCell' = true := by
  intro u hu
  unfold ivh at hu
  obtain ⟨x, _, rfl⟩ := List.mem_map.1 hu
  rfl
theorem ivh_append (l m : List Nat) : ivh l ++ ivh m = ivh (l ++ m) := by unfold ivh; rw [List.map_append]
theorem sy_src {w : World} {base g cap : Nat} {l : List Nat} (h : w.ownsRow base 3 1 (.slice (some ⟨g, 0, none⟩) l.length cap) l.length (ivh l)) {w' : World} (hb : Below w.heap.size w w') : ∀ j u, (ivh l)[j]? = some u → w'.cell? ((⟨g, 0, none⟩ : Addr).add j) = some u := fun j u hu => by
  obtain ⟨h1, h2⟩ := owns_cells h
  rw [addr_add, Nat.zero_add]
  exact (hb.cell (p := ⟨g, j, none⟩) h1).trans (h2 j u hu)

set_option maxHeartbeats 2000000 in
theorem rlen_bad (ao : Option Addr) (l : List Int) (cap : Nat) (w : World) (hx : Nd w ao l) (hl : l.length ≤ 1048576) (hw : win l 1048576 = false) :
    Calls Try.prog 54 #[.slice ao l.length cap] w fun e w' => e = .returned (.tuple #[.slice none 0 0, .int .i64 2]) ∧ Below w.heap.size w w' := by
  have C := hide (rcnt_c ao l cap w hx hl)
  rw [hw] at C
  clear hx hw
  go_enter Try.func54, Try.ntmps54
  go_wp2_with fail
  refine (C.out).mono ?_
  rintro e w1 ⟨rfl, hb⟩
  go_wp2
  go_ret2
  exact ⟨rfl, hb⟩

set_option maxHeartbeats 16000000 in
theorem rlen_c (ao : Option Addr) (l : List Int) (cap : Nat) (w : World) (hx : Nd w ao l) (hl : l.length ≤ 1048576) (hw : win l 1048576 = true) :
    Calls Try.prog 54 #[.slice ao l.length cap] w fun e w' => LO w (hls l) e w' := by
  obtain ⟨i0, hi, hz0, hz1, hz2⟩ := info_parts info_i64
  obtain ⟨j0, hj, hy0, hy1, hy2⟩ := info_parts info_tb
  have HJ : Hid (Try.prog.info? 104 = some j0 ∧ j0.zero = some TZ ∧ j0.size = 3 ∧ j0.bytes = 40) := ⟨hj, hy0, hy1, hy2⟩
  have C := hide (rcnt_c ao l cap w hx hl)
  rw [hw] at C
  obtain ⟨h256, hbd⟩ := win_len hw
  obtain ⟨cnt, hcnt⟩ : ∃ c, Hid (c = cntOf l) := ⟨_, rfl⟩
  have HCB : Hid (∀ c, cnt c ≤ 1048576) := by rw [hcnt.out]; exact cntI_le hbd
  obtain ⟨b, off, rfl, hbw, hcc⟩ := hx (by omega)
  have HCC : Hid (∀ i, i < 256 → w.cell? ⟨b, off + i, none⟩ = some (.int .i64 (cnt i : Nat))) := fun i hi => by
    have h1 := hcc i (by omega)
    have h2 := hbd i (by omega)
    rw [hcnt.out]
    unfold cntOf
    rw [h1]
    congr 2
    omega
  have HG : Hid (hls l = dls (hlen cnt 256)) := by show hls l = _; rw [hcnt.out]; rfl
  rw [HG.out]
  have hlg : 256 ≤ l.length := by omega
  clear hx hw h256 hbd hcc hj hy0 hy1 hy2 HG hcnt
  go_enter Try.func54, Try.ntmps54
  go_wp2_with fail
  refine (C.out).mono ?_
  rintro e w5 ⟨rfl, hb⟩
  have HB5 := hide hb
  have hg0 := hb.size
  clear hb C
  go_wp2_with (at_make; refine wpList_make_full _ rfl _ _ 24 rfl w5.heap.size 3 i0 (.int .i64 0) 1 Try.underlying24 hi hz0 hz1 .i64 .i64 _ _ 256 rfl rfl rfl rfl ?b2 ?b3 ?b4 ?_)
  case b2 => rw [hz2]; omega
  case b3 => unfold maxLen; omega
  case b4 => simp
  intro w6 hown hgr
  have B6 := cel_made1 hown
  have hb6 : Below w5.heap.size w5 w6 := (Below.refl _ _).grown hgr (Nat.le_refl _) (fun k h => by cases h)
  rw [← dls_zero] at B6
  have HI6 : Hid (LI w w6 w5.heap.size (.slice none 0 0) [] (fun _ => 0)) := ⟨⟨rfl, .inl ⟨rfl, rfl⟩⟩, B6, fun x hx => (by cases hx), hg0, HB5.out.trans (hb6.mono hg0)⟩
  have HZ : Hid (Try.prog.info? 3 = some i0 ∧ i0.zero = some (.int .i64 0) ∧ i0.size = 1 ∧ i0.bytes = 8) := ⟨hi, hz0, hz1, hz2⟩
  clear hown hgr hb6 hi hz0 hz1 hz2 HB5 B6
  generalize w5.heap.size = go at *
  go_wp2
  go_loopw [4, 6] (fun v vq wr => ∃ (q : Nat) (L : List TB) (a : Option Addr) (c : Nat), q ≤ 256 ∧ L.length ≤ 256 ∧ vq = .int .i64 q ∧ v = .slice a L.length c ∧ Hid (LI w wr go (.slice a L.length c) L (fun _ => 0)) ∧ Hid (L.map TB.t = things cnt q)) (fun _ vq _ => 256 - (intOf vq).toNat)
  case atStart => exact ⟨0, [], none, 0, by omega, by simp, rfl, rfl, HI6, rfl⟩
  case round =>
    clear HI6
    obtain ⟨q, L, a, c, hq, hLL, rfl, rfl, HI, HM⟩ := hrel
    by_cases hlt : q < 256
    · have hltz : (q : Int) < 256 := by omega
      have hlt2 : (q : Int) < (l.length : Int) := by omega
      have c1 := (HI.out.bw.cell (p := ⟨b, off + q, none⟩) hbw).trans (HCC.out q hlt)
      by_cases hp : 0 < cnt q
      · have hpz : (0 : Int) < (cnt q : Int) := by omega
        have HM1 : Hid ((L ++ [(⟨one cnt q, wr.heap.size, 1⟩ : TB)]).map TB.t = things cnt (q + 1)) := by show _ = things cnt (q + 1); rw [things_step cnt q hp, List.map_append, HM.out]; rfl
        have hL1 : L.length + 1 ≤ 256 := by
          have e := congrArg List.length HM1.out
          rw [List.length_map, List.length_append] at e
          have e2 : (things cnt (q + 1)).length = (used cnt (q + 1)).length := by unfold things; rw [List.length_map]
          have := used_len cnt (q + 1)
          simp at e
          omega
        obtain ⟨hj, hy0, hy1, hy2⟩ := HJ.out
        have hgw : go + 1 ≤ wr.heap.size := HI.out.out.lt
        have O1 : (wr.alloc (.cells #[.int .i64 (q : Nat)] 3)).ownsRow (go + 1) 3 1 (.slice (some ⟨wr.heap.size, 0, none⟩) 1 1) 1 (ivh [q]) := owns_new hgw
        have HB1 : Hid (∀ o, Below wr.heap.size wr ((wr.alloc (.cells #[.int .i64 (q : Nat)] 3)).alloc o)) := fun o => ((Below.refl _ _).alloc (Nat.le_refl _) _).alloc (by simp) o
        have O2 : Hid (∀ o, ((wr.alloc (.cells #[.int .i64 (q : Nat)] 3)).alloc o).ownsRow (go + 1) 3 1 (.slice (some ⟨wr.heap.size, 0, none⟩) 1 1) 1 (ivh [q])) := fun o => O1.alloc o
        have R1 : Hid (∀ o, ((wr.alloc (.cells #[.int .i64 (q : Nat)] 3)).alloc o).ownsRow (go + 1) 104 3 (.slice a L.length c) L.length (tbs L)) := fun o => owns_keep HI.out.row (HB1.out o)
        have S1 := cel_src (Cel.new2 wr (.cells #[.int .i64 (q : Nat)] 3) (tbc ⟨one cnt q, wr.heap.size, 1⟩) 104)
        clear O1
        go_wp2_with (at_builtin; refine wpList_append_g (by rfl) _ _ _ (by rfl) (go + 1) 104 j0 TZ 3 40 Try.underlying102 hj hy0 hy1 hy2 rfl (by decide) (.slice a L.length c) L.length (tbs L) (by rfl) (R1.out _) (some ⟨wr.heap.size + 1, 0, none⟩) 1 1 (tbc ⟨one cnt q, wr.heap.size, 1⟩) (by rfl) rfl (fun _ => ⟨_, rfl, S1⟩) (one_tbc _) ?c3 ?c4 ?c5 ?_)
        case c3 => unfold maxLen; omega
        case c4 => omega
        case c5 => exact Nat.le_trans hgw (HB1.out _).size
        intro a2 c2 w2 O3 hb2 hk2 hs2
        have HI2 := hide (HI.out.more ⟨one cnt q, wr.heap.size, 1⟩ (HB1.out _) (O2.out _) O3 (fun k g1 g2 => hk2 k (by simpa using g1) g2) hb2)
        clear O3 hb2 hk2 hs2 S1 R1 O2 HB1 hj hy0 hy1 hy2 HI HM c1
        go_wp2
        exact ⟨⟨q + 1, L ++ [⟨one cnt q, wr.heap.size, 1⟩], a2, c2, by omega, by simpa using hL1, by go_num, by simp, by simpa using HI2, HM1⟩, by simp only [intOf]; omega⟩
      · have hpz : ¬ (0 : Int) < (cnt q : Int) := by omega
        have HM1 : Hid (L.map TB.t = things cnt (q + 1)) := by show _ = things cnt (q + 1); rw [things_same cnt q hp]; exact HM.out
        generalize cnt q = y at *
        go_wp2
        exact ⟨⟨q + 1, L, a, c, by omega, hLL, by go_num, rfl, HI, HM1⟩, by simp only [intOf]; omega⟩
    · obtain rfl : q = 256 := by omega
      have HLU : Hid (L.length = (used cnt 256).length) := by
        have := congrArg List.length HM.out
        unfold things at this
        rw [List.length_map, List.length_map] at this
        exact this
      by_cases k1 : L.length = 1
      · have k1z : ((L.length : Int) == 1) = true := by simp; omega
        obtain ⟨u, hu⟩ : ∃ u, used cnt 256 = [u] := List.length_eq_one_iff.1 (by rw [← HLU.out]; exact k1)
        have hid : (tbi L 0).t.id = u := by rw [← tg_map, HM.out]; unfold things; rw [hu]; rfl
        have u256 : u < 256 := (mem_used.1 (show u ∈ used cnt 256 by rw [hu]; simp)).1
        obtain ⟨g, c', e⟩ := owns_slice HI.out.row (by omega)
        simp only [Value.slice.injEq, true_and] at e
        obtain ⟨rfl, rfl⟩ := e
        have t0 := ((tr_of HI.out.row).2 0 (by omega)).1
        rw [hid, Nat.zero_mul] at t0
        have n0 := HI.out.out.cell u (ivh_get _ _ (by rw [length_dls]; exact u256))
        rw [dls_at _ _ u256] at n0
        have f0 := HI.out.out.frozen u
        have HO1 : Hid (Cel (wr.setCell ⟨go, u, none⟩ (.int .i64 1)) go (ivh (dls (hlen cnt 256))) 3) := by
          have h1 := HI.out.out.set u (.int .i64 ((1 : Nat) : Int))
          have h2 : ∀ x, hlen cnt 256 x = if x = u then 1 else 0 := fun x => by unfold hlen; rw [hu]; simp
          have h3 := dls_set (fun _ => 0) (hlen cnt 256) u u256 (fun x hx => by rw [h2 x, h2 u]; simp)
          rw [ivh_set] at h1
          rw [h2 u, if_pos rfl] at h3
          rw [h3] at h1
          exact h1
        have HB1 : Hid (∀ y, Below w.heap.size w (wr.setCell ⟨go, u, none⟩ y)) := fun y => HI.out.bw.setCell (by show w.heap.size ≤ go; exact hg0) y
        have uz : (u : Int) < 256 := by omega
        clear hu hid HI HM HLU HCB HCC
        go_wp2
        go_ret2
        exact LO.mk go rfl HO1.out hg0 (HB1.out _)
      · have k1z : ((L.length : Int) == 1) = false := by simp; omega
        have HH : Hid (run (512 - 256) 256 (L.map TB.t) (fun _ => 0) = hlen cnt 256) := by
          show _ = hlen cnt 256
          rw [HM.out]
          funext c
          unfold hlen
          rw [if_neg (by rw [← HLU.out]; exact k1)]
        have HT : Hid (TI (L.map TB.t) 256) := by rw [HM.out]; exact ti_start HCB.out
        clear HM HLU HCB HCC
        go_wp2
        go_loopw [4, 7] (fun v vn wr => ∃ (n : Nat) (L : List TB) (d : Nat → Nat) (a : Option Addr) (c : Nat), 256 ≤ n ∧ n ≤ 512 ∧ L.length ≤ 256 ∧ vn = .int .i64 n ∧ v = .slice a L.length c ∧ Hid (LI w wr go (.slice a L.length c) L d) ∧ Hid (TI (L.map TB.t) n) ∧ Hid (run (512 - n) n (L.map TB.t) d = hlen cnt 256) ∧ Hid (∀ c, d c ≤ (n - 256) * 256)) (fun _ vn _ => 512 - (intOf vn).toNat)
        case atStart => exact ⟨256, L, _, a, c, by omega, by omega, hLL, rfl, rfl, HI, HT, HH, fun c => by simp⟩
        case round =>
          clear HI HT HH
          obtain ⟨n, L, d, a, c, hn1, hn2, hLL, rfl, rfl, HI, HT, HH, HD⟩ := hrel
          by_cases hlt : 1 < L.length
          · have hltz : (1 : Int) < (L.length : Int) := by omega
            obtain ⟨g, c', e⟩ := owns_slice HI.out.row (by omega)
            simp only [Value.slice.injEq, true_and] at e
            obtain ⟨rfl, rfl⟩ := e
            obtain ⟨T, hT⟩ : ∃ T, Hid (T = L.map TB.t) := ⟨_, rfl⟩
            rw [← hT.out] at HT HH
            have HTL : Hid (T.length = L.length) := by show T.length = _; rw [hT.out, List.length_map]
            obtain ⟨i, hi⟩ : ∃ i, Hid (i = Ho.least T) := ⟨_, rfl⟩
            have il : i < L.length := by rw [hi.out, ← HTL.out]; exact least_lt (by rw [HTL.out]; omega)
            have CL1 : Hid (Calls Try.prog 74 #[.slice (some ⟨g, 0, none⟩) L.length c] wr fun e w' => e = .returned (.int .i64 (i : Nat)) ∧ Below wr.heap.size wr w') := by
              rw [hi.out, hT.out]
              exact rleast_c g c L wr (tr_of HI.out.row) (by omega) hLL
            go_wp2_with fail
            refine (CL1.out).mono ?_
            rintro e w1 ⟨rfl, hb1⟩
            have HI1 := hide (HI.out.keep hb1)
            clear hb1 HI CL1
            obtain ⟨t0, t1⟩ := (tr_of HI1.out.row).2 i il
            have t2 := sy_of HI1.out.row il
            obtain ⟨x, hx⟩ : ∃ x, Hid (x = tbi L i) := ⟨_, rfl⟩
            have SX1 := hide (HI1.out.sy (tbi L i) (tbi_mem il))
            rw [← hx.out] at t0 t1 t2 SX1
            have ilz : (i : Int) < (L.length : Int) := by omega
            go_wp2_with fail
            have CB : Cel (w1.alloc (.cells #[.int .i64 (x.t.id : Nat), .int .i64 (x.t.wt : Nat), .slice (some ⟨x.g, 0, none⟩) x.t.sy.length x.cap] 104)) w1.heap.size (tbc x) 104 := Cel.new w1 (tbc x) 104
            have hbx := below_alloc w1 (.cells #[.int .i64 (x.t.id : Nat), .int .i64 (x.t.wt : Nat), .slice (some ⟨x.g, 0, none⟩) x.t.sy.length x.cap] 104)
            have HI2 := hide (HI1.out.keep hbx)
            have SX2 := hide (owns_keep SX1.out hbx)
            clear t0 t1 t2 HI1 SX1 hbx
            generalize w1.alloc (.cells #[.int .i64 (x.t.id : Nat), .int .i64 (x.t.wt : Nat), .slice (some ⟨x.g, 0, none⟩) x.t.sy.length x.cap] 104) = w2 at *
            generalize w1.heap.size = g9 at *
            obtain ⟨L1, hL1⟩ : ∃ L1, Hid (L1 = L.eraseIdx i) := ⟨_, rfl⟩
            have m1h : Hid (L1.length = L.length - 1) := by show L1.length = _; rw [hL1.out, List.length_eraseIdx, if_pos il]
            have m1a : 1 ≤ L1.length := by rw [m1h.out]; omega
            have m1b : L1.length ≤ 255 := by rw [m1h.out]; omega
            refine (rwithout_li HI2.out il hLL).mono ?_
            rintro e w3 ⟨a3, c3, rfl, k3, hb3⟩
            rw [← hL1.out] at k3 ⊢
            have HI3 := hide k3
            have SX3 := hide (owns_keep SX2.out hb3)
            have CB3 := hide (CB.kept hb3)
            clear k3 hb3 SX2 HI2 CB
            obtain ⟨g3, c', e⟩ := owns_slice HI3.out.row (by omega)
            simp only [Value.slice.injEq, true_and] at e
            obtain ⟨rfl, rfl⟩ := e
            obtain ⟨j, hj⟩ : ∃ j, Hid (j = Ho.least (L1.map TB.t)) := ⟨_, rfl⟩
            have jl : j < L1.length := by
              have := least_lt (l := L1.map TB.t) (by rw [List.length_map]; omega)
              rw [hj.out]
              rw [List.length_map] at this
              exact this
            have CL2 : Hid (Calls Try.prog 74 #[.slice (some ⟨g3, 0, none⟩) L1.length c3] w3 fun e w' => e = .returned (.int .i64 (j : Nat)) ∧ Below w3.heap.size w3 w') := by
              rw [hj.out]
              exact rleast_c g3 c3 L1 w3 (tr_of HI3.out.row) (by omega) (by omega)
            go_wp2_with fail
            refine (CL2.out).mono ?_
            rintro e w4 ⟨rfl, hb4⟩
            have HI4 := hide (HI3.out.keep hb4)
            have SX4 := hide (owns_keep SX3.out hb4)
            have CB4 := hide (CB3.out.kept hb4)
            clear hb4 HI3 CL2 SX3 CB3
            obtain ⟨t0, t1⟩ := (tr_of HI4.out.row).2 j jl
            have t2 := sy_of HI4.out.row jl
            obtain ⟨y, hy⟩ : ∃ y, Hid (y = tbi L1 j) := ⟨_, rfl⟩
            have SY4 := hide (HI4.out.sy (tbi L1 j) (tbi_mem jl))
            rw [← hy.out] at t0 t1 t2 SY4
            have jlz : (j : Int) < (L1.length : Int) := by omega
            go_wp2_with fail
            have CB : Cel (w4.alloc (.cells #[.int .i64 (y.t.id : Nat), .int .i64 (y.t.wt : Nat), .slice (some ⟨y.g, 0, none⟩) y.t.sy.length y.cap] 104)) w4.heap.size (tbc y) 104 := Cel.new w4 (tbc y) 104
            have hbx := below_alloc w4 (.cells #[.int .i64 (y.t.id : Nat), .int .i64 (y.t.wt : Nat), .slice (some ⟨y.g, 0, none⟩) y.t.sy.length y.cap] 104)
            have HI5 := hide (HI4.out.keep hbx)
            have SX5 := hide (owns_keep SX4.out hbx)
            have SY5 := hide (owns_keep SY4.out hbx)
            have CB5 := hide (CB4.out.kept hbx)
            clear t0 t1 t2 HI4 SX4 SY4 CB4 hbx
            generalize w4.alloc (.cells #[.int .i64 (y.t.id : Nat), .int .i64 (y.t.wt : Nat), .slice (some ⟨y.g, 0, none⟩) y.t.sy.length y.cap] 104) = w5 at *
            generalize w4.heap.size = g11 at *
            obtain ⟨L2, hL2⟩ : ∃ L2, Hid (L2 = L1.eraseIdx j) := ⟨_, rfl⟩
            have m2h : Hid (L2.length = L1.length - 1) := by show L2.length = _; rw [hL2.out, List.length_eraseIdx, if_pos jl]
            have m2b : L2.length ≤ 254 := by rw [m2h.out]; omega
            refine (rwithout_li HI5.out jl (by omega)).mono ?_
            rintro e w7 ⟨a7, c7, rfl, k7, hb7⟩
            rw [← hL2.out] at k7 ⊢
            have HI7 := hide k7
            have SX := hide (owns_keep SX5.out hb7)
            have SY := hide (owns_keep SY5.out hb7)
            have B9 := hide (CB5.out.kept hb7)
            have B11 := hide (CB.kept hb7)
            clear k7 hb7 SX5 SY5 HI5 CB CB5
            have HNX : Hid (∀ gb cb, x.t = fstT T ∧ y.t = sndT T ∧ (L2 ++ [(⟨⟨n, x.t.wt + y.t.wt, x.t.sy ++ y.t.sy⟩, gb, cb⟩ : TB)]).map TB.t = Ho.next n T) := fun gb cb => next_of hT.out hi.out hL1.out hj.out hL2.out hx.out hy.out rfl
            obtain ⟨w28, s256, sm, sx0, sy0⟩ : x.t.wt + y.t.wt ≤ 268435456 ∧ x.t.sy.length + y.t.sy.length ≤ 256 ∧ Hid (∀ c ∈ x.t.sy ++ y.t.sy, c < 256) ∧ 0 < x.t.sy.length ∧ 0 < y.t.sy.length := by
              have := HT.out.two (by rw [HTL.out]; omega)
              rw [(HNX.out 0 0).1, (HNX.out 0 0).2.1]
              exact this
            go_upto_region 22 with fail
            refine region_g [] (fun w' => Below w7.heap.size w7 w') (by kernel_rfl) ?_
            have hS : Below w7.heap.size w7 w7.drew := (Below.refl _ _).drew
            generalize w7.drew = Y at *
            refine AnyG.take 1 (v := ?vv1) rfl (by kernel_rfl) (by kernel_rfl) (by kernel_rfl) (by kernel_rfl) (fun _ _ _ h => h) hS ?hy1 (by rfl) ?rest1
            case hy1 =>
              intro w0 h0
              go_simp
              try with_reducible rfl
            simp only [Act.put, List.getElem_toArray, List.getElem_cons_zero, List.getElem_cons_succ, List.setIfInBounds_toArray, List.set_cons_zero, List.set_cons_succ]
            refine AnyG.take 2 (v := ?vv2) rfl (by kernel_rfl) (by kernel_rfl) (by kernel_rfl) (by kernel_rfl) (fun _ _ _ h => h) hS ?hy2 (by rfl) ?rest2
            case hy2 =>
              intro w0 h0
              have k2 := (h0.cell (p := ⟨g9, 2, none⟩) B9.out.lt).trans (B9.out.cell 2 rfl)
              go_simp
              try with_reducible rfl
            simp only [Act.put, List.getElem_toArray, List.getElem_cons_zero, List.getElem_cons_succ, List.setIfInBounds_toArray, List.set_cons_zero, List.set_cons_succ]
            refine AnyG.take 4 (v := ?vv3) rfl (by kernel_rfl) (by kernel_rfl) (by kernel_rfl) (by kernel_rfl) (fun _ _ _ h => h) hS ?hy3 (by rfl) ?rest3
            case hy3 =>
              intro w0 h0
              go_simp
              try with_reducible rfl
            simp only [Act.put, List.getElem_toArray, List.getElem_cons_zero, List.getElem_cons_succ, List.setIfInBounds_toArray, List.set_cons_zero, List.set_cons_succ]
            refine AnyG.take 5 (v := ?vv4) rfl (by kernel_rfl) (by kernel_rfl) (by kernel_rfl) (by kernel_rfl) (fun _ _ _ h => h) hS ?hy4 (by rfl) ?rest4
            case hy4 =>
              intro w0 h0
              have k2 := (h0.cell (p := ⟨g11, 2, none⟩) B11.out.lt).trans (B11.out.cell 2 rfl)
              go_simp
              try with_reducible rfl
            simp only [Act.put, List.getElem_toArray, List.getElem_cons_zero, List.getElem_cons_succ, List.setIfInBounds_toArray, List.set_cons_zero, List.set_cons_succ]
            refine AnyG.one 0 (by kernel_rfl) rfl ?_
            intro K hK
            go_simp
            refine hK.out _ _ (fun _ => hS.alloc hS.size _) ?_
            clear hK K
            try simp only [Act.put, List.getElem_toArray, List.getElem_cons_zero, List.getElem_cons_succ, List.setIfInBounds_toArray, List.set_cons_zero, List.set_cons_succ]
            have O0 : (Y.alloc (.cells #[] 3)).ownsRow w7.heap.size 3 1 (.slice (some ⟨Y.heap.size, 0, none⟩) 0 0) 0 [] := owns_empty3 Y _ hS.size
            replace hS := hS.alloc hS.size (.cells #[] 3)
            generalize Y.alloc (.cells #[] 3) = Y1 at *
            generalize Y.heap.size = g1 at *
            refine AnyG.one 3 (by kernel_rfl) rfl ?_
            intro K hK
            refine wp_append_g _ _ _ rfl w7.heap.size 3 i0 (.int .i64 0) 1 8 Try.underlying24 HZ.out.1 HZ.out.2.1 HZ.out.2.2.1 HZ.out.2.2.2 rfl (by decide) (.slice (some ⟨g1, 0, none⟩) 0 0) 0 [] rfl O0 (some ⟨x.g, 0, none⟩) x.t.sy.length _ (ivh x.t.sy) rfl (by rw [length_ivh, Nat.mul_one]) (fun _ => ⟨_, rfl, sy_src SX.out hS⟩) (one_ivh _) (by unfold maxLen; omega) (by omega) hS.size ?_
            intro ao c2 wA O1 hbA hkA hsA
            refine hK.out _ _ (fun _ => hS.trans (hbA.mono (Nat.le_refl _))) ?_
            clear hK K
            try simp only [Act.put, List.getElem_toArray, List.getElem_cons_zero, List.getElem_cons_succ, List.setIfInBounds_toArray, List.set_cons_zero, List.set_cons_succ]
            replace hS := hS.trans (hbA.mono (Nat.le_refl _))
            clear hbA hkA hsA O0
            simp only [Nat.zero_add, List.nil_append] at O1 ⊢
            refine AnyG.one 6 (by kernel_rfl) rfl ?_
            intro K hK
            refine wp_append_g _ _ _ rfl w7.heap.size 3 i0 (.int .i64 0) 1 8 Try.underlying24 HZ.out.1 HZ.out.2.1 HZ.out.2.2.1 HZ.out.2.2.2 rfl (by decide) (.slice ao x.t.sy.length c2) x.t.sy.length (ivh x.t.sy) rfl O1 (some ⟨y.g, 0, none⟩) y.t.sy.length _ (ivh y.t.sy) rfl (by rw [length_ivh, Nat.mul_one]) (fun _ => ⟨_, rfl, sy_src SY.out hS⟩) (one_ivh _) (by unfold maxLen; omega) (by omega) hS.size ?_
            intro ab cb w8 O2 hbB hkB hsB
            refine hK.out _ _ (fun _ => hS.trans (hbB.mono (Nat.le_refl _))) ?_
            clear hK K
            try simp only [Act.put, List.getElem_toArray, List.getElem_cons_zero, List.getElem_cons_succ, List.setIfInBounds_toArray, List.set_cons_zero, List.set_cons_succ]
            replace hS := hS.trans (hbB.mono (Nat.le_refl _))
            clear hbB hkB hsB O1
            refine AnyG.takeW 7 (v := ?vv5) rfl (by kernel_rfl) (by kernel_rfl) (by kernel_rfl) (fun _ _ _ h => h) ?hy5 (by rfl) ?rest5
            case hy5 =>
              intro w0
              go_simp
              try with_reducible rfl
            simp only [Act.put, List.getElem_toArray, List.getElem_cons_zero, List.getElem_cons_succ, List.setIfInBounds_toArray, List.set_cons_zero, List.set_cons_succ]
            refine AnyG.done (by kernel_rfl) ?_ _
            obtain ⟨nb, hnb⟩ : ∃ nb, Hid (nb = x.t.sy.length + y.t.sy.length) := ⟨_, rfl⟩
            rw [← hnb.out] at O2 s256 ⊢
            rw [ivh_append] at O2
            have nb0 : 0 < nb := by rw [hnb.out]; omega
            obtain ⟨gb, c', e⟩ := owns_slice O2 nb0
            simp only [Value.slice.injEq, true_and] at e
            obtain ⟨rfl, rfl⟩ := e
            obtain ⟨bo, hbo⟩ : ∃ bo, Hid (bo = x.t.sy ++ y.t.sy) := ⟨_, rfl⟩
            rw [← hbo.out] at O2 sm
            have hbl : Hid (bo.length = nb) := by show bo.length = nb; rw [hbo.out, List.length_append, hnb.out]
            have HI8 := hide (HI7.out.keep hS)
            have HO8 := hide (owns_low O2 (show go + 1 ≤ w7.heap.size from HI7.out.out.lt))
            have B98 := hide (B9.out.kept hS)
            have B118 := hide (B11.out.kept hS)
            clear O2 hS HI7 B9 B11 SX SY
            go_wp2
            go_loopw [13] (fun vk wr => ∃ k : Nat, k ≤ nb ∧ vk = .int .i64 k ∧ Hid (Only go w8 wr ∧ Cel wr go (ivh (dls (bump d (bo.take k)))) 3)) (fun vk _ => nb - (intOf vk).toNat)
            case atStart => exact ⟨0, Nat.zero_le _, rfl, Only.refl _ _, by rw [List.take_zero, bump_nil]; exact HI8.out.out⟩
            case round =>
              obtain ⟨k, hk, rfl, HK⟩ := hrel
              by_cases hkl : k < nb
              · have hkz : (k : Int) < (nb : Int) := by omega
                obtain ⟨u, hu⟩ : ∃ u, Hid (u = bo.getD k 0) := ⟨_, rfl⟩
                have kb : k < bo.length := by rw [hbl.out]; exact hkl
                have u256 : u < 256 := by
                  rw [hu.out]
                  refine sm.out _ ?_
                  rw [List.getD_eq_getElem?_getD, List.getElem?_eq_getElem kb]
                  exact List.getElem_mem kb
                have e1 : wr.cell? ⟨gb, k, none⟩ = some (.int .i64 (u : Nat)) := by
                  obtain ⟨h1, h2⟩ := owns_cells HO8.out
                  have h3 := h2 k _ (ivh_get bo k kb)
                  rw [← hu.out] at h3
                  have hne : gb ≠ go := by
                    obtain ⟨_, ⟨h, _⟩ | ⟨g', cap', cur, e1, e2, _⟩⟩ := HO8.out
                    · cases h
                    · simp only [Value.slice.injEq, Option.some.injEq, Addr.mk.injEq] at e1; omega
                  exact (HK.out.1.cell (p := ⟨gb, k, none⟩) hne).trans h3
                have n0 := HK.out.2.cell u (ivh_get _ _ (by rw [length_dls]; exact u256))
                rw [dls_at _ _ u256] at n0
                have f0 := HK.out.2.frozen u
                have hbd : bump d (bo.take k) u ≤ 131072 := by
                  have h1 := bump_le d (bo.take k) u
                  have h2 := HD.out u
                  have h3 : (bo.take k).length ≤ 256 := by rw [List.length_take, hbl.out]; omega
                  have h4 : (n - 256) * 256 ≤ 256 * 256 := Nat.mul_le_mul_right _ (by omega)
                  omega
                have uz : (u : Int) < 256 := by omega
                have HK1 : Hid (Only go w8 (wr.setCell ⟨go, u, none⟩ (.int .i64 ((bump d (bo.take k) u + 1 : Nat) : Int))) ∧ Cel (wr.setCell ⟨go, u, none⟩ (.int .i64 ((bump d (bo.take k) u + 1 : Nat) : Int))) go (ivh (dls (bump d (bo.take (k + 1))))) 3) := by
                  refine ⟨HK.out.1.set u _, ?_⟩
                  have h1 := HK.out.2.set u (.int .i64 ((bump d (bo.take k) u + 1 : Nat) : Int))
                  have h2 := bump_step d bo k kb (by rw [← hu.out]; exact u256)
                  rw [← hu.out] at h2
                  rw [ivh_set, h2] at h1
                  exact h1
                clear HK kb
                generalize bump d (bo.take k) u = y0 at *
                go_wp2
                exact ⟨⟨k + 1, by omega, by go_num, HK1⟩, by simp only [intOf]; omega⟩
              · obtain rfl : k = nb := by omega
                have HI9 : Hid (LI w wr go (.slice a7 L2.length c7) L2 (bump d bo)) := by
                  have h2 := HK.out.2
                  rw [List.take_of_length_le (by rw [hbl.out]; exact Nat.le_refl _)] at h2
                  exact HI8.out.outs HK.out.1 h2
                have HO10 : Hid (∀ o, (wr.alloc o).ownsRow (go + 1) 3 1 (.slice (some ⟨gb, 0, none⟩) (x.t.sy ++ y.t.sy).length cb) (x.t.sy ++ y.t.sy).length (ivh (x.t.sy ++ y.t.sy))) := by
                  rw [← hbo.out, hbl.out]
                  exact fun o => owns_keep (owns_only HK.out.1 HO8.out (by omega)) (below_alloc wr o)
                have b9 : wr.cell? ⟨g9, 1, none⟩ = some (.int .i64 (x.t.wt : Nat)) := (HK.out.1.cel B98.out (cel_ne B98.out HI8.out.out (by decide))).cell 1 rfl
                have b11 : wr.cell? ⟨g11, 1, none⟩ = some (.int .i64 (y.t.wt : Nat)) := (HK.out.1.cel B118.out (cel_ne B118.out HI8.out.out (by decide))).cell 1 rfl
                obtain ⟨W, hW⟩ : ∃ W, Hid (W = x.t.wt + y.t.wt) := ⟨_, rfl⟩
                have eW : ((x.t.wt : Nat) : Int) + ((y.t.wt : Nat) : Int) = ((W : Nat) : Int) := by rw [hW.out]; omega
                have W28 : W ≤ 268435456 := by rw [hW.out]; exact w28
                have HZZ : Hid ([.int .i64 (n : Nat), .int .i64 (W : Nat), .slice (some ⟨gb, 0, none⟩) k cb] = tbc (⟨⟨n, x.t.wt + y.t.wt, x.t.sy ++ y.t.sy⟩, gb, cb⟩ : TB)) := by
                  show _ = tbc _
                  unfold tbc
                  rw [hW.out, ← hbo.out, hbl.out]
                have h2T : 2 ≤ T.length := by rw [HTL.out]; omega
                have hn512 : n + 2 ≤ 512 := by have := HT.out.ids; omega
                have HT10 : Hid (TI ((L2 ++ [(⟨⟨n, x.t.wt + y.t.wt, x.t.sy ++ y.t.sy⟩, gb, cb⟩ : TB)]).map TB.t) (n + 1)) := by rw [(HNX.out gb cb).2.2]; exact HT.out.next h2T
                have HH10 : Hid (run (512 - (n + 1)) (n + 1) ((L2 ++ [(⟨⟨n, x.t.wt + y.t.wt, x.t.sy ++ y.t.sy⟩, gb, cb⟩ : TB)]).map TB.t) (bump d bo) = hlen cnt 256) := by
                  have e := run_step (d := d) h2T (show n < 512 by omega)
                  rw [← (HNX.out 0 0).1, ← (HNX.out 0 0).2.1, ← hbo.out] at e
                  rw [(HNX.out gb cb).2.2, ← e]
                  exact HH.out
                have HD10 : Hid (∀ c, bump d bo c ≤ (n + 1 - 256) * 256) := fun c => by
                  have h1 := bump_le d bo c
                  have h2 := HD.out c
                  have h3 := hbl.out
                  rw [show n + 1 - 256 = (n - 256) + 1 by omega, Nat.add_mul]
                  omega
                obtain ⟨hj', hy0, hy1, hy2⟩ := HJ.out
                have hgw : go + 1 ≤ wr.heap.size := HI9.out.out.lt
                have R1 : Hid (∀ o, (wr.alloc o).ownsRow (go + 1) 104 3 (.slice a7 L2.length c7) L2.length (tbs L2)) := fun o => owns_keep HI9.out.row (below_alloc wr o)
                have S1 := cel_src (Cel.new wr [.int .i64 (n : Nat), .int .i64 (W : Nat), .slice (some ⟨gb, 0, none⟩) k cb] 104)
                clear HK HI8 B98 B118 HNX HT HH HD hW h2T
                go_wp2_with (at_builtin; refine wpList_append_g (by rfl) _ _ _ (by rfl) (go + 1) 104 j0 TZ 3 40 Try.underlying102 hj' hy0 hy1 hy2 rfl (by decide) (.slice a7 L2.length c7) L2.length (tbs L2) (by rfl) (R1.out _) (some ⟨wr.heap.size, 0, none⟩) 1 1 [.int .i64 (n : Nat), .int .i64 (W : Nat), .slice (some ⟨gb, 0, none⟩) k cb] (by rfl) rfl (fun _ => ⟨_, rfl, S1⟩) (by rw [HZZ.out]; exact one_tbc _) ?c3 ?c4 ?c5 ?_)
                case c3 => unfold maxLen; omega
                case c4 => omega
                case c5 => exact Nat.le_trans hgw (below_alloc wr _).size
                intro a2 c2 w10 O3 hb2 hk2 hs2
                rw [HZZ.out] at O3
                have HI10 := hide (HI9.out.more (⟨⟨n, x.t.wt + y.t.wt, x.t.sy ++ y.t.sy⟩, gb, cb⟩ : TB) (below_alloc wr _) (HO10.out _) O3 (fun k g1 g2 => hk2 k (by simpa using g1) g2) hb2)
                clear O3 hb2 hk2 hs2 S1 R1 HO10 hj' hy0 hy1 hy2 HI9 b9 b11 eW HZZ
                go_wp2
                refine ⟨⟨_, _, _, _, _, _, _, _, _, _, _, _, _, _, _, _, _, _, _, _, _, _, _, _, _, _, _, _, _, _, _, _, _, _, _, _, _, _, _, _, _, _, _, _, _, _, _, _, _, _, _, _, _, _, _, _, _, _, _, _, _, _, _, _, ?rel, rfl⟩, ?meas⟩
                case rel => exact ⟨n + 1, L2 ++ [(⟨⟨n, x.t.wt + y.t.wt, x.t.sy ++ y.t.sy⟩, gb, cb⟩ : TB)], bump d bo, a2, c2, by omega, by omega, by simp; omega, by go_num, by simp, by simpa using HI10, HT10, HH10, HD10⟩
                case meas =>
                  show 512 - (intOf (Value.int .i64 ((n : Int) + 1))).toNat < 512 - (intOf (Value.int .i64 (n : Int))).toNat
                  simp only [intOf]
                  omega
          · have hltz : ¬ (1 : Int) < (L.length : Int) := by omega
            have HO1 : Hid (Cel wr go (ivh (dls (hlen cnt 256))) 3) := by
              have h1 := HH.out
              rw [run_over (by rw [List.length_map]; omega)] at h1
              rw [← h1]
              exact HI.out.out
            go_wp2
            go_ret2
            exact LO.mk go rfl HO1.out hg0 HI.out.bw
end Go.Proofs.Ytckkhmmicbpihaa
