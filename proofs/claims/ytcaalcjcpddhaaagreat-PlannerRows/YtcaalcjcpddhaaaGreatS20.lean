/-
  The contract of the landed nodesOf.
-/
import Derived.Test.YtcaalcjcpddhaaaGreatS19
set_option linter.unusedVariables false
set_option linter.unusedSimpArgs false
set_option maxRecDepth 100000
namespace Go.Proofs.YtcaalcjcpddhaaaGreat.Zz
open Go.RowKit Num Hp
theorem owns_put {w : World} {base e size n g cap j : Nat} {vs : List Value} (h : w.ownsRow base e size (.slice (some ⟨g, 0, none⟩) n cap) n vs) (hj : j < vs.length) (u : Value) : (w.setCell ⟨g, j, none⟩ u).ownsRow base e size (.slice (some ⟨g, 0, none⟩) n cap) n (vs.set j u) := by
 obtain ⟨h1, ⟨h, _⟩ | ⟨g', cap', cur, e1, e2, hh, r1, r2, r3, r4⟩⟩ := h
 ·cases h
 ·simp only [Value.slice.injEq, Option.some.injEq, Addr.mk.injEq] at e1
  obtain ⟨⟨rfl, _, _⟩, _, rfl⟩ := e1
  refine ⟨by rw [List.length_set]; exact h1, .inr ⟨g, cap, cur.setIfInBounds j u, rfl, e2, ?_, r1, r2, by simpa using r3, ?_⟩⟩
  ·simp only [World.setCell, Array.getElem?_modify]
   rw [if_pos trivial, hh]
   simp
  ·rw [← r4, Array.toList_setIfInBounds, List.take_set]
theorem run_mm (t : TypeId) (w : World) : (Instr.makeMap t none).run Tryz.prog w = .ok (.map (some w.heap.size)) (w.alloc (.map #[] 0)) := run_makeMap t w
theorem zero_i64 (w : World) : (zeroValue 3).run Tryz.prog w = .ok (.int .i64 0) w := by kernel_rfl
theorem wpList_mstore {ops : Array Oper} {rest : List Oper} {o : Oper} {a : Act} {w : World} {Q : Exit → Act → World → Prop} {t e : TypeId} (hg : o.guard = none) (m x u : Operand) (hop : o.op = Op.mapUpdate t m x u)
  (b n : Nat) (M : Nat → Nat → Option Value) (L X : Nat) (v : Value) (ht : Tryz.prog.underlying t = some (.map 137 e)) (hm : a.eval m = .map (some b)) (hx : a.eval x = cv L X) (hu : a.eval u = v) (h : CM w b n M) (hn : n < maxLen) (hL : L ≤ 64) (hX : X < 18446744073709551616)
  (hK : ∀ w', CM w' b (n + 1) (cup M L X v) → Only b w w' → wpList Tryz.prog ops Q rest (a.put o.dst undef) w') : wpList Tryz.prog ops Q (o :: rest) a w := by
 refine wpList_plain hg fun K' hK' => ?_
 obtain ⟨w', hrun, r1, r2⟩ := h.store ht hn hL hX v
 unfold Oper.wp
 simp [execOp, hop, hm, hx, hu, hrun, Result.andThen]
 exact hK' _ _ (hK w' r1 r2)
namespace Pn
def ndM (ns : List (Nat × Nat)) : Nat → Nat → Option Value := fun L x => if (L, x) ∈ ns then some (.int .i64 (ns.idxOf (L, x) : Nat)) else none
theorem ndM_nil : ndM [] = fun _ _ => none := by funext L x; unfold ndM; rw [if_neg (by simp)]
theorem ndM_new {ns : List (Nat × Nat)} {L x : Nat} (h : (L, x) ∉ ns) : cup (ndM ns) L x (.int .i64 (ns.length : Nat)) = ndM (ns ++ [(L, x)]) := by
 funext L' x'
 unfold cup ndM
 by_cases e : L' = L ∧ x' = x
 ·obtain ⟨rfl, rfl⟩ := e
  rw [if_pos ⟨rfl, rfl⟩, if_pos (by simp), List.idxOf_append, if_neg h]
  simp
 ·rw [if_neg e]
  by_cases c : (L', x') ∈ ns
  ·rw [if_pos c, if_pos (List.mem_append_left _ c), List.idxOf_append, if_pos c]
  ·rw [if_neg c, if_neg]
   intro g
   rcases List.mem_append.1 g with g | g
   ·exact c g
   ·rw [List.mem_singleton, Prod.mk.injEq] at g
    exact e g
structure NW (w wr : World) (vn : Value) (ns : List (Nat × Nat)) (N O : Nat → Nat) : Prop where
 row : wr.ownsRow (w.heap.size + 1) 139 2 vn ns.length (bl2 ns.length (fun i => .int .i64 (N i : Nat)) (fun i => .int .i64 (O i : Nat)))
 map : CM wr w.heap.size ns.length (ndM ns)
 bel : Below w.heap.size w wr
theorem NW.keep {w wr w2 : World} {vn : Value} {ns : List (Nat × Nat)} {N O : Nat → Nat} (h : NW w wr vn ns N O) (hb : Below wr.heap.size wr w2) : NW w w2 vn ns N O := ⟨Ag.owns_keep h.row hb, h.map.kept hb, h.bel.trans (hb.mono h.bel.size)⟩
theorem pre_half (v k : Nat → Nat) {l q : Nat} (h : l < v q) : Sh.pre v k (l + 1) q / 2 = Sh.pre v k l q := by
 unfold Sh.pre
 rw [Nat.div_div_eq_div_mul, ← Nat.pow_succ]
 show k q / 2 ^ (v q - (l + 1) + 1) = _
 rw [show v q - (l + 1) + 1 = v q - l by omega]
def upd (f : Nat → Nat) (j x : Nat) : Nat → Nat := fun i => if i = j then x else f i
theorem upd_at (f : Nat → Nat) (j x : Nat) : upd f j x j = x := by unfold upd; rw [if_pos rfl]
theorem upd_ne (f : Nat → Nat) (x : Nat) {i j : Nat} (h : i ≠ j) : upd f j x i = f i := by unfold upd; rw [if_neg h]
theorem bl2_upd (m : Nat) (A C : Nat → Nat) (j : Nat) (h : j < m) (a c : Nat) : (((bl2 m (fun i => .int .i64 (A i : Nat)) (fun i => .int .i64 (C i : Nat)))).set (j * 2) (.int .i64 (a : Nat))).set (j * 2 + 1) (.int .i64 (c : Nat)) = (bl2 m (fun i => .int .i64 ((upd A j a) i : Nat)) (fun i => .int .i64 ((upd C j c) i : Nat))) := by
 have e := bl2_set m (fun i => .int .i64 (A i : Nat)) (fun i => .int .i64 (C i : Nat)) (fun i => .int .i64 (upd A j a i : Nat)) (fun i => .int .i64 (upd C j c i : Nat)) j h (fun i hi => by rw [upd_ne A a hi]) (fun i hi => by rw [upd_ne C c hi])
 rw [upd_at, upd_at] at e
 exact e
def ext (f : Nat → Nat) (m : Nat) : Nat → Nat := fun i => if i < m then f i else 0
theorem bl2_ext (m : Nat) (A C : Nat → Nat) : (bl2 m (fun i => .int .i64 (A i : Nat)) (fun i => .int .i64 (C i : Nat))) ++ [.int .i64 0, .int .i64 0] = (bl2 (m + 1) (fun i => .int .i64 ((ext A m) i : Nat)) (fun i => .int .i64 ((ext C m) i : Nat))) := by
 refine List.ext_getElem? fun j => ?_
 by_cases c : j < m * 2
 ·rw [List.getElem?_append_left (by rw [length_bl2]; exact c), bl2_get _ _ _ _ c, bl2_get _ _ _ _ (by omega)]
  unfold ext
  rw [if_pos (show j / 2 < m by omega), if_pos (show j / 2 < m by omega)]
 ·rw [List.getElem?_append_right (by rw [length_bl2]; omega), length_bl2]
  unfold ext
  by_cases d : j = m * 2
  ·subst d
   rw [bl2_get _ _ _ _ (by omega), Nat.sub_self, if_pos (by omega), if_neg (by omega)]
   rfl
  ·by_cases d2 : j = m * 2 + 1
   ·subst d2
    rw [bl2_get _ _ _ _ (by omega), show m * 2 + 1 - m * 2 = 1 by omega, if_neg (by omega), if_neg (by omega)]
    rfl
   ·rw [List.getElem?_eq_none (by simp; omega), List.getElem?_eq_none (by rw [length_bl2]; omega)]
end Pn
set_option maxHeartbeats 8000000 in
theorem pnodes_c (ao : Option Addr) (l0 : List Int) (cap0 gc : Nat) (v : Nat → Nat) (w : World) (hx : Nd w ao l0) (hw : win l0 8192 = true) (ht : Hv.tot (cntOf l0) 256 ≤ 8192) (hc : Cel w gc (cds v) 137) (hv40 : ∀ c, v c ≤ 40) (hkv : ∀ c, cod v c < 2 ^ v c) :
  Calls Tryz.prog 52 #[.slice ao l0.length cap0, .slice (some ⟨gc, 0, none⟩) 256 256] w fun e w' => ∃ vn ns N O, e = .returned vn ∧ w'.ownsRow (w.heap.size + 1) 139 2 vn ns.length (bl2 ns.length (fun i => .int .i64 (N i : Nat)) (fun i => .int .i64 (O i : Nat))) ∧ Pn.Met v (cod v) (cntOf l0) 256 0 ns N O ∧ Below w.heap.size w w' := by
 obtain ⟨i0, hi, hz0, hz1, hz2⟩ := info_parts (show (Tryz.prog.info? 139).map (fun i => (i.zero, i.size, i.bytes)) = some (some (.agg #[.int .i64 0, .int .i64 0]), 2, 16) by kernel_rfl)
 have HI := hide (And.intro hi (And.intro hz0 (And.intro hz1 hz2)))
 obtain ⟨h256, hbd⟩ := win_len hw
 obtain ⟨n, hn⟩ : ∃ n, Hid (n = cntOf l0) := ⟨_, rfl⟩
 obtain ⟨b0, off, rfl, hbw, hcc⟩ := hx (by omega)
 have HCC : Hid (∀ i, i < 256 → w.cell? ⟨b0, off + i, none⟩ = some (.int .i64 (n i : Nat)) ∧ n i ≤ 8192) := fun i hi => by
  have h1 := hcc i (by omega)
  have h2 := hbd i (by omega)
  rw [hn.out]
  unfold cntOf
  refine ⟨?_, by omega⟩
  rw [h1]
  congr 2
  omega
 rw [← hn.out] at ht ⊢
 obtain ⟨k, hk⟩ : ∃ k, Hid (k = cod v) := ⟨_, rfl⟩
 have HCD : Hid (∀ i, i < 256 → w.cell? ⟨gc, i * 2, none⟩ = some (.int .i64 (v i : Nat)) ∧ w.cell? ⟨gc, i * 2 + 1, none⟩ = some (.int .u64 (k i : Nat))) := fun i hi => by
  rw [hk.out]
  exact ⟨hc.cell (i * 2) (bl2_fst _ _ _ _ hi), hc.cell (i * 2 + 1) (bl2_snd _ _ _ _ hi)⟩
 have hgc := hc.lt
 rw [← hk.out] at hkv ⊢
 have HV := hide hv40
 have HK := hide hkv
 have HT := hide ht
 have HMM := hide (run_mm 141 w)
 have H0 : Hid (Pn.NW w (w.alloc (.map #[] 0)) (.slice none 0 0) [] (fun _ => 0) (fun _ => 0)) := ⟨⟨rfl, .inl ⟨rfl, rfl⟩⟩, by rw [Pn.ndM_nil]; exact CM.made w, below_alloc w _⟩
 rw [h256]
 clear hcc hbd h256 hx hw ht hn hc hk hv40 hkv hi hz0 hz1 hz2
 have hmm := HMM.out
 go_enter Tryz.func52, Tryz.ntmps52
 go_wp2
 clear hmm HMM
 go_loopw [6, 17] (fun vn vq wr => ∃ q ns N O, q ≤ 256 ∧ vq = .int .i64 (q : Nat) ∧ Hid (Pn.Met v k n q 0 ns N O) ∧ Hid (Pn.NW w wr vn ns N O)) (fun _ vq _ => 256 - (intOf vq).toNat)
 case atStart => exact ⟨0, [], fun _ => 0, fun _ => 0, Nat.zero_le _, rfl, Pn.Met.start v k n _ _, H0⟩
 case round =>
  clear H0
  obtain ⟨q, ns, N, O, hq, rfl, HM, HW⟩ := hrel
  by_cases hlq : q < 256
  ·have hlqz : (q : Int) < 256 := by omega
   have e0 := (HW.out.bel.cell (p := ⟨gc, q * 2, none⟩) hgc).trans (HCD.out q hlq).1
   have e1 := (HW.out.bel.cell (p := ⟨gc, q * 2 + 1, none⟩) hgc).trans (HCD.out q hlq).2
   have v40 := HV.out q
   have kq := HK.out q
   have k40 : k q < 1099511627776 := Nat.lt_of_lt_of_le kq (Nat.le_trans (Nat.pow_le_pow_right (by decide) v40) (by decide))
   have HKQ := hide kq
   obtain ⟨gb, hgb⟩ : ∃ gb, Hid (gb = wr.heap.size) := ⟨_, rfl⟩
   have HBX : Hid (Cel (wr.alloc (.cells #[.int .i64 (v q : Int), .int .u64 (k q : Int)] 137)) gb [.int .i64 (v q : Nat), .int .u64 (k q : Nat)] 137) := by show Cel _ _ _ _; rw [hgb.out]; exact Cel.new wr _ _
   have HWA := hide (HW.out.keep (below_alloc wr (.cells #[.int .i64 (v q : Int), .int .u64 (k q : Int)] 137)))
   have HNE : Hid (u6.ownBlock ≠ some gb) := fun h => by have := (HW.out.row.lt gb h).2; rw [hgb.out] at this; exact Nat.lt_irrefl _ this
   have hgbz : Hid (w.heap.size < gb) := by show _ < _; rw [hgb.out]; exact HW.out.map.lt
   have bx0 := HBX.out.cell 0 rfl
   have HME : Hid (∀ L, Sh.pre v k L q = k q / 2 ^ (v q - L)) := fun L => rfl
   obtain ⟨vq, hvq⟩ : ∃ vq, Hid (vq = v q) := ⟨_, rfl⟩
   obtain ⟨kq2, hkq⟩ : ∃ kq2, Hid (kq2 = k q) := ⟨_, rfl⟩
   rw [← hvq.out] at e0 v40 HKQ HBX HWA bx0 HME
   rw [← hkq.out] at e1 k40 HKQ HBX HWA bx0 HME
   rw [hgb.out] at bx0
   clear kq HW
   go_wp2
   rw [← hgb.out]
   clear bx0 e0 e1
   go_loopw [6, 24] (fun vn vl wi => ∃ l ns N O, l ≤ vq ∧ vl = .int .i64 (l : Nat) ∧ Hid (Pn.Met v k n q l ns N O) ∧ Hid (Pn.NW w wi vn ns N O) ∧ Hid (Cel wi gb [.int .i64 (vq : Nat), .int .u64 (kq2 : Nat)] 137) ∧ Hid (vn.ownBlock ≠ some gb)) (fun _ vl _ => vq - (intOf vl).toNat)
   case atStart => exact ⟨0, ns, N, O, Nat.zero_le _, rfl, HM, HWA, HBX, HNE⟩
   case round =>
    clear HM HWA HBX HNE hgb
    clear ns N O
    obtain ⟨l, ns, N, O, hl, rfl, HM, HW, HBX, HNE⟩ := hrel
    by_cases hll : l < vq
    ·have hllz : (l : Int) < (vq : Int) := by omega
     have hlv : Hid (l < v q) := by show _ < _; rw [← hvq.out]; exact hll
     obtain ⟨T, hT⟩ : ∃ T, Hid (T = vq - l) := ⟨_, rfl⟩
     obtain ⟨d, hd⟩ : ∃ d, Hid (d = vq - (l + 1)) := ⟨_, rfl⟩
     have tz : ((vq : Nat) : Int) - (l : Int) = (T : Int) := by have := hT.out; omega
     have tz1 : (T : Int) - 1 = (d : Int) := by have := hT.out; have := hd.out; omega
     have T40 : T ≤ 40 := by have := hT.out; omega
     have d40 : d ≤ 40 := by have := hd.out; omega
     obtain ⟨y, hy⟩ : ∃ y, Hid (y = Sh.pre v k (l + 1) q) := ⟨_, rfl⟩
     obtain ⟨x, hx⟩ : ∃ x, Hid (x = Sh.pre v k l q) := ⟨_, rfl⟩
     have hyk : y ≤ kq2 := by rw [hy.out, HME.out]; exact Nat.div_le_self _ _
     have ey : (kq2 : Int) / 2 ^ d = (y : Int) := by rw [hy.out, HME.out, ← hd.out, Int.natCast_ediv, Int.natCast_pow]; rfl
     have hxy : Hid (y / 2 = x) := by show _ = _; rw [hy.out, hx.out]; exact Pn.pre_half v k hlv.out
     have ex : (y : Int) / 2 = (x : Int) := by have := hxy.out; omega
     have hx64 : x < 18446744073709551616 := by have := hxy.out; omega
     have bx0 := HBX.out.cell 0 rfl
     have bx1 := HBX.out.cell 1 rfl
     obtain ⟨U1, hU1⟩ : ∃ U1, Hid (U1 = wr.alloc (.cells #[.int .i64 (l : Int), .int .u64 (x : Int)] 137)) := ⟨_, rfl⟩
     have HW1 : Hid (Pn.NW w U1 u6 ns N O) := by show Pn.NW _ _ _ _ _ _; rw [hU1.out]; exact HW.out.keep (below_alloc wr _)
     have HBX1 : Hid (Cel U1 gb [.int .i64 (vq : Nat), .int .u64 (kq2 : Nat)] 137) := by show Cel _ _ _ _; rw [hU1.out]; exact HBX.out.alloc _
     have HX1 : Hid (Cel U1 wr.heap.size [.int .i64 (l : Nat), .int .u64 (x : Nat)] 137) := by show Cel _ _ _ _; rw [hU1.out]; exact Cel.new wr _ _
     have HXS : Hid (U1.heap.size = wr.heap.size + 1) := by show _ = _; rw [hU1.out]; simp
     have hnq := (HCC.out q hlq).2
     have hbd := hide (fun i (hi : i < ns.length) => HM.out.bd HT.out (by omega) (fun h => absurd h (by omega)) hi)
     have hlen := HM.out.len HK.out HV.out hlq
     have HLK : Hid ((Instr.lookup 141 (.map (some w.heap.size)) (.agg #[.int .i64 (l : Int), .int .u64 (x : Int)]) true).run Tryz.prog U1 = .ok (.tuple #[((Pn.ndM ns) l x).getD (.int .i64 0), .bool ((Pn.ndM ns) l x).isSome]) U1) := HW1.out.map.look_ok Tryz.underlying141 (zero_i64 U1) (L := l) (x := x) (by omega) hx64
     obtain ⟨e, he⟩ : ∃ e, e = y % 2 := ⟨_, rfl⟩
     have ee : Hid (bits BinOp.and IntKind.u64 (y : Int) 1 = (e : Int)) := by show _ = _; rw [he, and_one_u64 _ (by omega) (by omega)]; omega
     obtain ⟨t, htt⟩ : ∃ t, Hid (t = decide (e = 1)) := ⟨_, rfl⟩
     have et : Hid (((e : Int) == 1) = t) := by
      show _ = _
      rw [htt.out, Bool.eq_iff_iff]
      simp
      omega
     have HMU : Hid ((if t = true then n q else 0) = n q * (Sh.pre v k (l + 1) q % 2)) := by
      show _ = _
      rw [htt.out, ← hy.out, ← he]
      have : e = 0 ∨ e = 1 := by omega
      rcases this with rfl | rfl
      ·simp
      ·simp
     clear he HW HBX hT hd hxy
     cases hmem : decide ((l, x) ∈ ns) with
     | true =>
      have hm := of_decide_eq_true hmem
      obtain ⟨j, hj⟩ : ∃ j, Hid (j = ns.idxOf (l, x)) := ⟨_, rfl⟩
      have hLK := HLK.out
      unfold Pn.ndM at hLK
      rw [if_pos hm, ← hj.out] at hLK
      simp only [Option.getD_some, Option.isSome_some] at hLK
      have hjm : j < ns.length := by rw [hj.out]; exact List.idxOf_lt_length_of_mem hm
      have hat : Hid (ns[j]? = some (l, Sh.pre v k l q)) := by show _ = _; rw [← hx.out, hj.out, List.getElem?_eq_getElem (List.idxOf_lt_length_of_mem hm), List.getElem_idxOf]
      obtain ⟨hh1, ⟨_, h⟩ | ⟨g, cap, cur, rfl, eb, _⟩⟩ := id HW1.out.row
      ·omega
      have HROW := hide HW1.out.row
      have hgm : Hid (w.heap.size < g) := by show _ < _; omega
      have hbj := hbd.out j hjm
      have hneg : Hid (g ≠ gb) := fun h => HNE.out (by rw [h]; rfl)
      have CW := hide fun w0 => pwith_c (N j) (O j) (n q) t (by omega) (by omega) (by omega) w0
      obtain ⟨x1, hx1⟩ : ∃ x, Hid (x = N j + n q) := ⟨_, rfl⟩
      obtain ⟨x2, hx2⟩ : ∃ x, Hid (x = O j + (if t = true then n q else 0)) := ⟨_, rfl⟩
      rw [← hx1.out, ← hx2.out] at CW
      have HSET := hide (Pn.bl2_upd ns.length N O j hjm x1 x2)
      have HMN : Hid (Pn.Met v k n q (l + 1) ns (Pn.upd N j x1) (Pn.upd O j x2)) := HM.out.old hlv.out hat.out (by rw [Pn.upd_at, hx1.out]) (by rw [Pn.upd_at, hx2.out, HMU.out]) (fun i hi => Pn.upd_ne N x1 hi) (fun i hi => Pn.upd_ne O x2 hi)
      have k0 := hide ((Ag.owns_cells HROW.out).2 (j * 2) _ (bl2_fst _ _ _ _ hjm))
      have k1 := hide ((Ag.owns_cells HROW.out).2 (j * 2 + 1) _ (bl2_snd _ _ _ _ hjm))
      have kc := hide ((HW1.out.bel.cell (p := ⟨b0, off + q, none⟩) hbw).trans (HCC.out q hlq).1)
      have hgU := hide (Ag.owns_cells HROW.out).1
      have hbU : Hid (b0 < U1.heap.size) := Nat.lt_of_lt_of_le hbw HW1.out.bel.size
      have c10 := HX1.out.cell 0 rfl
      have c11 := HX1.out.cell 1 rfl
      have hjmz : (j : Int) < (ns.length : Int) := by omega
      rw [hU1.out] at hLK c10 c11
      clear HM HLK hbd hm hh1 eb
      go_wp2_with fail
      rw [← hU1.out]
      clear hLK c10 c11 hU1 bx0 bx1
      generalize N j = A at *
      generalize O j = C at *
      generalize n q = c at *
      refine region_g [15] (fun w' => Below U1.heap.size U1 w') (by kernel_rfl) ?_
      have hS : (fun w' => Below U1.heap.size U1 w') U1.drew := (Below.refl _ _).drew
      generalize U1.drew = V at *
      refine AnyG.take 0 (v := ?vv1) rfl (by kernel_rfl) (by kernel_rfl) (by kernel_rfl) (by kernel_rfl) (fun _ _ _ h => h) hS ?hy1 (by rfl) ?rest1
      case hy1 =>
       intro w0 h0
       go_simp
       try with_reducible rfl
      simp only [Act.put, yq0, yq1, yq2, yq3, yq4, yq5]
      refine AnyG.take 1 (v := ?vv2) rfl (by kernel_rfl) (by kernel_rfl) (by kernel_rfl) (by kernel_rfl) (fun _ _ _ h => h) hS ?hy2 (by rfl) ?rest2
      case hy2 =>
       intro w0 h0
       go_simp
       try with_reducible rfl
      simp only [Act.put, yq0, yq1, yq2, yq3, yq4, yq5]
      refine AnyG.take 2 (v := ?vv3) rfl (by kernel_rfl) (by kernel_rfl) (by kernel_rfl) (by kernel_rfl) (fun _ _ _ h => h) hS ?hy3 (by rfl) ?rest3
      case hy3 =>
       intro w0 h0
       go_simp
       try with_reducible rfl
      simp only [Act.put, yq0, yq1, yq2, yq3, yq4, yq5]
      refine AnyG.take 3 (v := ?vv4) rfl (by kernel_rfl) (by kernel_rfl) (by kernel_rfl) (by kernel_rfl) (fun _ _ _ h => h) hS ?hy4 (by rfl) ?rest4
      case hy4 =>
       intro w0 h0
       go_simp
       try with_reducible rfl
      simp only [Act.put, yq0, yq1, yq2, yq3, yq4, yq5]
      refine AnyG.take 4 (v := ?vv5) rfl (by kernel_rfl) (by kernel_rfl) (by kernel_rfl) (by kernel_rfl) (fun _ _ _ h => h) hS ?hy5 (by rfl) ?rest5
      case hy5 =>
       intro w0 h0
       go_simp
       try with_reducible rfl
      simp only [Act.put, yq0, yq1, yq2, yq3, yq4, yq5]
      refine AnyG.take 5 (v := ?vv6) rfl (by kernel_rfl) (by kernel_rfl) (by kernel_rfl) (by kernel_rfl) (fun _ _ _ h => h) hS ?hy6 (by rfl) ?rest6
      case hy6 =>
       intro w0 h0
       have d0 := (h0.cell (p := ⟨g, j * 2, none⟩) hgU.out).trans k0.out
       have d1 := (h0.cell (p := ⟨g, j * 2 + 1, none⟩) hgU.out).trans k1.out
       go_simp
       try with_reducible rfl
      simp only [Act.put, yq0, yq1, yq2, yq3, yq4, yq5]
      refine AnyG.take 6 (v := ?vv7) rfl (by kernel_rfl) (by kernel_rfl) (by kernel_rfl) (by kernel_rfl) (fun _ _ _ h => h) hS ?hy7 (by rfl) ?rest7
      case hy7 =>
       intro w0 h0
       go_simp
       try with_reducible rfl
      simp only [Act.put, yq0, yq1, yq2, yq3, yq4, yq5]
      refine AnyG.take 7 (v := ?vv8) rfl (by kernel_rfl) (by kernel_rfl) (by kernel_rfl) (by kernel_rfl) (fun _ _ _ h => h) hS ?hy8 (by rfl) ?rest8
      case hy8 =>
       intro w0 h0
       go_simp
       try with_reducible rfl
      simp only [Act.put, yq0, yq1, yq2, yq3, yq4, yq5]
      refine AnyG.take 8 (v := ?vv9) rfl (by kernel_rfl) (by kernel_rfl) (by kernel_rfl) (by kernel_rfl) (fun _ _ _ h => h) hS ?hy9 (by rfl) ?rest9
      case hy9 =>
       intro w0 h0
       go_simp
       try with_reducible rfl
      simp only [Act.put, yq0, yq1, yq2, yq3, yq4, yq5]
      refine AnyG.take 9 (v := ?vv10) rfl (by kernel_rfl) (by kernel_rfl) (by kernel_rfl) (by kernel_rfl) (fun _ _ _ h => h) hS ?hy10 (by rfl) ?rest10
      case hy10 =>
       intro w0 h0
       have dc := (h0.cell (p := ⟨b0, off + q, none⟩) hbU.out).trans kc.out
       go_simp
       try with_reducible rfl
      simp only [Act.put, yq0, yq1, yq2, yq3, yq4, yq5]
      refine AnyG.take 10 (v := ?vv11) rfl (by kernel_rfl) (by kernel_rfl) (by kernel_rfl) (by kernel_rfl) (fun _ _ _ h => h) hS ?hy11 (by rfl) ?rest11
      case hy11 =>
       intro w0 h0
       go_simp
       try with_reducible rfl
      simp only [Act.put, yq0, yq1, yq2, yq3, yq4, yq5]
      refine AnyG.take 11 (v := .int .u64 (e : Int)) rfl (by kernel_rfl) (by kernel_rfl) (by kernel_rfl) (by kernel_rfl) (fun _ _ _ h => h) hS ?hy12 (by rfl) ?rest12
      case hy12 =>
       intro w0 h0
       have ee2 := ee.out
       go_simp
       try with_reducible rfl
       try (rw [IntKind.wrap_i64]; omega)
      simp only [Act.put, yq0, yq1, yq2, yq3, yq4, yq5]
      refine AnyG.take 12 (v := .bool t) rfl (by kernel_rfl) (by kernel_rfl) (by kernel_rfl) (by kernel_rfl) (fun _ _ _ h => h) hS ?hy13 (by rfl) ?rest13
      case hy13 =>
       intro w0 h0
       have et2 := et.out
       go_simp
       try with_reducible rfl
       try (rw [IntKind.wrap_i64]; omega)
      simp only [Act.put, yq0, yq1, yq2, yq3, yq4, yq5]
      refine AnyG.one 13 (by kernel_rfl) rfl ?_
      intro K hK
      go_simp
      refine (CW.out _).mono ?_
      rintro _ v1 ⟨rfl, hb⟩
      have hS1 : (fun w' => Below U1.heap.size U1 w') v1 := hS.trans (hb.mono hS.size)
      clear hb hS
      refine hK.out _ _ (fun _ => hS1) ?_
      clear hK K
      try simp only [Act.put, yq0, yq1, yq2, yq3, yq4, yq5]
      refine AnyG.take 14 (v := ?vv14) rfl (by kernel_rfl) (by kernel_rfl) (by kernel_rfl) (by kernel_rfl) (fun _ _ _ h => h) hS1 ?hy14 (by rfl) ?rest14
      case hy14 =>
       intro w0 h0
       go_simp
       try with_reducible rfl
      simp only [Act.put, yq0, yq1, yq2, yq3, yq4, yq5]
      refine AnyG.one 15 (by kernel_rfl) rfl ?_
      intro K hK
      have HR := Ag.owns_keep HROW.out hS1
      have c0 := (hS1.cell (p := ⟨g, j * 2, none⟩) hgU.out).trans k0.out
      have c1 := (hS1.cell (p := ⟨g, j * 2 + 1, none⟩) hgU.out).trans k1.out
      have f0 := Ag.owns_frozen HR (j * 2)
      have f1 := Ag.owns_frozen HR (j * 2 + 1)
      have HR1 := owns_put HR (j := j * 2) (by rw [length_bl2]; omega) (.int .i64 (x1 : Nat))
      have f2 := Ag.owns_frozen HR1 (j * 2 + 1)
      have c2 := (Ag.owns_cells HR1).2 (j * 2 + 1) _ ((List.getElem?_set_ne (by omega)).trans (bl2_snd _ _ _ _ hjm))
      have HR2 := owns_put HR1 (j := j * 2 + 1) (by rw [List.length_set, length_bl2]; omega) (.int .i64 (x2 : Nat))
      rw [HSET.out] at HR2
      have HO : Hid (Only g v1 ((v1.setCell ⟨g, j * 2, none⟩ (.int .i64 (x1 : Nat))).setCell ⟨g, j * 2 + 1, none⟩ (.int .i64 (x2 : Nat)))) := ((Only.refl g v1).set _ _).set _ _
      have HRF := hide HR2
      have HBF := hide hS1
      clear HR HR1 HR2
      go_simp
      refine hK.out _ _ (fun h => absurd (by decide) h) ?_
      clear hK K
      try simp only [Act.put, yq0, yq1, yq2, yq3, yq4, yq5]
      refine AnyG.done (by kernel_rfl) ?_ _
      generalize (v1.setCell ⟨g, j * 2, none⟩ (.int .i64 (x1 : Nat))).setCell ⟨g, j * 2 + 1, none⟩ (.int .i64 (x2 : Nat)) = v2 at *
      clear hS1 f0 f1 f2 c0 c1 c2
      have HNW : Hid (Pn.NW w v2 (.slice (some ⟨g, 0, none⟩) ns.length cap) ns (Pn.upd N j x1) (Pn.upd O j x2)) := by
       have hgm := hgm.out
       refine ⟨?_, ?_, ?_⟩
       ·exact HRF.out
       ·exact ((HW1.out.map.kept HBF.out).only HO.out (by omega))
       ·exact (HW1.out.bel.trans (HBF.out.mono HW1.out.bel.size)).trans (HO.out.below (by omega))
      have HBN : Hid (Cel v2 gb [.int .i64 (vq : Nat), .int .u64 (kq2 : Nat)] 137) := HO.out.cel (HBX1.out.kept HBF.out) (Ne.symm hneg.out)
      have HNN : Hid ((Value.slice (some ⟨g, 0, none⟩) ns.length cap).ownBlock ≠ some gb) := HNE.out
      clear HRF HBF HO HW1 HBX1 HNE HROW k0 k1 kc
      go_wp2
      exact ⟨⟨l + 1, ns, Pn.upd N j x1, Pn.upd O j x2, by omega, by go_num, HMN, HNW, HBN, HNN⟩, by simp only [intOf]; omega⟩
     | false =>
      have hm := of_decide_eq_false hmem
      have hLK := HLK.out
      unfold Pn.ndM at hLK
      rw [if_neg hm] at hLK
      simp only [Option.getD_none, Option.isSome_none] at hLK
      obtain ⟨a6, c6, rfl⟩ : ∃ a c, u6 = .slice a ns.length c := by
       rcases HW1.out.row.2 with ⟨h, h2⟩ | ⟨g, cap, _, h, _⟩
       ·exact ⟨none, 0, by rw [h, h2]⟩
       ·exact ⟨_, cap, h⟩
      have CW := hide fun (A C : Nat) (hA : A = 0) (hC : C = 0) w0 => pwith_c A C (n q) t (by omega) (by omega) (by omega) w0
      obtain ⟨A, hA⟩ : ∃ A : Nat, A = 0 := ⟨_, rfl⟩
      obtain ⟨C, hC⟩ : ∃ C : Nat, C = 0 := ⟨_, rfl⟩
      replace CW := hide (CW.out A C hA hC)
      obtain ⟨x1, hx1⟩ : ∃ x, Hid (x = A + n q) := ⟨_, rfl⟩
      obtain ⟨x2, hx2⟩ : ∃ x, Hid (x = C + (if t = true then n q else 0)) := ⟨_, rfl⟩
      rw [← hx1.out, ← hx2.out] at CW
      have HSET := hide (Pn.bl2_upd (ns.length + 1) (Pn.ext N ns.length) (Pn.ext O ns.length) ns.length (Nat.lt_succ_self _) x1 x2)
      have hel : ∀ f : Nat → Nat, ∀ i, i < ns.length → Pn.ext f ns.length i = f i := fun f i hi => by unfold Pn.ext; rw [if_pos hi]
      have hez : ∀ f : Nat → Nat, Pn.ext f ns.length ns.length = 0 := fun f => by unfold Pn.ext; rw [if_neg (Nat.lt_irrefl _)]
      have HMN : Hid (Pn.Met v k n q (l + 1) (ns ++ [(l, Sh.pre v k l q)]) (Pn.upd (Pn.ext N ns.length) ns.length x1) (Pn.upd (Pn.ext O ns.length) ns.length x2)) := HM.out.new hlv.out (by rw [← hx.out]; exact hm) (by rw [Pn.upd_at, hx1.out, hA, Nat.zero_add]) (by rw [Pn.upd_at, hx2.out, HMU.out, hC, Nat.zero_add]) (fun i hi => by rw [Pn.upd_ne _ _ (Nat.ne_of_lt hi), hel N i hi]) (fun i hi => by rw [Pn.upd_ne _ _ (Nat.ne_of_lt hi), hel O i hi])
      have HWa : Hid (Pn.NW w (wr.alloc (.cells #[.int .i64 (l : Int), .int .u64 (x : Int)] 137)) (.slice a6 ns.length c6) ns N O) := by show Pn.NW _ _ _ _ _ _; rw [← hU1.out]; exact HW1.out
      have HBXa : Hid (Cel (wr.alloc (.cells #[.int .i64 (l : Int), .int .u64 (x : Int)] 137)) gb [.int .i64 (vq : Nat), .int .u64 (kq2 : Nat)] 137) := by show Cel _ _ _ _; rw [← hU1.out]; exact HBX1.out
      have c10 := HX1.out.cell 0 rfl
      have c11 := HX1.out.cell 1 rfl
      rw [hU1.out] at hLK c10 c11
      have HK0 := hide (fun f => hez f)
      have HNEW := hide (Pn.ndM_new hm)
      clear HM HLK hbd hel hez hm HW1 HBX1 HX1
      go_wp2_with (refine wpList_mstore (by rfl) _ _ _ (by rfl) w.heap.size ns.length (Pn.ndM ns) l x (.int .i64 (ns.length : Nat)) Tryz.underlying141 (by rfl) (by rfl) (by rfl) HWa.out.map (by unfold maxLen; omega) (by omega) hx64 ?_)
      intro w2 hcm ho2
      have hcm2 := hide hcm
      rw [HNEW.out] at hcm2
      have hgm0 : Hid (∀ kk, (Value.slice a6 ns.length c6).ownBlock = some kk → w.heap.size + 1 ≤ kk) := fun kk h => (HWa.out.row.lt kk h).1
      have HR2 : Hid (w2.ownsRow (w.heap.size + 1) 139 2 (.slice a6 ns.length c6) ns.length (bl2 ns.length (fun i => .int .i64 (N i : Nat)) (fun i => .int .i64 (O i : Nat)))) := Ag.owns_of HWa.out.row fun kk h => ho2.block kk (by have := hgm0.out kk h; omega)
      have HB2 : Hid (Below w.heap.size w w2) := HWa.out.bel.trans (ho2.below (Nat.le_refl _))
      have HX2 : Hid (Cel w2 gb [.int .i64 (vq : Nat), .int .u64 (kq2 : Nat)] 137) := ho2.cel HBXa.out (by have := hgbz.out; omega)
      have hsz2 : Hid (w.heap.size < w2.heap.size) := hcm2.out.lt
      clear hcm ho2 HWa HBXa hU1 hLK c10 c11 bx0 bx1 HNEW HXS
      obtain ⟨hi, hz0, hz1, hz2⟩ := HI.out
      go_wp2_with (at_builtin; refine Ag.wpList_append (by rfl) _ _ _ (by rfl) (w.heap.size + 1) 139 i0 (.agg #[.int .i64 0, .int .i64 0]) 2 16 Tryz.underlying64 hi hz0 hz1 hz2 rfl (by decide) (.slice a6 ns.length c6) ns.length (bl2 ns.length (fun i => .int .i64 (N i : Nat)) (fun i => .int .i64 (O i : Nat))) (by rfl) (Ag.owns_keep HR2.out (below_alloc w2 _)) ⟨w2.heap.size, 0, none⟩ 1 1 [.int .i64 0, .int .i64 0] (by rfl) rfl (by decide) ?c1 ?c2 ?c3 ?c4 ?c5 ?_)
      case c1 =>
       intro jj u hj
       have := (Cel.new w2 [.int .i64 0, .int .i64 0] 139).cell jj hj
       match jj, hj with
       | 0, _ => exact this
       | 1, _ => exact this
      case c2 => intro u hu; simp at hu; rcases hu with rfl | rfl <;> rfl
      case c3 => unfold maxLen; omega
      case c4 => omega
      case c5 => have := hsz2.out; simp only [World.size_alloc]; omega
      intro g cap w5 o1 o2 o3 o4 o5 o6
      rw [Pn.bl2_ext] at o1
      have HROW := hide o1
      have hal := below_alloc w2 (.cells #[.int .i64 0, .int .i64 0] 139)
      have hbl : Hid (Below w.heap.size w w5) := (HB2.out.trans (hal.mono HB2.out.size)).trans (o2.mono (Nat.le_succ _))
      have hcm5 : Hid (CM w5 w.heap.size (ns.length + 1) (Pn.ndM (ns ++ [(l, x)]))) := (hcm2.out.kept hal).keep o2 (Nat.lt_succ_self _)
      have HX5 : Hid (Cel w5 gb [.int .i64 (vq : Nat), .int .u64 (kq2 : Nat)] 137) := (o5 gb (Nat.lt_succ_of_lt HX2.out.lt) HNE.out).trans (HX2.out.kept hal)
      have hgb2 := HX2.out.lt
      have hneg : Hid (g ≠ gb) := by
       rcases o3 with h | h
       ·exact fun hh => HNE.out (hh ▸ h)
       ·try simp only [World.size_alloc] at h
        show g ≠ gb
        omega
      have hgm : Hid (w.heap.size < g) := by
       rcases o3 with h | h
       ·have := hgm0.out g h
        show _ < _
        omega
       ·try simp only [World.size_alloc] at h
        have := hsz2.out
        show _ < _
        omega
      have hjm : ns.length < ns.length + 1 := Nat.lt_succ_self _
      have hjz : (ns.length : Int) < (ns.length : Int) + 1 := by omega
      have k0 := hide ((Ag.owns_cells HROW.out).2 (ns.length * 2) _ (bl2_fst _ _ _ _ hjm))
      have k1 := hide ((Ag.owns_cells HROW.out).2 (ns.length * 2 + 1) _ (bl2_snd _ _ _ _ hjm))
      rw [HK0.out, ← hA] at k0
      rw [HK0.out, ← hC] at k1
      have kc := hide ((hbl.out.cell (p := ⟨b0, off + q, none⟩) hbw).trans (HCC.out q hlq).1)
      have hgU := hide (Ag.owns_cells HROW.out).1
      have hbU : Hid (b0 < w5.heap.size) := Nat.lt_of_lt_of_le hbw hbl.out.size
      have HLE : Hid ((ns ++ [(l, Sh.pre v k l q)]).length = ns.length + 1) := by show _ = _; simp
      clear hi hz0 hz1 hz2 o1 o2 o3 o4 o5 o6 hal HB2 HR2 hcm2 HX2 hgb2 HNE hgm0 hsz2 HK0 hA hC
      generalize n q = c at *
      go_wp2
      refine region_g [15] (fun w' => Below w5.heap.size w5 w') (by kernel_rfl) ?_
      have hS : (fun w' => Below w5.heap.size w5 w') w5.drew := (Below.refl _ _).drew
      generalize w5.drew = V at *
      refine AnyG.take 0 (v := ?vv101) rfl (by kernel_rfl) (by kernel_rfl) (by kernel_rfl) (by kernel_rfl) (fun _ _ _ h => h) hS ?hy101 (by rfl) ?rest101
      case hy101 =>
       intro w0 h0
       go_simp
       try with_reducible rfl
      simp only [Act.put, yq0, yq1, yq2, yq3, yq4, yq5]
      refine AnyG.take 1 (v := ?vv102) rfl (by kernel_rfl) (by kernel_rfl) (by kernel_rfl) (by kernel_rfl) (fun _ _ _ h => h) hS ?hy102 (by rfl) ?rest102
      case hy102 =>
       intro w0 h0
       go_simp
       try with_reducible rfl
      simp only [Act.put, yq0, yq1, yq2, yq3, yq4, yq5]
      refine AnyG.take 2 (v := ?vv103) rfl (by kernel_rfl) (by kernel_rfl) (by kernel_rfl) (by kernel_rfl) (fun _ _ _ h => h) hS ?hy103 (by rfl) ?rest103
      case hy103 =>
       intro w0 h0
       go_simp
       try with_reducible rfl
      simp only [Act.put, yq0, yq1, yq2, yq3, yq4, yq5]
      refine AnyG.take 3 (v := ?vv104) rfl (by kernel_rfl) (by kernel_rfl) (by kernel_rfl) (by kernel_rfl) (fun _ _ _ h => h) hS ?hy104 (by rfl) ?rest104
      case hy104 =>
       intro w0 h0
       go_simp
       try with_reducible rfl
      simp only [Act.put, yq0, yq1, yq2, yq3, yq4, yq5]
      refine AnyG.take 4 (v := ?vv105) rfl (by kernel_rfl) (by kernel_rfl) (by kernel_rfl) (by kernel_rfl) (fun _ _ _ h => h) hS ?hy105 (by rfl) ?rest105
      case hy105 =>
       intro w0 h0
       go_simp
       try with_reducible rfl
      simp only [Act.put, yq0, yq1, yq2, yq3, yq4, yq5]
      refine AnyG.take 5 (v := ?vv106) rfl (by kernel_rfl) (by kernel_rfl) (by kernel_rfl) (by kernel_rfl) (fun _ _ _ h => h) hS ?hy106 (by rfl) ?rest106
      case hy106 =>
       intro w0 h0
       have d0 := (h0.cell (p := ⟨g, ns.length * 2, none⟩) hgU.out).trans k0.out
       have d1 := (h0.cell (p := ⟨g, ns.length * 2 + 1, none⟩) hgU.out).trans k1.out
       go_simp
       try with_reducible rfl
      simp only [Act.put, yq0, yq1, yq2, yq3, yq4, yq5]
      refine AnyG.take 6 (v := ?vv107) rfl (by kernel_rfl) (by kernel_rfl) (by kernel_rfl) (by kernel_rfl) (fun _ _ _ h => h) hS ?hy107 (by rfl) ?rest107
      case hy107 =>
       intro w0 h0
       go_simp
       try with_reducible rfl
      simp only [Act.put, yq0, yq1, yq2, yq3, yq4, yq5]
      refine AnyG.take 7 (v := ?vv108) rfl (by kernel_rfl) (by kernel_rfl) (by kernel_rfl) (by kernel_rfl) (fun _ _ _ h => h) hS ?hy108 (by rfl) ?rest108
      case hy108 =>
       intro w0 h0
       go_simp
       try with_reducible rfl
      simp only [Act.put, yq0, yq1, yq2, yq3, yq4, yq5]
      refine AnyG.take 8 (v := ?vv109) rfl (by kernel_rfl) (by kernel_rfl) (by kernel_rfl) (by kernel_rfl) (fun _ _ _ h => h) hS ?hy109 (by rfl) ?rest109
      case hy109 =>
       intro w0 h0
       go_simp
       try with_reducible rfl
      simp only [Act.put, yq0, yq1, yq2, yq3, yq4, yq5]
      refine AnyG.take 9 (v := ?vv110) rfl (by kernel_rfl) (by kernel_rfl) (by kernel_rfl) (by kernel_rfl) (fun _ _ _ h => h) hS ?hy110 (by rfl) ?rest110
      case hy110 =>
       intro w0 h0
       have dc := (h0.cell (p := ⟨b0, off + q, none⟩) hbU.out).trans kc.out
       go_simp
       try with_reducible rfl
      simp only [Act.put, yq0, yq1, yq2, yq3, yq4, yq5]
      refine AnyG.take 10 (v := ?vv111) rfl (by kernel_rfl) (by kernel_rfl) (by kernel_rfl) (by kernel_rfl) (fun _ _ _ h => h) hS ?hy111 (by rfl) ?rest111
      case hy111 =>
       intro w0 h0
       go_simp
       try with_reducible rfl
      simp only [Act.put, yq0, yq1, yq2, yq3, yq4, yq5]
      refine AnyG.take 11 (v := .int .u64 (e : Int)) rfl (by kernel_rfl) (by kernel_rfl) (by kernel_rfl) (by kernel_rfl) (fun _ _ _ h => h) hS ?hy112 (by rfl) ?rest112
      case hy112 =>
       intro w0 h0
       have ee2 := ee.out
       go_simp
       try with_reducible rfl
       try (rw [IntKind.wrap_i64]; omega)
      simp only [Act.put, yq0, yq1, yq2, yq3, yq4, yq5]
      refine AnyG.take 12 (v := .bool t) rfl (by kernel_rfl) (by kernel_rfl) (by kernel_rfl) (by kernel_rfl) (fun _ _ _ h => h) hS ?hy113 (by rfl) ?rest113
      case hy113 =>
       intro w0 h0
       have et2 := et.out
       go_simp
       try with_reducible rfl
       try (rw [IntKind.wrap_i64]; omega)
      simp only [Act.put, yq0, yq1, yq2, yq3, yq4, yq5]
      refine AnyG.one 13 (by kernel_rfl) rfl ?_
      intro K hK
      go_simp
      refine (CW.out _).mono ?_
      rintro _ v1 ⟨rfl, hb⟩
      have hS1 : (fun w' => Below w5.heap.size w5 w') v1 := hS.trans (hb.mono hS.size)
      clear hb hS
      refine hK.out _ _ (fun _ => hS1) ?_
      clear hK K
      try simp only [Act.put, yq0, yq1, yq2, yq3, yq4, yq5]
      refine AnyG.take 14 (v := ?vv114) rfl (by kernel_rfl) (by kernel_rfl) (by kernel_rfl) (by kernel_rfl) (fun _ _ _ h => h) hS1 ?hy114 (by rfl) ?rest114
      case hy114 =>
       intro w0 h0
       go_simp
       try with_reducible rfl
      simp only [Act.put, yq0, yq1, yq2, yq3, yq4, yq5]
      refine AnyG.one 15 (by kernel_rfl) rfl ?_
      intro K hK
      have HR := Ag.owns_keep HROW.out hS1
      have c0 := (hS1.cell (p := ⟨g, ns.length * 2, none⟩) hgU.out).trans k0.out
      have c1 := (hS1.cell (p := ⟨g, ns.length * 2 + 1, none⟩) hgU.out).trans k1.out
      have f0 := Ag.owns_frozen HR (ns.length * 2)
      have f1 := Ag.owns_frozen HR (ns.length * 2 + 1)
      have HR1 := owns_put HR (j := ns.length * 2) (by rw [length_bl2]; omega) (.int .i64 (x1 : Nat))
      have f2 := Ag.owns_frozen HR1 (ns.length * 2 + 1)
      have c2 := (Ag.owns_cells HR1).2 (ns.length * 2 + 1) _ ((List.getElem?_set_ne (by omega)).trans (bl2_snd _ _ _ _ hjm))
      have HR2 := owns_put HR1 (j := ns.length * 2 + 1) (by rw [List.length_set, length_bl2]; omega) (.int .i64 (x2 : Nat))
      rw [HSET.out] at HR2
      have HO : Hid (Only g v1 ((v1.setCell ⟨g, ns.length * 2, none⟩ (.int .i64 (x1 : Nat))).setCell ⟨g, ns.length * 2 + 1, none⟩ (.int .i64 (x2 : Nat)))) := ((Only.refl g v1).set _ _).set _ _
      have HRF := hide HR2
      have HBF := hide hS1
      clear HR HR1 HR2
      go_simp
      refine hK.out _ _ (fun h => absurd (by decide) h) ?_
      clear hK K
      try simp only [Act.put, yq0, yq1, yq2, yq3, yq4, yq5]
      refine AnyG.done (by kernel_rfl) ?_ _
      generalize (v1.setCell ⟨g, ns.length * 2, none⟩ (.int .i64 (x1 : Nat))).setCell ⟨g, ns.length * 2 + 1, none⟩ (.int .i64 (x2 : Nat)) = v2 at *
      clear hS1 f0 f1 f2 c0 c1 c2
      have HNW : Hid (Pn.NW w v2 (.slice (some ⟨g, 0, none⟩) (ns.length + 1) cap) (ns ++ [(l, Sh.pre v k l q)]) (Pn.upd (Pn.ext N ns.length) ns.length x1) (Pn.upd (Pn.ext O ns.length) ns.length x2)) := by
       have hgm := hgm.out
       refine ⟨?_, ?_, ?_⟩
       ·rw [HLE.out]; exact HRF.out
       ·rw [HLE.out, ← hx.out]; exact ((hcm5.out.kept HBF.out).only HO.out (by omega))
       ·exact (hbl.out.trans (HBF.out.mono hbl.out.size)).trans (HO.out.below (by omega))
      have HBN : Hid (Cel v2 gb [.int .i64 (vq : Nat), .int .u64 (kq2 : Nat)] 137) := HO.out.cel (HX5.out.kept HBF.out) (Ne.symm hneg.out)
      have HNN : Hid ((Value.slice (some ⟨g, 0, none⟩) (ns.length + 1) cap).ownBlock ≠ some gb) := fun h => by
       simp only [Value.ownBlock, Option.some.injEq] at h
       exact hneg.out h
      clear HRF HBF HO hcm5 HX5 HROW k0 k1 kc hbl
      go_wp2
      exact ⟨⟨l + 1, ns ++ [(l, Sh.pre v k l q)], Pn.upd (Pn.ext N ns.length) ns.length x1, Pn.upd (Pn.ext O ns.length) ns.length x2, by omega, by go_num, HMN, HNW, HBN, HNN⟩, by simp only [intOf]; omega⟩
    ·obtain rfl : l = vq := by omega
     have HM1 : Hid (Pn.Met v k n (q + 1) 0 ns N O) := by
      have := HM.out
      rw [hvq.out] at this
      exact this.next
     clear HM HBX HNE
     go_wp2
     exact ⟨⟨q + 1, ns, N, O, by omega, by go_num, HM1, HW⟩, by simp only [intOf]; omega⟩
  ·obtain rfl : q = 256 := by omega
   go_wp2
   go_ret
   exact ⟨u6, ns, N, O, rfl, HW.out.row, HM.out, HW.out.bel⟩
end Go.Proofs.YtcaalcjcpddhaaaGreat.Zz
