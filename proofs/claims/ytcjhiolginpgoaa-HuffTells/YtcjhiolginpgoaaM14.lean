/-
  The contract of the program's Lengths. The contract of the program's fit. The contract of the program's firsts: an array of 41 numbers by value.
-/
import Derived.Test.YtcjhiolginpgoaaM11
import Derived.Test.YtcjhiolginpgoaaM12
import Derived.Test.YtcjhiolginpgoaaM13
import Derived.Deep.WholeRow
import Derived.Laws.ResultCell
import Derived.Test.YtcjhiolginpgoaaM06
namespace Go.Proofs.Ytcjhiolginpgoaa
open Go.RowKit Num Bit Ji Hp
set_option linter.unusedVariables false
set_option linter.unusedSimpArgs false
set_option maxRecDepth 100000

/-- Numbers as cells. -/
def ivh (l : List Nat) : List Value := l.map fun n : Nat => Value.int .i64 (n : Int)
theorem length_ivh (l : List Nat) : (ivh l).length = l.length := by simp [ivh]
theorem ivh_get (l : List Nat) (i : Nat) (h : i < l.length) : (ivh l)[i]? = some (.int .i64 (l.getD i 0 : Nat)) := by
  unfold ivh
  rw [List.getElem?_map, List.getElem?_eq_getElem h, List.getD_eq_getElem?_getD, List.getElem?_eq_getElem h]
  rfl
theorem ivh_set (l : List Nat) (i v : Nat) : (ivh l).set i (.int .i64 (v : Nat)) = ivh (l.set i v) := by simp [ivh, List.map_set]
theorem info_th : (Try.prog.info? 55).map (fun i => (i.zero, i.size)) = some (some (.agg (tv (fun _ => th0)).toArray), 2044) := by kernel_rfl
theorem info_i64 : (Try.prog.info? 3).map (fun i => (i.zero, i.size, i.bytes)) = some (some (.int .i64 0), 1, 8) := by kernel_rfl
theorem alloc_th {ops : Array Oper} {rest : List Oper} {d : Option Tmp} {ty : TypeId} {ps : String} {af : Array Edge} {a : Act} {w : World} {Q : Exit → Act → World → Prop}
    (h : ∀ w1, TH w1 w.heap.size (fun _ => th0) → Below w.heap.size w w1 → w.heap.size < w1.heap.size → wpList Try.prog ops Q rest (a.put d (.pointer (some ⟨w.heap.size, 0, none⟩))) w1) :
    wpList Try.prog ops Q (⟨d, .alloc 55, ty, ps, af, none⟩ :: rest) a w := by
  refine wpList_plain rfl fun K hK => ?_
  unfold Oper.wp execOp
  have z := (zero_of_info info_th).1
  have nw := h _ (Cel.new w (tv (fun _ => th0)) 55) (below_alloc w _) (by simp)
  refine cast ?_ (hK _ _ nw)
  simp [Instr.alloc, Sem.run_bind, z, newVar, Value.cells, go_sem]

theorem cel_made1 {w : World} {base g n : Nat} (h : w.ownsRow base 3 1 (.slice (some ⟨g, 0, none⟩) n n) n (madeCells #[.int .i64 0] n).toList) : Cel w g (ivh (List.replicate n 0)) 3 := by
  obtain ⟨_, h | ⟨g', cap, cur, e, _, hh, _, _, hs, ht⟩⟩ := h
  · simp at h
  · simp only [Value.slice.injEq, Option.some.injEq, Addr.mk.injEq] at e
    obtain ⟨⟨rfl, _, _⟩, _, rfl⟩ := e
    unfold Cel
    rw [hh]
    have e2 : (madeCells #[.int .i64 0] n).toList = ivh (List.replicate n 0) := by
      rw [toList_madeCells_one (.int .i64 0) n, ivh, List.map_replicate]
      rfl
    rw [e2] at ht
    have e3 : cur.toList.take (n * 1) = cur.toList := List.take_of_length_le (by simp; omega)
    rw [e3] at ht
    rw [← ht]
/-- The lengths of counts. -/
def hls (l : List Int) : List Nat := (List.range 256).map (hlen (cntOf l) 256)
theorem win_len {l : List Int} {top : Int} (h : win l top = true) : l.length = 256 ∧ ∀ i, i < l.length → 0 ≤ gi l i ∧ gi l i ≤ top := by
  unfold win at h
  simp only [Bool.and_eq_true, decide_eq_true_eq, Bool.not_eq_true'] at h
  refine ⟨h.1, fun i hi => ?_⟩
  have := Bool.eq_false_iff.1 h.2
  have hb : ¬ bad top (gi l i) = true := fun e => this (any_true hi e)
  unfold bad at hb
  simp only [Bool.or_eq_true, decide_eq_true_eq] at hb
  omega
theorem cnt_le {l : List Int} (h : ∀ i, i < l.length → 0 ≤ gi l i ∧ gi l i ≤ 1048576) (c : Nat) : cntOf l c ≤ 1048576 := by
  unfold cntOf
  by_cases g : c < l.length
  · have := h c g; omega
  · have : gi l c = 0 := by unfold gi; rw [List.getD_eq_getElem?_getD, List.getElem?_eq_none (by omega)]; rfl
    omega
set_option maxHeartbeats 2000000 in
theorem jlen_bad (ao : Option Addr) (l : List Int) (cap : Nat) (w : World) (hx : Nd w ao l) (hl : l.length ≤ 1048576) (hw : win l 1048576 = false) :
    Calls Try.prog 9 #[.slice ao l.length cap] w fun e w' => e = .returned (.tuple #[.slice none 0 0, .int .i64 2]) ∧ Below w.heap.size w w' := by
  have C := hide (jwithin_c ao l cap 1048576 w hx hl)
  rw [hw] at C
  clear hx hw
  go_enter Try.func9, Try.ntmps9
  go_wp2_with fail
  refine (C.out).mono ?_
  rintro e w1 ⟨rfl, hb⟩
  go_wp2
  go_ret2
  exact ⟨rfl, hb⟩
/-- A new row of 256 numbers. -/
def LO (w : World) (ys : List Nat) (e : Ending) (w' : World) : Prop := ∃ g, e = .returned (.tuple #[.slice (some ⟨g, 0, none⟩) 256 256, .int .i64 0]) ∧ Cel w' g (ivh ys) 3 ∧ w.heap.size ≤ g ∧ Below w.heap.size w w'
theorem LO.mk {w : World} {ys : List Nat} {e : Ending} {w' : World} (g : Nat) (h1 : e = .returned (.tuple #[.slice (some ⟨g, 0, none⟩) 256 256, .int .i64 0])) (h2 : Cel w' g (ivh ys) 3) (h3 : w.heap.size ≤ g) (h4 : Below w.heap.size w w') : LO w ys e w' := ⟨g, h1, h2, h3, h4⟩

set_option maxHeartbeats 4000000 in
theorem jlen_c (ao : Option Addr) (l : List Int) (cap : Nat) (w : World) (hx : Nd w ao l) (hl : l.length ≤ 1048576) (hw : win l 1048576 = true) :
    Calls Try.prog 9 #[.slice ao l.length cap] w fun e w' => LO w (hls l) e w' := by
  obtain ⟨i0, hi, hz0, hz1, hz2⟩ := info_parts info_i64
  have C := hide (jwithin_c ao l cap 1048576 w hx hl)
  rw [hw] at C
  obtain ⟨h256, hbd⟩ := win_len hw
  have HBD := hide hbd
  have HCB : Hid (∀ c, cntOf l c ≤ 1048576) := cnt_le hbd
  have HX := hide hx
  have HL := hide h256
  clear hx hw hbd h256
  go_enter Try.func9, Try.ntmps9
  go_wp2_with fail
  refine (C.out).mono ?_
  rintro e w1 ⟨rfl, hb1⟩
  go_wp2_with (refine alloc_th ?_)
  intro w2 hT2 hb2 hs2
  have HN : Hid (NdB w1.heap.size w2 ao l) := by
    obtain ⟨b, off, e, hlt, hc⟩ := HX.out (by have := HL.out; omega)
    have h1 := hb1.size
    refine ⟨b, off, e, by omega, by omega, fun i hi => ?_⟩
    have k1 := (hb1.cell (p := ⟨b, off + i, none⟩) hlt).trans (hc i hi)
    exact (hb2.cell (p := ⟨b, off + i, none⟩) (by show b < _; omega)).trans k1
  have HB2 := hide (hb1.trans (hb2.mono hb1.size))
  have hg0 := hb1.size
  have HT2 := hide hT2
  have hgl : w1.heap.size < w2.heap.size := hs2
  clear hb1 hb2 hT2 hs2
  generalize w1.heap.size = g at *
  go_wp2_with fail
  refine (jlay_c g ao l cap w2 HT2.out HL.out HBD.out HN.out).mono ?_
  rintro e w3 ⟨rfl, f3, hT3, hS3, hB3⟩
  have HS3 := hide hS3
  have HT3 := hide hT3
  have HB3 := hide (HB2.out.trans (hB3.below hg0 (by omega)))
  have hn3 : (used (cntOf l) 256).length ≤ 256 := used_len _ _
  clear hT3 hS3 hB3 HB2 HT2 HN hgl
  obtain ⟨n, hn⟩ : ∃ n, Hid (n = (used (cntOf l) 256).length) := ⟨_, rfl⟩
  rw [← hn.out] at HS3 hn3 ⊢
  go_wp2_with fail
  refine (jjoin_c g n (cntOf l) f3 w3 HT3.out HS3.out HCB.out).mono ?_
  rintro e w4 ⟨rfl, f4, hT4, hP4, hB4⟩
  have HP4 := hide hP4
  have HT4 := hide hT4
  have HB4 := hide (HB3.out.trans (hB4.below hg0 (by have := HT3.out.lt; omega)))
  clear hT4 hP4 hB4 HB3 HT3
  have CM : Hid (∀ v : Int, v = (n : Nat) → Calls Try.prog 22 #[.pointer (some ⟨g, 0, none⟩), .int .i64 v] w4 fun e w' => e = .returned (.tuple #[]) ∧ SO g w4 (fun F => Lns (cntOf l) n F) w') := by
    intro v hv
    subst hv
    rcases HP4.out with ⟨c1, c2⟩ | ⟨c1, c2, S, hh, c3⟩
    · refine (jmeas_1 g n f4 w4 HT4.out c1).mono ?_
      rintro e w' ⟨rfl, F, hT, rfl, hB⟩
      exact ⟨rfl, F, hT, by rw [c2]; exact lns_one HS3.out c1, hB⟩
    · refine (jmeas_2 g n _ f4 S hh w4 HT4.out c1 hn3 c3).mono ?_
      rintro e w' ⟨rfl, F, hT, hM, hB⟩
      exact ⟨rfl, F, hT, hM.done HCB.out HS3.out c1 c2 c3, hB⟩
  have hlt4 := HT4.out.lt
  clear HP4 HT4
  go_wp2_with fail
  refine (CM.out _ rfl).mono ?_
  rintro e w5 ⟨rfl, F, hT5, hL5, hB5⟩
  have HL5 := hide hL5
  have HT5 := hide hT5
  have HB5 := hide (HB4.out.trans (hB5.below hg0 (by omega)))
  have hlt5 : g < w5.heap.size := hT5.lt
  clear hT5 hL5 hB5 HB4 CM HS3 hlt4
  go_wp2_with (at_make; refine wpList_make_full _ rfl _ _ 22 rfl w5.heap.size 3 i0 (.int .i64 0) 1 Try.underlying22 hi hz0 hz1 .i64 .i64 _ _ 256 rfl rfl rfl rfl ?b2 ?b3 ?b4 ?_)
  case b2 => rw [hz2]; omega
  case b3 => unfold maxLen; omega
  case b4 => simp
  intro w6 hown hgr
  have B6 := cel_made1 hown
  have hb6 : Below w5.heap.size w5 w6 := (Below.refl _ _).grown hgr (Nat.le_refl _) (fun k h => by cases h)
  have HT6 := hide (HT5.out.kept hb6)
  have HB6 := hide (HB5.out.trans (hb6.mono (by omega)))
  rw [← lnP_zero (cntOf l) F] at B6
  have HC6 := hide B6
  clear hown hgr hb6 hi hz0 hz1 hz2 HT5 HB5 B6
  generalize w5.heap.size = gl at *
  have n511 : (n : Int) ≤ 511 := by omega
  go_wp2
  go_loopw [22] (fun vi wr => ∃ q : Nat, q ≤ n ∧ vi = .int .i64 q ∧ Hid (Cel wr gl (ivh (lnP (cntOf l) F q)) 3) ∧ Hid (TH wr g F) ∧ Hid (Below w.heap.size w wr)) (fun vi _ => n - (intOf vi).toNat)
  case atStart => exact ⟨0, Nat.zero_le _, rfl, HC6, HT6, HB6⟩
  case round =>
    clear HC6 HT6 HB6
    obtain ⟨q, hq, rfl, HC, HT, HB⟩ := hrel
    by_cases hlt : q < n
    · have hltz : (q : Int) < (n : Int) := by omega
      have t0 := HT.out.c0 q (by omega)
      have t1 := HT.out.c1 q (by omega)
      have t2 := HT.out.c2 q (by omega)
      have t3 := HT.out.c3 q (by omega)
      have hsy := (mem_used.1 (HL5.out.sy q hlt)).1
      have hln := (HL5.out.ln q hlt).2
      have HST := hide (lnP_step HL5.out q hlt)
      have glt : gl < wr.heap.size := HC.out.lt
      have glg : g < gl := hlt5
      have hc0 := HC.out.cell (F q).sy (ivh_get _ _ (by simp [lnP]; omega))
      have hf0 := HC.out.frozen (F q).sy
      have HC1 : Hid (∀ o : Obj, Cel ((wr.setCell ⟨gl, (F q).sy, none⟩ (.int .i64 ((max (F q).ln 1 : Nat) : Int))).alloc o) gl (ivh (lnP (cntOf l) F (q + 1))) 3) := fun o => by
        have := HC.out.set (F q).sy (.int .i64 ((max (F q).ln 1 : Nat) : Int))
        rw [ivh_set, HST.out] at this
        exact this.alloc o
      have HT1 : Hid (∀ (o : Obj) v, TH ((wr.setCell ⟨gl, (F q).sy, none⟩ v).alloc o) g F) := fun o v => (Cel.other (a := ⟨gl, (F q).sy, none⟩) HT.out (by show g ≠ gl; omega) v).alloc o
      have HB1 : Hid (∀ (o : Obj) v, Below w.heap.size w ((wr.setCell ⟨gl, (F q).sy, none⟩ v).alloc o)) := fun o v => (HB.out.setCell (by show w.heap.size ≤ gl; omega) v).alloc (by have := HB.out.size; simpa using this) o
      have hsyz : ((F q).sy : Int) < 256 := by omega
      clear HST HC HT HB
      by_cases hl0 : (F q).ln = 0
      · rw [hl0] at t3 HC1
        have e1 : ((max 0 1 : Nat) : Int) = 1 := rfl
        rw [e1] at HC1
        clear e1
        clear hln hl0
        generalize (F q).sy = sy at *
        generalize (F q).ct = ct at *
        generalize (F q).it = it at *
        go_wp2
        exact ⟨⟨q + 1, by omega, by go_num, HC1.out _, HT1.out _ _, HB1.out _ _⟩, by simp only [intOf]; omega⟩
      · have hl1 : max (F q).ln 1 = (F q).ln := by omega
        have hl2 : (1 : Int) ≤ ((F q).ln : Int) := by omega
        rw [hl1] at HC1
        clear hl1
        generalize (F q).ln = ln at *
        generalize (F q).sy = sy at *
        generalize (F q).ct = ct at *
        generalize (F q).it = it at *
        go_wp2
        exact ⟨⟨q + 1, by omega, by go_num, HC1.out _, HT1.out _ _, HB1.out _ _⟩, by simp only [intOf]; omega⟩
    · obtain rfl : q = n := by omega
      have HC7 : Hid (Cel wr gl (ivh (hls l)) 3) := by
        have := HC.out
        rw [lnP_done HL5.out] at this
        exact this
      clear HC
      go_wp2
      go_ret2
      exact LO.mk gl rfl HC7.out (by omega) HB.out
end Go.Proofs.Ytcjhiolginpgoaa

namespace Go.Proofs.Ytcjhiolginpgoaa
open Go.RowKit Num Bit Ji Hp Ka Hr
set_option linter.unusedVariables false
set_option linter.unusedSimpArgs false
set_option maxRecDepth 100000

theorem wr2 (s t : Nat) (hs : s ≤ 140737488355328) (h : 2 ^ t ≤ 549755813888) : IntKind.u64.wrap ((s : Int) + IntKind.u64.wrap (2 ^ t)) = ((s + 2 ^ t : Nat) : Int) := by
  have e : (2 : Int) ^ t = ((2 ^ t : Nat) : Int) := by rw [Int.natCast_pow]; rfl
  rw [e]
  generalize (2 : Nat) ^ t = p at *
  rw [IntKind.wrap_u64, IntKind.wrap_u64]
  omega
set_option maxHeartbeats 4000000 in
theorem jfit_c (ao : Option Addr) (l : List Int) (cap : Nat) (w : World) (hx : Nd w ao l) (hl : l.length = 256) (hb : ∀ i, i < l.length → 0 ≤ gi l i ∧ gi l i ≤ 40) :
    Calls Try.prog 23 #[.slice ao l.length cap] w fun e w' => e = .returned (.bool (fitb (cntOf l))) ∧ w' = w := by
  obtain ⟨b, off, rfl, hbw, hcc⟩ := hx (by omega)
  obtain ⟨v, hv⟩ : ∃ v, Hid (v = cntOf l) := ⟨_, rfl⟩
  have HC : Hid (∀ i, i < l.length → gi l i = (v i : Int) ∧ v i ≤ 40) := fun i hi => by
    have := hb i hi
    rw [hv.out]
    unfold cntOf
    omega
  have HCC : Hid (∀ i, i < l.length → w.cell? ⟨b, off + i, none⟩ = some (.int .i64 (v i : Nat))) := fun i hi => by
    rw [← (HC.out i hi).1]; exact hcc i hi
  have HL := hide hl
  have l256 : l.length ≤ 256 := by omega
  rw [← hv.out]
  clear hcc hb hl hx
  go_enter Try.func23, Try.ntmps23
  go_wp2
  go_loopw [3, 4, 10] (fun vc vs vi wr => ∃ (q c s : Nat), q ≤ l.length ∧ c ≤ q ∧ vi = .int .i64 q ∧ vc = .int .i64 c ∧ vs = .int .u64 s ∧ Hid (c = (used v q).length ∧ s = need v (fun _ => true) q) ∧ wr = w) (fun _ _ vi _ => l.length - (intOf vi).toNat)
  case atStart => exact ⟨0, 0, 0, by omega, by omega, rfl, rfl, rfl, ⟨rfl, rfl⟩, rfl⟩
  case round =>
    obtain ⟨q, c, s, hq, hcq, rfl, rfl, rfl, HI, hw⟩ := hrel
    subst hw
    have hs5 : s ≤ 140737488355328 := by
      have e := HI.out.2
      have e2 := need_le v q
      have : q * 549755813888 ≤ 256 * 549755813888 := Nat.mul_le_mul_right _ (by omega)
      omega
    by_cases hlt : q < l.length
    · have hltz : (q : Int) < (l.length : Int) := by omega
      obtain ⟨_, hv2⟩ := HC.out q hlt
      have c1 := HCC.out q hlt
      by_cases hp : 0 < v q
      · have hpz : (0 : Int) < (v q : Int) := by omega
        have hpw := pow39 (v q) hp
        have HI1 : Hid (c + 1 = (used v (q + 1)).length ∧ s + 2 ^ (40 - v q) = need v (fun _ => true) (q + 1)) := by
          refine ⟨by rw [used_more, if_pos hp, HI.out.1], ?_⟩
          rw [need, if_pos ⟨hp, rfl⟩, HI.out.2]
        obtain ⟨t, ht⟩ : ∃ t : Nat, t = 40 - v q := ⟨_, rfl⟩
        have tz : (40 : Int) - (v q : Int) = (t : Int) := by omega
        have t40 : t ≤ 39 := by omega
        rw [← ht] at hpw HI1
        clear ht
        generalize v q = x at *
        go_wp2
        exact ⟨⟨q + 1, c + 1, s + 2 ^ t, by omega, by omega, by go_num, by go_num, by rw [wr2 s t hs5 hpw], HI1, trivial⟩, by simp only [intOf]; omega⟩
      · have hpz : ¬ (0 : Int) < (v q : Int) := by omega
        have HI1 : Hid (c = (used v (q + 1)).length ∧ s = need v (fun _ => true) (q + 1)) := by
          refine ⟨by rw [used_more, if_neg hp, HI.out.1]; rfl, ?_⟩
          rw [need, if_neg (fun e => hp e.1), HI.out.2]
          rfl
        generalize v q = x at *
        go_wp2
        exact ⟨⟨q + 1, c, s, by omega, by omega, by go_num, rfl, rfl, HI1, trivial⟩, by simp only [intOf]; omega⟩
    · obtain rfl : q = l.length := by omega
      have HF : Hid (fitb v = (decide (s = 1099511627776) || (decide (c = 1) && decide (s = 549755813888)) || decide (c = 0))) := by
        have e := HI.out
        rw [HL.out] at e
        show fitb v = _
        unfold fitb
        rw [← e.1, ← e.2]
      clear HI HC HCC HL
      by_cases k1 : c = 1
      · have k1z : ((c : Int) == 1) = true := by simp; omega
        have k0z : ((c : Int) == 0) = false := by simp; omega
        by_cases k2 : s = 1099511627776
        · have k2z : ((s : Int) == 1099511627776) = true := by simp; omega
          go_wp2
          go_ret
          rw [HF.out]
          exact ⟨by simp [k1, k2], rfl⟩
        · have k2z : ((s : Int) == 1099511627776) = false := by simp; omega
          by_cases k3 : s = 549755813888
          · have k3z : ((s : Int) == 549755813888) = true := by simp; omega
            go_wp2
            go_ret
            rw [HF.out]
            exact ⟨by simp [k1, k2, k3], rfl⟩
          · have k3z : ((s : Int) == 549755813888) = false := by simp; omega
            go_wp2
            go_ret
            rw [HF.out]
            exact ⟨by simp [k1, k2, k3], rfl⟩
      · have k1z : ((c : Int) == 1) = false := by simp; omega
        by_cases k2 : s = 1099511627776
        · have k2z : ((s : Int) == 1099511627776) = true := by simp; omega
          go_wp2
          go_ret
          rw [HF.out]
          exact ⟨by simp [k1, k2], rfl⟩
        · have k2z : ((s : Int) == 1099511627776) = false := by simp; omega
          by_cases k4 : c = 0
          · have k4z : ((c : Int) == 0) = true := by simp; omega
            go_wp2
            go_ret
            rw [HF.out]
            exact ⟨by simp [k2, k4], rfl⟩
          · have k4z : ((c : Int) == 0) = false := by simp; omega
            go_wp2
            go_ret
            rw [HF.out]
            exact ⟨by simp [k1, k2, k4], rfl⟩
end Go.Proofs.Ytcjhiolginpgoaa

namespace Go.Proofs.Ytcjhiolginpgoaa
open Go.RowKit Num Bit Ji Hp Ka Hr
set_option linter.unusedVariables false
set_option linter.unusedSimpArgs false
set_option maxRecDepth 100000

def wvh (ys : List Nat) : List Value := ys.map fun y : Nat => Value.int .u64 (y : Int)
theorem length_wvh (ys : List Nat) : (wvh ys).length = ys.length := by simp [wvh]
theorem wvh_get (l : List Nat) (i : Nat) (h : i < l.length) : (wvh l)[i]? = some (.int .u64 (l.getD i 0 : Nat)) := by
  unfold wvh
  rw [List.getElem?_map, List.getElem?_eq_getElem h, List.getD_eq_getElem?_getD, List.getElem?_eq_getElem h]
  rfl
theorem wvh_set (l : List Nat) (i v : Nat) : (wvh l).set i (.int .u64 (v : Nat)) = wvh (l.set i v) := by simp [wvh, List.map_set]
/-- 41 numbers, told by a function. -/
def a41 (f : Nat → Nat) : List Nat := (List.range 41).map f
theorem length_a41 (f : Nat → Nat) : (a41 f).length = 41 := by simp [a41]
theorem a41_at (f : Nat → Nat) (i : Nat) (h : i < 41) : (a41 f).getD i 0 = f i := by
  unfold a41
  rw [List.getD_eq_getElem?_getD, List.getElem?_map, List.getElem?_range h]
  rfl
theorem a41_set (f g : Nat → Nat) (i : Nat) (h : i < 41) (hg : ∀ j, j < 41 → j ≠ i → g j = f j) : (a41 f).set i (g i) = a41 g := by
  refine List.ext_getElem? fun j => ?_
  unfold a41
  rw [List.getElem?_set, List.length_map, List.length_range]
  by_cases c : j < 41
  · rw [List.getElem?_map, List.getElem?_map, List.getElem?_range c]
    by_cases e : i = j
    · subst e; rw [if_pos rfl, if_pos h]; rfl
    · rw [if_neg e]
      simp only [Option.map_some]
      rw [hg j c (fun x => e x.symm)]
  · rw [if_neg (by omega), List.getElem?_eq_none (by simp; omega), List.getElem?_eq_none (by simp; omega)]
theorem a41_cong {f g : Nat → Nat} (h : ∀ j, j < 41 → f j = g j) : a41 f = a41 g := List.map_congr_left fun j hj => h j (List.mem_range.1 hj)
theorem info_41 : (Try.prog.info? 60).map (fun i => (i.zero, i.size)) = some (some (.agg (wvh (a41 fun _ => 0)).toArray), 41) := by kernel_rfl
theorem size_41 (f : Nat → Nat) : (Try.prog.info? 60).map (·.size) = some (wvh (a41 f)).toArray.size := by
  rw [(zero_of_info info_41).2, List.size_toArray, length_wvh, length_a41]
theorem one_wvh (l : List Nat) : (wvh l).toArray.all (·.oneCell') = true := by
  rw [List.all_toArray, List.all_eq_true]
  intro v hv
  obtain ⟨a, _, rfl⟩ := List.mem_map.1 hv
  rfl
/-- Block g holds these 41 numbers. -/
def A41 (w : World) (g : Nat) (f : Nat → Nat) : Prop := Cel w g (wvh (a41 f)) 60
theorem A41.cell {w : World} {g : Nat} {f : Nat → Nat} (h : A41 w g f) (i : Nat) (hi : i < 41) : w.cell? ⟨g, i, none⟩ = some (.int .u64 (f i : Nat)) := by
  have := Cel.cell h i (wvh_get (a41 f) i (by rw [length_a41]; exact hi))
  rw [a41_at f i hi] at this
  exact this
theorem A41.set {w : World} {g : Nat} {f : Nat → Nat} (h : A41 w g f) (k : Nat → Nat) (i : Nat) (hi : i < 41) (hk : ∀ j, j < 41 → j ≠ i → k j = f j) : A41 (w.setCell ⟨g, i, none⟩ (.int .u64 (k i : Nat))) g k := by
  have := Cel.set h i (.int .u64 (k i : Nat))
  rw [wvh_set, a41_set f k i hi hk] at this
  exact this
theorem alloc_41 {ops : Array Oper} {rest : List Oper} {d : Option Tmp} {ty : TypeId} {ps : String} {af : Array Edge} {a : Act} {w : World} {Q : Exit → Act → World → Prop}
    (h : ∀ w1, A41 w1 w.heap.size (fun _ => 0) → Below w.heap.size w w1 → w.heap.size < w1.heap.size → wpList Try.prog ops Q rest (a.put d (.pointer (some ⟨w.heap.size, 0, none⟩))) w1) :
    wpList Try.prog ops Q (⟨d, .alloc 60, ty, ps, af, none⟩ :: rest) a w := by
  refine wpList_plain rfl fun K hK => ?_
  unfold Oper.wp execOp
  have z := (zero_of_info info_41).1
  have nw := h _ (Cel.new w _ _) (below_alloc w _) (by simp)
  refine cast ?_ (hK _ _ nw)
  simp [Instr.alloc, Sem.run_bind, z, newVar, Value.cells, go_sem]
theorem store_41 {ops : Array Oper} {rest : List Oper} {d : Option Tmp} {ty : TypeId} {ps : String} {af : Array Edge} {a : Act} {w : World} {Q : Exit → Act → World → Prop} {x y : Operand}
    (g : Nat) (f k : Nat → Nat) (hx : a.eval x = .pointer (some ⟨g, 0, none⟩)) (hy : a.eval y = .agg (wvh (a41 k)).toArray) (hc : A41 w g f)
    (h : ∀ w1, A41 w1 g k → Only g w w1 → wpList Try.prog ops Q rest (a.put d undef) w1) :
    wpList Try.prog ops Q (⟨d, .store 60 x y, ty, ps, af, none⟩ :: rest) a w :=
  wpList_store_row rfl _ x y rfl g _ hx hy _ _ hc (size_41 k) (by simp [length_wvh, length_a41]) (one_wvh _) (h _ (setRow_heap w g _ _ _ _ hc) (Only.row g w _))
theorem load_41 {ops : Array Oper} {rest : List Oper} {d : Option Tmp} {ty : TypeId} {ps : String} {af : Array Edge} {a : Act} {w : World} {Q : Exit → Act → World → Prop} {x : Operand}
    (g : Nat) (f : Nat → Nat) (hx : a.eval x = .pointer (some ⟨g, 0, none⟩)) (hc : A41 w g f)
    (h : wpList Try.prog ops Q rest (a.put d (.agg (wvh (a41 f)).toArray)) w) :
    wpList Try.prog ops Q (⟨d, .load 60 x, ty, ps, af, none⟩ :: rest) a w :=
  wpList_load_row rfl _ x rfl g hx _ _ _ _ hc Try.underlying60 rfl (size_41 f) h
/-- The firsts so far. -/
def fsP (v : Nat → Nat) (L j : Nat) : Nat := if j ≤ L then Ka.fst v j else 0

set_option maxHeartbeats 8000000 in
theorem jfirsts_c (ao : Option Addr) (l : List Int) (cap : Nat) (w : World) (hx : Nd w ao l) (hl : l.length = 256) (hb : ∀ i, i < l.length → 0 ≤ gi l i ∧ gi l i ≤ 40) (hs : need (cntOf l) (fun _ => true) 256 ≤ 2 ^ 40) :
    Calls Try.prog 24 #[.slice ao l.length cap] w fun e w' => e = .returned (.agg (wvh (a41 (Ka.fst (cntOf l)))).toArray) ∧ Below w.heap.size w w' := by
  obtain ⟨b, off, rfl, hbw, hcc⟩ := hx (by omega)
  obtain ⟨v, hv⟩ : ∃ v, Hid (v = cntOf l) := ⟨_, rfl⟩
  have HC : Hid (∀ i, i < l.length → gi l i = (v i : Int) ∧ v i ≤ 40) := fun i hi => by
    have := hb i hi
    rw [hv.out]
    unfold cntOf
    omega
  have HCC : Hid (∀ i, i < l.length → w.cell? ⟨b, off + i, none⟩ = some (.int .i64 (v i : Nat))) := fun i hi => by
    rw [← (HC.out i hi).1]; exact hcc i hi
  have HL := hide hl
  have l256 : l.length ≤ 256 := by omega
  rw [← hv.out] at hs ⊢
  have HFL : Hid (∀ L, L ≤ 40 → Ka.fst v L + cl v L 256 ≤ 1099511627776) := fun L hL => by
    have := fst_le v hs L hL
    have e : (2 : Nat) ^ 40 = 1099511627776 := by decide
    omega
  clear hcc hb hl hx hs
  go_enter Try.func24, Try.ntmps24
  go_wp2_with (refine alloc_41 ?_)
  intro w1 hc1 hb1 hs1
  go_wp2_with (refine alloc_41 ?_)
  intro w2 hc2 hb2 hs2
  go_wp2_with (refine alloc_41 ?_)
  intro w3 hc3 hb3 hs3
  have hb1s := hb1.size
  have hb2s := hb2.size
  have HB3 := hide ((hb1.trans (hb2.mono hb1.size)).trans (hb3.mono (by omega)))
  have HR3 := hide ((hc1.kept hb2).kept hb3)
  have HC3 := hide (hc2.kept hb3)
  have HF3 := hide hc3
  have d1 : w.heap.size < w1.heap.size := hs1
  have d2 : w1.heap.size < w2.heap.size := hs2
  clear hc1 hb1 hs1 hc2 hb2 hs2 hc3 hb3 hs3 hb1s hb2s
  generalize w1.heap.size = gc at *
  generalize w2.heap.size = gf at *
  simp only [Act.put, List.setIfInBounds_toArray, List.set]
  go_wp2
  go_loopw [10] (fun vi wr => ∃ q : Nat, q ≤ l.length ∧ vi = .int .i64 q ∧ Hid (A41 wr gc (fun L => cl v L q)) ∧ Hid (A41 wr gf (fun _ => 0)) ∧ Hid (A41 wr w.heap.size (fun _ => 0)) ∧ Hid (Below w.heap.size w wr)) (fun vi _ => l.length - (intOf vi).toNat)
  case atStart => exact ⟨0, Nat.zero_le _, rfl, HC3, HF3, HR3, HB3⟩
  case round =>
    clear HC3 HF3 HR3 HB3
    obtain ⟨q, hq, rfl, HA, HF, HR, HB⟩ := hrel
    by_cases hlt : q < l.length
    · have hltz : (q : Int) < (l.length : Int) := by omega
      obtain ⟨_, hv2⟩ := HC.out q hlt
      have c1 := (HB.out.cell (p := ⟨b, off + q, none⟩) hbw).trans (HCC.out q hlt)
      by_cases hp : 0 < v q
      · have hpz : (0 : Int) < (v q : Int) := by omega
        have v41 : (v q : Int) < 41 := by omega
        have v5 : v q < 41 := by omega
        have n0 := HA.out.cell (v q) v5
        have f0 := Cel.frozen HA.out (v q)
        have hle := cl_le v (v q) q
        have HA1 : Hid (A41 (wr.setCell ⟨gc, v q, none⟩ (.int .u64 ((cl v (v q) q + 1 : Nat) : Int))) gc (fun L => cl v L (q + 1))) := by
          have e : cl v (v q) (q + 1) = cl v (v q) q + 1 := by show cl v (v q) q + _ = _; rw [if_pos ⟨hp, rfl⟩]
          have := HA.out.set (fun L => cl v L (q + 1)) (v q) v5 (fun j _ hj => by show cl v j q + _ = _; rw [if_neg (fun x => hj x.2.symm)]; rfl)
          rw [e] at this
          exact this
        have HF1 : Hid (∀ y, A41 (wr.setCell ⟨gc, v q, none⟩ y) gf (fun _ => 0)) := fun y => Cel.other HF.out (by show gf ≠ gc; omega) y
        have HR1 : Hid (∀ y, A41 (wr.setCell ⟨gc, v q, none⟩ y) w.heap.size (fun _ => 0)) := fun y => Cel.other HR.out (by show w.heap.size ≠ gc; omega) y
        have HB1 : Hid (∀ y, Below w.heap.size w (wr.setCell ⟨gc, v q, none⟩ y)) := fun y => HB.out.setCell (by show w.heap.size ≤ gc; omega) y
        clear HA HF HR HB
        generalize cl v (v q) q = C at *
        generalize v q = x at *
        go_wp2
        exact ⟨⟨q + 1, by omega, by go_num, HA1, HF1.out _, HR1.out _, HB1.out _⟩, by simp only [intOf]; omega⟩
      · have hpz : ¬ (0 : Int) < (v q : Int) := by omega
        have HA1 : Hid (A41 wr gc (fun L => cl v L (q + 1))) := by
          have e : (fun L => cl v L (q + 1)) = (fun L => cl v L q) := by funext L; show cl v L q + _ = _; rw [if_neg (fun x => hp x.1)]; rfl
          rw [e]; exact HA.out
        clear HA
        generalize v q = x at *
        go_wp2
        exact ⟨⟨q + 1, by omega, by go_num, HA1, HF, HR, HB⟩, by simp only [intOf]; omega⟩
    · obtain rfl : q = l.length := by omega
      have HA1 : Hid (A41 wr gc (fun L => cl v L 256)) := by have := HA.out; rw [HL.out] at this; exact this
      have HF1 : Hid (A41 wr gf (fsP v 0)) := by
        have e : fsP v 0 = fun _ => 0 := by
          funext j
          unfold fsP
          split
          · rename_i h; obtain rfl : j = 0 := by omega
            rfl
          · rfl
        rw [e]; exact HF.out
      clear HA HF HCC HC HL
      go_wp2
      go_loopw [22] (fun vi wr => ∃ L : Nat, L ≤ 40 ∧ vi = .int .i64 L ∧ Hid (A41 wr gc (fun L => cl v L 256)) ∧ Hid (A41 wr gf (fsP v L)) ∧ Hid (A41 wr w.heap.size (fun _ => 0)) ∧ Hid (Below w.heap.size w wr)) (fun vi _ => 40 - (intOf vi).toNat)
      case atStart => exact ⟨0, Nat.zero_le _, rfl, HA1, HF1, HR, HB⟩
      case round =>
        clear HA1 HF1 HR HB
        obtain ⟨L, hL, rfl, HA, HF, HR, HB⟩ := hrel
        by_cases hL2 : L < 40
        · have hLz : (L : Int) < 40 := by omega
          have L41 : (L : Int) < 41 := by omega
          have L42 : (L : Int) + 1 < 41 := by omega
          have p0 : (0 : Int) ≤ (L : Int) + 1 := by omega
          have e0 : ((L : Int) + 1).toNat = L + 1 := by omega
          have wL : IntKind.i64.wrap ((L : Int) + 1) = (L : Int) + 1 := by rw [IntKind.wrap_i64]; omega
          have hfl := HFL.out L hL
          have HFN : Hid (fsP v L L = Ka.fst v L ∧ fsP v (L + 1) (L + 1) = 2 * (Ka.fst v L + cl v L 256) ∧ ∀ j, j < 41 → j ≠ L + 1 → fsP v (L + 1) j = fsP v L j) := by
            refine ⟨by unfold fsP; rw [if_pos (Nat.le_refl _)], by unfold fsP; rw [if_pos (Nat.le_refl _)]; rfl, fun j _ hj => ?_⟩
            unfold fsP
            by_cases c : j ≤ L
            · rw [if_pos c, if_pos (by omega)]
            · rw [if_neg c, if_neg (by omega)]
          obtain ⟨X, hX⟩ : ∃ X : Nat, Hid (X = Ka.fst v L) := ⟨_, rfl⟩
          obtain ⟨Z, hZ⟩ : ∃ Z : Nat, Hid (Z = cl v L 256) := ⟨_, rfl⟩
          rw [← hX.out, ← hZ.out] at hfl HFN
          go_wp2
          refine region_g [11] (fun w' => A41 w' gc (fun L => cl v L 256) ∧ A41 w' gf (fsP v L)) (by kernel_rfl) ?_
          have hS : A41 wr.drew gc (fun L => cl v L 256) ∧ A41 wr.drew gf (fsP v L) := ⟨HA.out.drew, HF.out.drew⟩
          replace HR : Hid (A41 wr.drew w.heap.size (fun _ => 0)) := HR.out.drew
          replace HB : Hid (Below w.heap.size w wr.drew) := HB.out.drew
          clear HA HF
          generalize wr.drew = Y at *
          refine AnyG.take 0 (v := ?vv1) rfl (by kernel_rfl) (by kernel_rfl) (by kernel_rfl) (by kernel_rfl) (fun _ _ _ h => h) hS ?hy1 (by rfl) ?rest1
          case hy1 =>
            intro w0 h0
            go_simp
            try with_reducible rfl
          simp only [Act.put, List.getElem_toArray, List.getElem_cons_zero, List.getElem_cons_succ, List.setIfInBounds_toArray, List.set_cons_zero, List.set_cons_succ]
          refine AnyG.take 1 (v := ?vv2) rfl (by kernel_rfl) (by kernel_rfl) (by kernel_rfl) (by kernel_rfl) (fun _ _ _ h => h) hS ?hy2 (by rfl) ?rest2
          case hy2 =>
            intro w0 h0
            go_simp
            try with_reducible rfl
          simp only [Act.put, List.getElem_toArray, List.getElem_cons_zero, List.getElem_cons_succ, List.setIfInBounds_toArray, List.set_cons_zero, List.set_cons_succ]
          refine AnyG.take 2 (v := ?vv3) rfl (by kernel_rfl) (by kernel_rfl) (by kernel_rfl) (by kernel_rfl) (fun _ _ _ h => h) hS ?hy3 (by rfl) ?rest3
          case hy3 =>
            intro w0 h0
            go_simp
            try with_reducible rfl
          simp only [Act.put, List.getElem_toArray, List.getElem_cons_zero, List.getElem_cons_succ, List.setIfInBounds_toArray, List.set_cons_zero, List.set_cons_succ]
          refine AnyG.take 3 (v := ?vv4) rfl (by kernel_rfl) (by kernel_rfl) (by kernel_rfl) (by kernel_rfl) (fun _ _ _ h => h) hS ?hy4 (by rfl) ?rest4
          case hy4 =>
            intro w0 h0
            go_simp
            try with_reducible rfl
          simp only [Act.put, List.getElem_toArray, List.getElem_cons_zero, List.getElem_cons_succ, List.setIfInBounds_toArray, List.set_cons_zero, List.set_cons_succ]
          refine AnyG.take 4 (v := ?vv5) rfl (by kernel_rfl) (by kernel_rfl) (by kernel_rfl) (by kernel_rfl) (fun _ _ _ h => h) hS ?hy5 (by rfl) ?rest5
          case hy5 =>
            intro w0 h0
            have k0 : w0.cell? ⟨gc, L, none⟩ = some (.int .u64 (Z : Nat)) := by rw [hZ.out]; exact h0.1.cell L (by omega)
            have k1 : w0.cell? ⟨gf, L, none⟩ = some (.int .u64 (X : Nat)) := by rw [← HFN.out.1]; exact h0.2.cell L (by omega)
            go_simp
            try with_reducible rfl
          simp only [Act.put, List.getElem_toArray, List.getElem_cons_zero, List.getElem_cons_succ, List.setIfInBounds_toArray, List.set_cons_zero, List.set_cons_succ]
          refine AnyG.take 5 (v := ?vv6) rfl (by kernel_rfl) (by kernel_rfl) (by kernel_rfl) (by kernel_rfl) (fun _ _ _ h => h) hS ?hy6 (by rfl) ?rest6
          case hy6 =>
            intro w0 h0
            go_simp
            try with_reducible rfl
          simp only [Act.put, List.getElem_toArray, List.getElem_cons_zero, List.getElem_cons_succ, List.setIfInBounds_toArray, List.set_cons_zero, List.set_cons_succ]
          refine AnyG.take 6 (v := ?vv7) rfl (by kernel_rfl) (by kernel_rfl) (by kernel_rfl) (by kernel_rfl) (fun _ _ _ h => h) hS ?hy7 (by rfl) ?rest7
          case hy7 =>
            intro w0 h0
            go_simp
            try with_reducible rfl
          simp only [Act.put, List.getElem_toArray, List.getElem_cons_zero, List.getElem_cons_succ, List.setIfInBounds_toArray, List.set_cons_zero, List.set_cons_succ]
          refine AnyG.take 7 (v := ?vv8) rfl (by kernel_rfl) (by kernel_rfl) (by kernel_rfl) (by kernel_rfl) (fun _ _ _ h => h) hS ?hy8 (by rfl) ?rest8
          case hy8 =>
            intro w0 h0
            have k0 : w0.cell? ⟨gc, L, none⟩ = some (.int .u64 (Z : Nat)) := by rw [hZ.out]; exact h0.1.cell L (by omega)
            have k1 : w0.cell? ⟨gf, L, none⟩ = some (.int .u64 (X : Nat)) := by rw [← HFN.out.1]; exact h0.2.cell L (by omega)
            go_simp
            try with_reducible rfl
          simp only [Act.put, List.getElem_toArray, List.getElem_cons_zero, List.getElem_cons_succ, List.setIfInBounds_toArray, List.set_cons_zero, List.set_cons_succ]
          have ws : IntKind.u64.wrap ((X : Int) + (Z : Int)) = ((X + Z : Nat) : Int) := by rw [IntKind.wrap_u64]; omega
          have ws2 : IntKind.u64.wrap (((X : Int) + (Z : Int)) * 2) = ((2 * (X + Z) : Nat) : Int) := by rw [IntKind.wrap_u64]; omega
          refine AnyG.take 8 (v := ?vv9) rfl (by kernel_rfl) (by kernel_rfl) (by kernel_rfl) (by kernel_rfl) (fun _ _ _ h => h) hS ?hy9 (by rfl) ?rest9
          case hy9 =>
            intro w0 h0
            go_simp
            try with_reducible rfl
          simp only [Act.put, List.getElem_toArray, List.getElem_cons_zero, List.getElem_cons_succ, List.setIfInBounds_toArray, List.set_cons_zero, List.set_cons_succ]
          refine AnyG.take 9 (v := ?vv10) rfl (by kernel_rfl) (by kernel_rfl) (by kernel_rfl) (by kernel_rfl) (fun _ _ _ h => h) hS ?hy10 (by rfl) ?rest10
          case hy10 =>
            intro w0 h0
            go_simp
            try with_reducible rfl
          simp only [Act.put, List.getElem_toArray, List.getElem_cons_zero, List.getElem_cons_succ, List.setIfInBounds_toArray, List.set_cons_zero, List.set_cons_succ]
          refine AnyG.takeW 10 (v := ?vv11) rfl (by kernel_rfl) (by kernel_rfl) (by kernel_rfl) (fun _ _ _ h => h) ?hy11 (by rfl) ?rest11
          case hy11 =>
            intro w0
            go_simp
            try with_reducible rfl
          simp only [Act.put, List.getElem_toArray, List.getElem_cons_zero, List.getElem_cons_succ, List.setIfInBounds_toArray, List.set_cons_zero, List.set_cons_succ]
          clear ws ws2
          refine AnyG.one 11 (by kernel_rfl) rfl ?_
          intro K hK
          have n0 := hS.2.cell (L + 1) (by omega)
          have f0 := Cel.frozen hS.2 (L + 1)
          go_simp
          refine hK.out _ _ (fun h => absurd (by decide) h) ?_
          clear hK K
          try simp only [Act.put, List.getElem_toArray, List.getElem_cons_zero, List.getElem_cons_succ, List.setIfInBounds_toArray, List.set_cons_zero, List.set_cons_succ]
          refine AnyG.done (by kernel_rfl) ?_ _
          clear n0 f0
          have e2 : (2 * ((X : Int) + (Z : Int))) = ((2 * (X + Z) : Nat) : Int) := by omega
          rw [e2]
          have HF1 : Hid (A41 (Y.setCell ⟨gf, L + 1, none⟩ (.int .u64 ((2 * (X + Z) : Nat) : Int))) gf (fsP v (L + 1))) := by
            have := hS.2.set (fsP v (L + 1)) (L + 1) (by omega) HFN.out.2.2
            rw [HFN.out.2.1] at this
            exact this
          have HA1 : Hid (A41 (Y.setCell ⟨gf, L + 1, none⟩ (.int .u64 ((2 * (X + Z) : Nat) : Int))) gc (fun L => cl v L 256)) := Cel.other hS.1 (by show gc ≠ gf; omega) _
          have HR1 : Hid (A41 (Y.setCell ⟨gf, L + 1, none⟩ (.int .u64 ((2 * (X + Z) : Nat) : Int))) w.heap.size (fun _ => 0)) := Cel.other HR.out (by show w.heap.size ≠ gf; omega) _
          have HB1 : Hid (Below w.heap.size w (Y.setCell ⟨gf, L + 1, none⟩ (.int .u64 ((2 * (X + Z) : Nat) : Int)))) := HB.out.setCell (by show w.heap.size ≤ gf; omega) _
          clear e2 hS HR HB HFN hX hZ hfl
          generalize Y.setCell ⟨gf, L + 1, none⟩ (.int .u64 ((2 * (X + Z) : Nat) : Int)) = Y2 at *
          go_wp2
          exact ⟨⟨L + 1, by omega, by go_num, HA1, HF1, HR1, HB1⟩, by simp only [intOf]; omega⟩
        · obtain rfl : L = 40 := by omega
          have hF : A41 wr gf (Ka.fst v) := by
            have e : wvh (a41 (fsP v 40)) = wvh (a41 (Ka.fst v)) := by rw [a41_cong (g := Ka.fst v) fun j hj => by unfold fsP; rw [if_pos (by omega)]]
            have := HF.out
            unfold A41 at this ⊢
            rw [e] at this
            exact this
          have hR := HR.out
          clear HA HF HR
          go_wp2_with (first | refine load_41 gf _ rfl hF ?_ | refine store_41 w.heap.size _ _ rfl rfl hR ?_)
          intro w5 hc5 hb5
          have HC : Hid (A41 w5 w.heap.size (Ka.fst v)) := hc5
          have HB5 : Hid (Below w.heap.size w w5) := HB.out.trans (hb5.below (Nat.le_refl _))
          clear hc5 hb5 hF hR
          go_wp2
          (try simp only [Exit.inBlock, Exit.then])
          exact bodyPost_ret (results_cell_row rfl _ _ _ _ _ _ _ rfl HC.out Try.underlying60 rfl (size_41 _)) rfl ⟨rfl, HB5.out⟩
end Go.Proofs.Ytcjhiolginpgoaa
