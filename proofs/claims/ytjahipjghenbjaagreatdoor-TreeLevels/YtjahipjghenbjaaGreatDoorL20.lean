/-
  Trees in memory; the contract of the program's Check.
-/
import Derived.Test.YtjahipjghenbjaaGreatDoorL19
set_option linter.unusedVariables false
set_option linter.unusedSimpArgs false
set_option maxRecDepth 100000
set_option maxHeartbeats 16000000
namespace Go.Proofs.YtjahipjghenbjaaGreatDoor
open Go.RowKit Num Bit
structure TR where
 K : Int
 N : Int
 av : List RA
def ra0 : RA := ⟨0, n7, n8, n9⟩
def lw (x : TR) (l : Nat) : RA := x.av.getD l ra0
def Lv (w : World) (lo : Option Addr) (av : List RA) : Prop :=
 0 < av.length → ∃ b off, lo = some ⟨b, off, none⟩ ∧ b < w.heap.size ∧ ∀ l, l < av.length → ∃ cs, w.rangeAt b (off + l * 22) cs ∧ KI w cs (av.getD l ra0)
theorem range_keep {w w' : World} {b o base : Nat} {cs : List Value} (h : w.rangeAt b o cs) (hb : Below base w w') (hl : b < base) : w'.rangeAt b o cs := fun j v hv => (hb.cell (p := ⟨b, o + j, none⟩) hl).trans (h j v hv)
theorem Lv.keep {w w' : World} {lo : Option Addr} {av : List RA} (h : Lv w lo av) (hb : Below w.heap.size w w') : Lv w' lo av := by
 intro h0
 obtain ⟨b, off, e, hlt, hc⟩ := h h0
 refine ⟨b, off, e, Nat.lt_of_lt_of_le hlt hb.size, fun l hl => ?_⟩
 obtain ⟨cs, h1, h2⟩ := hc l hl
 exact ⟨cs, range_keep h1 hb hlt, h2.keep hb⟩
structure TI (w : World) (lo : Option Addr) (cap : Nat) (x : TR) : Prop where
 k : I64 x.K
 n : I64 x.N
 c : x.av.length ≤ cap
 l : Lv w lo x.av
theorem TI.keep {w w' : World} {lo : Option Addr} {cap : Nat} {x : TR} (h : TI w lo cap x) (hb : Below w.heap.size w w') : TI w' lo cap x := ⟨h.k, h.n, h.c, h.l.keep hb⟩
def lOk (x : TR) (l : Nat) : Bool := decide ((lw x l).K = x.K) && (kOk (lw x l) && decide (kBN (lw x l) = x.N))
def tOk (x : TR) : Bool := decide (x.N ≤ 8192) && (decide (x.av.length = 8) && (List.range 8).all (lOk x))
theorem tOk_out (x : TR) (h : tOk x = true) : x.N ≤ 8192 ∧ x.av.length = 8 ∧ ∀ l, l < 8 → (lw x l).K = x.K ∧ kOk (lw x l) = true ∧ kBN (lw x l) = x.N := by
 unfold tOk at h
 simp only [Bool.and_eq_true, decide_eq_true_eq, List.all_eq_true] at h
 refine ⟨h.1, h.2.1, fun l hl => ?_⟩
 have := h.2.2 l (List.mem_range.2 hl)
 unfold lOk at this
 simp only [Bool.and_eq_true, decide_eq_true_eq] at this
 exact this
theorem tOk_nat (x : TR) (h : tOk x = true) : ∃ n : Nat, x.N = n ∧ n ≤ 8192 := by
 obtain ⟨h1, h2, h3⟩ := tOk_out x h
 obtain ⟨_, h5, h6⟩ := h3 0 (by omega)
 obtain ⟨h0, _⟩ := chk_out _ _ (kB_chk _ h5)
 exact ⟨x.N.toNat, by omega, by omega⟩
theorem tOk_no {x : TR} (l : Nat) (hl : l < 8) (h : lOk x l = false) : tOk x = false := by
 refine Bool.eq_false_iff.2 fun e => ?_
 unfold tOk at e
 simp only [Bool.and_eq_true, List.all_eq_true] at e
 rw [e.2.2 l (List.mem_range.2 hl)] at h
 cases h
theorem tOk_yes {x : TR} (h1 : x.N ≤ 8192) (h2 : x.av.length = 8) (h : ∀ l, l < 8 → lOk x l = true) : tOk x = true := by
 unfold tOk
 simp only [Bool.and_eq_true, decide_eq_true_eq, List.all_eq_true]
 exact ⟨h1, h2, fun l hl => h l (List.mem_range.1 hl)⟩
theorem run_load_part {T : TypeId} {w : World} {x : Operand} {ρ : Operand → Value} {d : Option Tmp} {ty : TypeId} {ps : String} {af : Array Edge} {gd : Option (Nat × Bool)}
  (g o : Nat) (cs : List Value) {fs : Array Field} (hx : ρ x = .pointer (some ⟨g, o, none⟩)) (hc : w.rangeAt g o cs) (hu : Tryz.prog.underlying T = some (.struct fs)) (hi : (Tryz.prog.info? T).map (·.size) = some cs.length) :
  (execOp ρ (⟨d, .load T x, ty, ps, af, gd⟩ : Oper)).run Tryz.prog w = .ok (.value (.agg cs.toArray)) w := by
 have hl := run_loadVar_mid (P := Tryz.prog) w g o T cs _ hc hu rfl hi
 unfold execOp
 simp only [hx, Instr.loadAt, Instr.sureAddr, Sem.run_bind, Sem.run_pure, Result.andThen_ok, hl]
theorem KArg.head {w : World} {cs : List Value} {a : RA} (h : KArg w cs a) : cs[0]? = some (.int .i64 a.K) := by
 obtain ⟨cp, cr, cf, rfl, _⟩ := h
 rfl
def zv : List Value := [.int .i64 0, .int .i64 0, .slice none 0 0, .slice none 0 0, .slice none 0 0, .int .i64 0, .int .i64 0, .int .i64 0, .int .i64 0, .slice none 0 0, .int .i64 0, .slice none 0 0, .slice none 0 0, .slice none 0 0, .int .i64 0, .int .i64 0, .int .i64 0, .int .i64 0, .int .i64 0, .slice none 0 0, .int .i64 0, .slice none 0 0]
theorem info_zv : (Tryz.prog.info? 45).map (fun i => (i.zero, i.size)) = some (some (.agg zv.toArray), zv.length) := by kernel_rfl
theorem len_zv : zv.length = 22 := rfl
theorem check_t {P : RA → Prop} (U : VC P) (lo : Option Addr) (cap : Nat) (x : TR) (w : World) (h : TI w lo cap x) (hp : ∀ l, l < x.av.length → P (lw x l)) :
  Calls Tryz.prog 23 #[.agg #[.int .i64 x.K, .int .i64 x.N, .slice lo x.av.length cap]] w fun e w' => e = .returned (.bool (tOk x)) ∧ Below w.heap.size w w' := by
 have HPP := Hid.mkt hp
 clear hp
 obtain ⟨Z, hZ⟩ : ∃ Z, Hid (Z = tOk x) := ⟨_, rfl⟩
 rw [← hZ.out]
 have HI := Hid.mkt h
 obtain ⟨K, hK⟩ : ∃ K, Hid (K = x.K) := ⟨_, rfl⟩
 obtain ⟨N, hN⟩ : ∃ N, Hid (N = x.N) := ⟨_, rfl⟩
 obtain ⟨m, hm⟩ : ∃ m, Hid (m = x.av.length) := ⟨_, rfl⟩
 rw [← hK.out, ← hN.out, ← hm.out]
 have bx := Cel.new w [.int .i64 K, .int .i64 N, .slice lo m cap] 26
 have bw := below_alloc w (.cells #[.int .i64 K, .int .i64 N, .slice lo m cap] 26)
 by_cases q1 : N ≤ 8192
 rotate_left
 ·have E : Hid (Z = false) := by
   show Z = _
   rw [hZ.out]
   unfold tOk
   rw [decide_eq_false (by rw [← hN.out]; exact q1)]
   rfl
  have q2 : (8192 : Int) < N := by omega
  clear h
  go_enter Tryz.func23, Tryz.ntmps23
  go_wp2
  go_ret
  rw [E.out]
  exact ⟨rfl, bw⟩
 have q1' : ¬ (8192 : Int) < N := by omega
 by_cases q2 : m = 8
 rotate_left
 ·have E : Hid (Z = false) := by
   show Z = _
   rw [hZ.out]
   unfold tOk
   rw [show decide (x.av.length = 8) = false from decide_eq_false (by rw [← hm.out]; exact q2)]
   simp
  have q3 : ((m : Int) != 8) = true := by simp; omega
  clear h
  go_enter Tryz.func23, Tryz.ntmps23
  go_wp2
  go_ret
  rw [E.out]
  exact ⟨rfl, bw⟩
 subst q2
 have hk := h.k
 have hn := h.n
 rw [← hK.out] at hk
 rw [← hN.out] at hn
 clear h
 obtain ⟨b, off, rfl, hbl, hrows⟩ := HI.out.l (by rw [← hm.out]; decide)
 have HR := Hid.mkt hrows
 clear hrows
 go_enter Tryz.func23, Tryz.ntmps23
 go_wp2
 go_loopw [14] (fun s wr => ∃ q : Nat, q ≤ 8 ∧ s = .int .i64 q ∧ Hid (∀ l, l < q → lOk x l = true) ∧ Cel wr w.heap.size [.int .i64 K, .int .i64 N, .slice (some ⟨b, off, none⟩) 8 cap] 26 ∧ Below w.heap.size w wr) (fun s _ => 8 - (intOf s).toNat)
 case atStart => exact ⟨0, Nat.zero_le _, rfl, fun l hl => absurd hl (by omega), bx, bw⟩
 case round =>
  obtain ⟨q, hq, rfl, HA, hx, hb⟩ := hrel
  clear bx bw
  by_cases hi : q < 8
  ·have hi2 : (q : Int) < 8 := by omega
   obtain ⟨cs, hr0, hk0⟩ := HR.out q (by rw [← hm.out]; exact hi)
   have hrg := range_keep hr0 hb hbl
   have hh := Hid.mkt hk0.arg.head
   have HL := Hid.mkt hk0.arg.len
   have H1 := Hid.mkt hk0.arg.one
   have H22 := Hid.mkt (len_zv.trans hk0.arg.nine)
   obtain ⟨A, hA⟩ : ∃ A, Hid (A = lw x q) := ⟨_, rfl⟩
   have hk0' : KI w cs A := by rw [hA.out]; exact hk0
   have C : Hid (∀ w0, Below w.heap.size w w0 → Calls Tryz.prog 47 #[.agg cs.toArray] w0 fun e w' => e = .returned (.bool (kOk A)) ∧ Below w0.heap.size w0 w') := fun w0 h => U.check cs A w0 (hk0'.keep h) (by rw [hA.out]; exact HPP.out q (by rw [← hm.out]; exact hi))
   have L0 := Hid.mkt (fun (ok : kOk A = true) (w0 : World) (h : Below w.heap.size w w0) => length_t cs A w0 (hk0'.keep h) ok)
   have hhA : cs[0]? = some (.int .i64 A.K) := by rw [hA.out]; exact hh.out
   replace hh := Hid.mkt hhA
   have hAK : I64 A.K := by obtain ⟨_, _, _, _, g, _⟩ := hk0'.arg; exact g
   have eL : Hid (lOk x q = (decide (A.K = K) && (kOk A && decide (kBN A = N)))) := by show lOk x q = _; unfold lOk; rw [← hA.out, ← hK.out, ← hN.out]
   clear hk0 hk0' hr0 hhA hA
   generalize A.K = AK at *
   have hz := hb.size
   have x2 := hx.cell 2 rfl
   go_wp2_with (first | refine load_part b (off + q * 22) cs (by rfl) rfl hrg Tryz.underlying45 HL.out ?_ | refine alloc_z zv info_zv ?_)
   intro w1 c1 b1 s1
   go_wp2_with (refine store_cel wr.heap.size zv cs rfl rfl c1 H22.out HL.out H1.out ?_)
   intro w2 c2 o2
   replace hx := o2.cel (hx.kept b1) (by have := hx.lt; omega)
   have b2 := (hb.trans (b1.mono hz)).trans (o2.below hz)
   clear hrg c1 b1 s1 o2 hb x2
   by_cases dK : AK = K
   rotate_left
   ·have dK2 : (AK != K) = true := by simp [dK]
    have E : Hid (Z = false) := by
     show Z = _
     rw [hZ.out]
     refine tOk_no q hi ?_
     rw [eL.out, decide_eq_false dK]
     rfl
    clear C L0 eL
    go_wp2
    refine region_g [] (fun w' => Cel w' wr.heap.size cs 45 ∧ Cel w' w.heap.size [.int .i64 K, .int .i64 N, .slice (some ⟨b, off, none⟩) 8 cap] 26) (by kernel_rfl) ?_
    have hS : Cel w2.drew wr.heap.size cs 45 ∧ Cel w2.drew w.heap.size [.int .i64 K, .int .i64 N, .slice (some ⟨b, off, none⟩) 8 cap] 26 := ⟨c2, hx⟩
    have bW : Below w.heap.size w w2.drew := b2.drew
    generalize w2.drew = V at *
    clear c2 hx b2
    refine AnyG.tk 0 hS ?_
    refine AnyG.tf 1 hS rfl (fun w0 h0 => by have c0 := h0.1.cell 0 hh.out; go_simp; try with_reducible rfl) ?_
    refine AnyG.tk 2 hS ?_
    refine AnyG.tf 3 hS rfl (fun w0 h0 => by have c1 := h0.2.cell 0 rfl; go_simp; try with_reducible rfl) ?_
    refine AnyG.tk 4 hS ?_
    refine AnyG.tk 5 hS ?_
    refine AnyG.sk 6 hS ?_
    refine AnyG.sk 7 hS ?_
    refine AnyG.sk 8 hS ?_
    refine AnyG.tk 9 hS ?_
    refine AnyG.tk 10 hS ?_
    refine AnyG.sk 11 hS ?_
    refine AnyG.sk 12 hS ?_
    refine AnyG.sk 13 hS ?_
    refine AnyG.sk 14 hS ?_
    refine AnyG.sk 15 hS ?_
    refine AnyG.tk 16 hS ?_
    refine AnyG.done (by kernel_rfl) ?_ _
    go_wp2
    go_ret
    rw [E.out]
    exact ⟨rfl, bW⟩
   have dK2 : (AK != K) = false := by simp [dK]
   have dK3 := dK.symm
   subst dK3
   cases ok : kOk A with
   | false =>
    have E : Hid (Z = false) := by
     show Z = _
     rw [hZ.out]
     refine tOk_no q hi ?_
     rw [eL.out, ok]
     simp
    rw [ok] at C
    clear L0 eL
    go_wp2
    refine region_g [] (fun w' => Cel w' wr.heap.size cs 45 ∧ Cel w' w.heap.size [.int .i64 K, .int .i64 N, .slice (some ⟨b, off, none⟩) 8 cap] 26) (by kernel_rfl) ?_
    have hS : Cel w2.drew wr.heap.size cs 45 ∧ Cel w2.drew w.heap.size [.int .i64 K, .int .i64 N, .slice (some ⟨b, off, none⟩) 8 cap] 26 := ⟨c2, hx⟩
    have bW : Below w.heap.size w w2.drew := b2.drew
    generalize w2.drew = V at *
    clear c2 hx b2
    refine AnyG.tk 0 hS ?_
    refine AnyG.tf 1 hS rfl (fun w0 h0 => by have c0 := h0.1.cell 0 hh.out; go_simp; try with_reducible rfl) ?_
    refine AnyG.tk 2 hS ?_
    refine AnyG.tf 3 hS rfl (fun w0 h0 => by have c1 := h0.2.cell 0 rfl; go_simp; try with_reducible rfl) ?_
    refine AnyG.tk 4 hS ?_
    refine AnyG.tk 5 hS ?_
    refine AnyG.take 6 (v := .agg (cs).toArray) rfl (by kernel_rfl) (by kernel_rfl) (by kernel_rfl) (by kernel_rfl) (fun _ _ _ h => h) hS (fun w0 h0 => run_load_obj wr.heap.size _ rfl h0.1 Tryz.underlying45 HL.out) (by rfl) ?rest16
    simp only [Act.put, yq0, yq1, yq2, yq3, yq4, yq5]
    refine AnyG.o1 7 ?_
    intro K hK
    go_simp
    refine (C.out _ bW).mono ?_
    rintro e w4 ⟨rfl, hb4⟩
    have hS2 := And.intro (hS.1.kept hb4) (hS.2.kept hb4)
    have bW2 := bW.trans (hb4.mono bW.size)
    clear hb4
    refine hK.out _ _ (fun _ => hS2) ?_
    clear hK K
    try simp only [Act.put, yq0, yq1, yq2, yq3, yq4, yq5]
    refine AnyG.tk 8 hS2 ?_
    refine AnyG.tk 9 hS2 ?_
    refine AnyG.tk 10 hS2 ?_
    refine AnyG.sk 11 hS2 ?_
    refine AnyG.sk 12 hS2 ?_
    refine AnyG.sk 13 hS2 ?_
    refine AnyG.sk 14 hS2 ?_
    refine AnyG.sk 15 hS2 ?_
    refine AnyG.tk 16 hS2 ?_
    refine AnyG.done (by kernel_rfl) ?_ _
    go_wp2
    go_ret
    rw [E.out]
    exact ⟨rfl, bW2⟩
   | true =>
    have L : Hid (∀ w0, Below w.heap.size w w0 → Calls Tryz.prog 48 #[.agg cs.toArray] w0 fun e w' => e = .returned (.int .i64 (kBN A)) ∧ Below w0.heap.size w0 w') := fun w0 h => L0.out ok w0 h
    rw [ok] at C
    generalize kBN A = M at *
    by_cases dN : M = N
    ·have dN2 : (M != N) = false := by simp [dN]
     have E : Hid (lOk x q = true) := by
      show _ = _
      rw [eL.out, ok, decide_eq_true dN]
      simp
     clear L0 eL
     go_wp2
     refine region_g [] (fun w' => Cel w' wr.heap.size cs 45 ∧ Cel w' w.heap.size [.int .i64 K, .int .i64 N, .slice (some ⟨b, off, none⟩) 8 cap] 26) (by kernel_rfl) ?_
     have hS : Cel w2.drew wr.heap.size cs 45 ∧ Cel w2.drew w.heap.size [.int .i64 K, .int .i64 N, .slice (some ⟨b, off, none⟩) 8 cap] 26 := ⟨c2, hx⟩
     have bW : Below w.heap.size w w2.drew := b2.drew
     generalize w2.drew = V at *
     clear c2 hx b2
     refine AnyG.tk 0 hS ?_
     refine AnyG.tf 1 hS rfl (fun w0 h0 => by have c0 := h0.1.cell 0 hh.out; go_simp; try with_reducible rfl) ?_
     refine AnyG.tk 2 hS ?_
     refine AnyG.tf 3 hS rfl (fun w0 h0 => by have c1 := h0.2.cell 0 rfl; go_simp; try with_reducible rfl) ?_
     refine AnyG.tk 4 hS ?_
     refine AnyG.tk 5 hS ?_
     refine AnyG.take 6 (v := .agg (cs).toArray) rfl (by kernel_rfl) (by kernel_rfl) (by kernel_rfl) (by kernel_rfl) (fun _ _ _ h => h) hS (fun w0 h0 => run_load_obj wr.heap.size _ rfl h0.1 Tryz.underlying45 HL.out) (by rfl) ?rest27
     simp only [Act.put, yq0, yq1, yq2, yq3, yq4, yq5]
     refine AnyG.o1 7 ?_
     intro K hK
     go_simp
     refine (C.out _ bW).mono ?_
     rintro e w4 ⟨rfl, hb4⟩
     have hS2 := And.intro (hS.1.kept hb4) (hS.2.kept hb4)
     have bW2 := bW.trans (hb4.mono bW.size)
     clear hb4
     refine hK.out _ _ (fun _ => hS2) ?_
     clear hK K
     try simp only [Act.put, yq0, yq1, yq2, yq3, yq4, yq5]
     refine AnyG.tk 8 hS2 ?_
     refine AnyG.tk 9 hS2 ?_
     refine AnyG.tk 10 hS2 ?_
     refine AnyG.take 11 (v := .agg (cs).toArray) rfl (by kernel_rfl) (by kernel_rfl) (by kernel_rfl) (by kernel_rfl) (fun _ _ _ h => h) hS2 (fun w0 h0 => run_load_obj wr.heap.size _ rfl h0.1 Tryz.underlying45 HL.out) (by rfl) ?rest31
     simp only [Act.put, yq0, yq1, yq2, yq3, yq4, yq5]
     refine AnyG.tk 13 hS2 ?_
     refine AnyG.tf 14 hS2 rfl (fun w0 h0 => by have c1 := h0.2.cell 1 rfl; go_simp; try with_reducible rfl) ?_
     refine AnyG.o1 12 ?_
     intro K hK
     go_simp
     refine (L.out _ bW2).mono ?_
     rintro e w5 ⟨rfl, hb5⟩
     have hS3 := And.intro (hS2.1.kept hb5) (hS2.2.kept hb5)
     have bW3 := bW2.trans (hb5.mono bW2.size)
     clear hb5
     refine hK.out _ _ (fun _ => hS3) ?_
     clear hK K
     try simp only [Act.put, yq0, yq1, yq2, yq3, yq4, yq5]
     refine AnyG.tk 15 hS3 ?_
     refine AnyG.tk 16 hS3 ?_
     refine AnyG.done (by kernel_rfl) ?_ _
     have HF := Hid.mkt (And.intro hS3.2 bW3)
     clear hS hS2 hS3 bW bW2 bW3
     go_wp2
     refine ⟨⟨q + 1, by omega, by go_num, ?_, HF.out⟩, by simp only [intOf]; omega⟩
     intro l hl
     by_cases e : l = q
     ·subst e; exact E.out
     ·exact HA.out l (by omega)
    ·have dN2 : (M != N) = true := by simp [dN]
     have E : Hid (Z = false) := by
      show Z = _
      rw [hZ.out]
      refine tOk_no q hi ?_
      rw [eL.out, decide_eq_false dN]
      simp
     clear L0 eL
     go_wp2
     refine region_g [] (fun w' => Cel w' wr.heap.size cs 45 ∧ Cel w' w.heap.size [.int .i64 K, .int .i64 N, .slice (some ⟨b, off, none⟩) 8 cap] 26) (by kernel_rfl) ?_
     have hS : Cel w2.drew wr.heap.size cs 45 ∧ Cel w2.drew w.heap.size [.int .i64 K, .int .i64 N, .slice (some ⟨b, off, none⟩) 8 cap] 26 := ⟨c2, hx⟩
     have bW : Below w.heap.size w w2.drew := b2.drew
     generalize w2.drew = V at *
     clear c2 hx b2
     refine AnyG.tk 0 hS ?_
     refine AnyG.tf 1 hS rfl (fun w0 h0 => by have c0 := h0.1.cell 0 hh.out; go_simp; try with_reducible rfl) ?_
     refine AnyG.tk 2 hS ?_
     refine AnyG.tf 3 hS rfl (fun w0 h0 => by have c1 := h0.2.cell 0 rfl; go_simp; try with_reducible rfl) ?_
     refine AnyG.tk 4 hS ?_
     refine AnyG.tk 5 hS ?_
     refine AnyG.take 6 (v := .agg (cs).toArray) rfl (by kernel_rfl) (by kernel_rfl) (by kernel_rfl) (by kernel_rfl) (fun _ _ _ h => h) hS (fun w0 h0 => run_load_obj wr.heap.size _ rfl h0.1 Tryz.underlying45 HL.out) (by rfl) ?rest42
     simp only [Act.put, yq0, yq1, yq2, yq3, yq4, yq5]
     refine AnyG.o1 7 ?_
     intro K hK
     go_simp
     refine (C.out _ bW).mono ?_
     rintro e w4 ⟨rfl, hb4⟩
     have hS2 := And.intro (hS.1.kept hb4) (hS.2.kept hb4)
     have bW2 := bW.trans (hb4.mono bW.size)
     clear hb4
     refine hK.out _ _ (fun _ => hS2) ?_
     clear hK K
     try simp only [Act.put, yq0, yq1, yq2, yq3, yq4, yq5]
     refine AnyG.tk 8 hS2 ?_
     refine AnyG.tk 9 hS2 ?_
     refine AnyG.tk 10 hS2 ?_
     refine AnyG.take 11 (v := .agg (cs).toArray) rfl (by kernel_rfl) (by kernel_rfl) (by kernel_rfl) (by kernel_rfl) (fun _ _ _ h => h) hS2 (fun w0 h0 => run_load_obj wr.heap.size _ rfl h0.1 Tryz.underlying45 HL.out) (by rfl) ?rest46
     simp only [Act.put, yq0, yq1, yq2, yq3, yq4, yq5]
     refine AnyG.tk 13 hS2 ?_
     refine AnyG.tf 14 hS2 rfl (fun w0 h0 => by have c1 := h0.2.cell 1 rfl; go_simp; try with_reducible rfl) ?_
     refine AnyG.o1 12 ?_
     intro K hK
     go_simp
     refine (L.out _ bW2).mono ?_
     rintro e w5 ⟨rfl, hb5⟩
     have hS3 := And.intro (hS2.1.kept hb5) (hS2.2.kept hb5)
     have bW3 := bW2.trans (hb5.mono bW2.size)
     clear hb5
     refine hK.out _ _ (fun _ => hS3) ?_
     clear hK K
     try simp only [Act.put, yq0, yq1, yq2, yq3, yq4, yq5]
     refine AnyG.tk 15 hS3 ?_
     refine AnyG.tk 16 hS3 ?_
     refine AnyG.done (by kernel_rfl) ?_ _
     go_wp2
     go_ret
     rw [E.out]
     exact ⟨rfl, bW3⟩
  ·obtain rfl : q = 8 := by omega
   have E : Hid (Z = true) := by
    show Z = _
    rw [hZ.out]
    exact tOk_yes (by rw [← hN.out]; exact q1) hm.out.symm HA.out
   go_wp2
   go_ret
   rw [E.out]
   exact ⟨rfl, hb⟩
end Go.Proofs.YtjahipjghenbjaaGreatDoor
