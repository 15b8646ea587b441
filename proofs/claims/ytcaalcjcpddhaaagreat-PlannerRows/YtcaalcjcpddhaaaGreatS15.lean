/-
  The contracts of the program's within and of what it calls. The contract of the program's lay: the symbols that stand, sorted. The contract of the function that takes the least thing.
-/
import Derived.Test.YtcaalcjcpddhaaaGreatS13
import Derived.Test.YtcaalcjcpddhaaaGreatS14
set_option linter.unusedVariables false
set_option linter.unusedSimpArgs false
set_option maxRecDepth 100000
namespace Go.Proofs.YtcaalcjcpddhaaaGreat.Zz
open Go.RowKit Num
theorem jout_c (x top : Int) (p : Addr) (w : World) (hc : w.cell? p = some (.int .i64 top)) :
  Calls Tryz.prog 96 #[.int .i64 x, .pointer (some p)] w fun e w' => e = .returned (.bool (bad top x)) ∧ w' = w := by
 by_cases h1 : x < 0
 ·have R : Hid (bad top x = true) := by show bad top x = true; unfold bad; simp [h1]
  go_enter Tryz.func96, Tryz.ntmps96
  go_wp2
  go_ret
  rw [R.out]
  exact ⟨rfl, rfl⟩
 ·have h1' : decide (x < 0) = false := by simpa using h1
  have R : Hid (bad top x = decide (top < x)) := by show bad top x = _; unfold bad; rw [h1']; rfl
  go_enter Tryz.func96, Tryz.ntmps96
  go_wp2
  go_ret
  rw [R.out]
  exact ⟨rfl, rfl⟩
def IdxP (l : List Int) (top : Int) (e : Ending) : Prop := ∃ k : Int, e = .returned (.int .i64 k) ∧ (decide (0 ≤ k) = l.any (bad top))
theorem IdxP.mk {l : List Int} {top : Int} {e : Ending} (k : Int) (h : e = .returned (.int .i64 k)) (h2 : decide (0 ≤ k) = l.any (bad top)) : IdxP l top e := ⟨k, h, h2⟩
set_option maxHeartbeats 2000000 in
theorem jidx_c (ao : Option Addr) (l : List Int) (cap : Nat) (top : Int) (p : Addr) (w : World) (hx : Nd w ao l) (hc : w.cell? p = some (.int .i64 top)) (hp : p.block < w.heap.size) (hl : l.length ≤ 1048576) :
  Calls Tryz.prog 107 #[.slice ao l.length cap, .func (.func 96) #[] #[.pointer (some p)]] w fun e w' => IdxP l top e ∧ Below w.heap.size w w' := by
 have C : Hid (∀ (x : Int) (w0 : World), Below w.heap.size w w0 → Calls Tryz.prog 96 #[.int .i64 x, .pointer (some p)] w0 fun e w' => e = .returned (.bool (bad top x)) ∧ w' = w0) := fun x w0 hb => jout_c x top p w0 ((hb.cell hp).trans hc)
 clear hc
 go_enter Tryz.func107, Tryz.ntmps107
 go_wp2
 go_loopw [8] (fun i wr => ∃ k : Nat, k ≤ l.length ∧ i = .int .i64 k ∧ Hid (∀ j, j < k → bad top (gi l j) = false) ∧ Hid (Below w.heap.size w wr)) (fun i _ => l.length - (intOf i).toNat)
 case atStart => exact ⟨0, by omega, rfl, fun j hj => absurd hj (by omega), Below.refl _ _⟩
 case round =>
  obtain ⟨k, hk, rfl, H, hw⟩ := hrel
  by_cases hlt : k < l.length
  ·obtain ⟨b, off, rfl, hb, hcc⟩ := hx (by omega)
   have e1 := (hw.out.cell (p := ⟨b, off + k, none⟩) hb).trans (hcc k hlt)
   have hlt3 : (k : Int) < (l.length : Int) := by omega
   clear hcc
   have C1 := hide (C.out (gi l k) wr hw.out)
   cases hv : bad top (gi l k) with
   | true =>
    have HA := hide (any_true hlt hv)
    rw [hv] at C1
    go_wp2_with fail
    refine (C1.out).mono ?_
    rintro e w1 ⟨rfl, rfl⟩
    go_wp2
    go_ret
    exact ⟨IdxP.mk _ rfl (by rw [HA.out]; simp), hw.out⟩
   | false =>
    rw [hv] at C1
    have HN : Hid (∀ j, j < k + 1 → bad top (gi l j) = false) := fun j hj => by
     by_cases e : j = k
     ·subst e; exact hv
     ·exact H.out j (by omega)
    clear H hv
    go_wp2_with fail
    refine (C1.out).mono ?_
    rintro e w1 ⟨rfl, rfl⟩
    go_wp2
    exact ⟨⟨k + 1, by omega, by go_num, HN, hw⟩, by simp only [intOf]; omega⟩
  ·have HA := hide (any_false (l := l) (top := top) fun i hi => H.out i (by omega))
   go_wp2
   go_ret
   exact ⟨IdxP.mk _ rfl (by rw [HA.out]; rfl), hw.out⟩
theorem jcont_c (ao : Option Addr) (l : List Int) (cap : Nat) (top : Int) (p : Addr) (w : World) (hx : Nd w ao l) (hc : w.cell? p = some (.int .i64 top)) (hp : p.block < w.heap.size) (hl : l.length ≤ 1048576) :
  Calls Tryz.prog 97 #[.slice ao l.length cap, .func (.func 96) #[] #[.pointer (some p)]] w fun e w' => e = .returned (.bool (l.any (bad top))) ∧ Below w.heap.size w w' := by
 have C := hide (jidx_c ao l cap top p w hx hc hp hl)
 clear hx hc
 go_enter Tryz.func97, Tryz.ntmps97
 go_wp2_with fail
 refine (C.out).mono ?_
 rintro e w1 ⟨⟨k, rfl, hk⟩, hb⟩
 have HK := hide hk
 clear hk
 go_wp2
 go_ret
 exact ⟨ret_bool HK.out, hb⟩
set_option maxHeartbeats 2000000 in
theorem jwithin_c (ao : Option Addr) (l : List Int) (cap : Nat) (top : Int) (w : World) (hx : Nd w ao l) (hl : l.length ≤ 1048576) :
  Calls Tryz.prog 74 #[.slice ao l.length cap, .int .i64 top] w fun e w' => e = .returned (.bool (win l top)) ∧ Below w.heap.size w w' := by
 have W0 : Cel (w.alloc (.cells #[.int .i64 top] 3)) w.heap.size [.int .i64 top] 3 := Cel.new w _ _
 by_cases h : l.length = 256
 ·have C := hide (jcont_c ao l cap top ⟨w.heap.size, 0, none⟩ (w.alloc (.cells #[.int .i64 top] 3)) (hx.keep (below_alloc w _)) (W0.cell 0 rfl) W0.lt hl)
  have R : Hid (win l top = !l.any (bad top)) := by show win l top = _; unfold win; simp [h]
  have h2 : ((l.length : Int) == 256) = true := by simp; omega
  have hb0 := hide (below_alloc w (.cells #[.int .i64 top] 3))
  clear h hx W0
  generalize l.any (bad top) = v at *
  go_enter Tryz.func74, Tryz.ntmps74
  go_wp2_with fail
  refine (C.out).mono ?_
  rintro e w1 ⟨rfl, hb⟩
  have HB := hide (hb0.out.trans (hb.mono (by simp)))
  clear hb
  go_wp2
  go_ret
  rw [R.out]
  exact ⟨rfl, HB.out⟩
 ·have R : Hid (win l top = false) := by show win l top = _; unfold win; simp [h]
  have h2 : ((l.length : Int) == 256) = false := by simp; omega
  clear h hx W0
  go_enter Tryz.func74, Tryz.ntmps74
  go_wp2
  go_ret
  rw [R.out]
  exact ⟨rfl, below_alloc w _⟩
end Go.Proofs.YtcaalcjcpddhaaaGreat.Zz
namespace Go.Proofs.YtcaalcjcpddhaaaGreat.Zz
open Go.RowKit Num Ji Hp
theorem used_pair (cnt : Nat → Nat) (k : Nat) : (used cnt k).Pairwise (· < ·) := List.Pairwise.filter _ List.pairwise_lt_range
theorem laid_cr (u : List Nat) (cnt : Nat → Nat) (h : u.Pairwise (· < ·)) : ∀ p q, p < q → q < u.length → Sx.Cr cT ltT (laidL u cnt p) (laidL u cnt q) := by
 intro p q h1 h2
 refine cr_of _ _ ?_
 unfold laidL
 rw [if_pos (by omega), if_pos h2]
 show u.getD p 0 < u.getD q 0
 have := List.pairwise_iff_getElem.1 h p q (by omega) h2 h1
 rw [List.getD_eq_getElem?_getD, List.getD_eq_getElem?_getD, List.getElem?_eq_getElem (by omega), List.getElem?_eq_getElem h2]
 exact this
def NdB (g : Nat) (w : World) (ao : Option Addr) (l : List Int) : Prop := ∃ b off, ao = some ⟨b, off, none⟩ ∧ b < g ∧ b < w.heap.size ∧ ∀ i, i < l.length → w.cell? ⟨b, off + i, none⟩ = some (.int .i64 (gi l i))
set_option maxHeartbeats 4000000 in
theorem jlay_c (g : Nat) (ao : Option Addr) (l : List Int) (cap : Nat) (w : World) (hT : TH w g (fun _ => th0)) (hl : l.length = 256) (hb : ∀ i, i < l.length → 0 ≤ gi l i ∧ gi l i ≤ 1048576) (hN : NdB g w ao l) :
  Calls Tryz.prog 75 #[.pointer (some ⟨g, 0, none⟩), .slice ao l.length cap] w fun e w' => e = .returned (.int .i64 ((used (cntOf l) 256).length : Nat)) ∧ SO g w (fun f' => Srt (cntOf l) (used (cntOf l) 256).length f') w' := by
 obtain ⟨cnt, hcnt⟩ : ∃ cnt, Hid (cnt = cntOf l) := ⟨_, rfl⟩
 have HT : Hid (TH w g (laidL (used cnt 0) cnt)) := by
  show TH w g (laidL [] cnt)
  rw [laid_nil]; exact hT
 have HC : Hid (∀ i, i < l.length → gi l i = (cnt i : Int) ∧ cnt i ≤ 1048576) := fun i hi => by
  have := hb i hi
  rw [hcnt.out]
  unfold cntOf
  omega
 rw [← hcnt.out]
 obtain ⟨b, off, rfl, hbg, hbw, hcc⟩ := hN
 have HCC := hide hcc
 have CS : Hid (∀ (L : Nat) (w0 : World), L = (used cnt 256).length → TH w0 g (laidL (used cnt 256) cnt) → Calls Tryz.prog 98 #[.slice (some ⟨g, 0, none⟩) L 511, .func (.func 99) #[] #[]] w0 fun e w' => e = .returned (.tuple #[]) ∧ SO g w0 (fun f' => Sx.Im 0 L (laidL (used cnt 256) cnt) f' ∧ Sx.Up ltT 0 L f') w') := fun L w0 e hF => by
  subst e
  exact jsort_c g _ 511 _ w0 hF (by have := used_len cnt 256; omega) (laid_cr _ cnt (used_pair cnt 256))
 have HL := hide hl
 have l256 : l.length ≤ 256 := by omega
 clear hT hcc hb hl hcnt
 go_enter Tryz.func75, Tryz.ntmps75
 go_wp2
 go_loopw [5, 10] (fun vn vi wr => ∃ (q n : Nat), q ≤ l.length ∧ n ≤ q ∧ vi = .int .i64 q ∧ vn = .int .i64 n ∧ Hid (n = (used cnt q).length) ∧ Hid (TH wr g (laidL (used cnt q) cnt)) ∧ Hid (Bar g w wr)) (fun _ vi _ => l.length - (intOf vi).toNat)
 case atStart => exact ⟨0, 0, by omega, by omega, rfl, rfl, rfl, HT, Bar.refl _ _⟩
 case round =>
  obtain ⟨q, n, hq, hnq, rfl, rfl, Hn, HH, HB⟩ := hrel
  clear HT
  by_cases hlt : q < l.length
  ·have hltz : (q : Int) < (l.length : Int) := by omega
   obtain ⟨hv, hv2⟩ := HC.out q hlt
   have c1 : wr.cell? ⟨b, off + q, none⟩ = some (.int .i64 (cnt q : Nat)) := by
    rw [← hv]
    exact ((HB.out.below (base := min g w.heap.size) (by omega) (by omega)).cell (p := ⟨b, off + q, none⟩) (by show b < _; omega)).trans (HCC.out q hlt)
   have n511 : (n : Int) < 511 := by omega
   by_cases hp : 0 < cnt q
   ·have hpz : (0 : Int) < (cnt q : Int) := by omega
    have HS : Hid (upd (laidL (used cnt q) cnt) n (th1 cnt q) = laidL (used cnt (q + 1)) cnt ∧ n + 1 = (used cnt (q + 1)).length) := by
     have e := Hn.out
     rw [Hv.used_succ, if_pos hp, e]
     exact ⟨laid_step _ _ _, by simp⟩
    have HH0 := HH.out
    clear hv
    go_wp2_with (refine wpList_store_th g _ n _ (th1 cnt q) (by omega) ?e rfl rfl HH0 ?_)
    case e => omega
    intro w1 hT1 hB1
    rw [HS.out.1] at hT1
    have HT1 := hide hT1
    have HB1 := hide (HB.out.trans hB1)
    clear hT1 hB1 HH0 HH HB c1
    go_wp2
    exact ⟨⟨q + 1, n + 1, by omega, by omega, by go_num, by go_num, HS.out.2, HT1, HB1⟩, by simp only [intOf]; omega⟩
   ·have hpz : ¬ (0 : Int) < (cnt q : Int) := by omega
    have HS : Hid (laidL (used cnt q) cnt = laidL (used cnt (q + 1)) cnt ∧ n = (used cnt (q + 1)).length) := by
     have e := Hn.out
     rw [Hv.used_succ, if_neg hp, List.append_nil, ← e]
     exact ⟨rfl, rfl⟩
    have HH0 : Hid (TH wr g (laidL (used cnt (q + 1)) cnt)) := by show TH wr g _; rw [← HS.out.1]; exact HH.out
    clear hv HH
    go_wp2
    exact ⟨⟨q + 1, n, by omega, by omega, by go_num, rfl, HS.out.2, HH0, HB⟩, by simp only [intOf]; omega⟩
  ·obtain rfl : q = l.length := by omega
   have HH1 : Hid (TH wr g (laidL (used cnt 256) cnt)) := by rw [HL.out] at HH; exact HH
   have Hn1 : Hid (n = (used cnt 256).length) := by rw [HL.out] at Hn; exact Hn
   have n511 : (n : Int) ≤ 511 := by omega
   clear HH Hn HL HCC HC hlt hq
   go_wp2_with fail
   refine (CS.out n _ Hn1.out HH1.out).mono ?_
   rintro e w1 ⟨rfl, f', hT', hP, hB⟩
   have HT1 := hide hT'
   have HB1 := hide (HB.out.trans hB)
   have HP : Hid (Srt cnt n f') := ⟨Hn1.out, hP.1, hP.2⟩
   clear hT' hB hP
   go_wp2
   go_ret
   rw [← Hn1.out]
   exact ⟨rfl, SO.mk _ HT1.out HP.out HB1.out⟩
end Go.Proofs.YtcaalcjcpddhaaaGreat.Zz
namespace Go.Proofs.YtcaalcjcpddhaaaGreat.Zz
open Go.RowKit Num Ji
structure Two (g h : Nat) (w w' : World) : Prop where
 os : w'.os = w.os
 tape : w'.tape = w.tape
 output : w'.output = w.output
 size : w'.heap.size = w.heap.size
 block : ∀ k, k ≠ g → k ≠ h → w'.heap[k]? = w.heap[k]?
theorem Two.of1 {g h : Nat} {w w' : World} (o : Only g w w') : Two g h w w' := ⟨o.os, o.tape, o.output, o.size, fun k h1 _ => o.block k h1⟩
theorem Two.of2 {g h : Nat} {w w' : World} (o : Only h w w') : Two g h w w' := ⟨o.os, o.tape, o.output, o.size, fun k _ h2 => o.block k h2⟩
theorem Two.cel {g h b : Nat} {w w' : World} {cs : List Value} {T : TypeId} (t : Two g h w w') (hc : Cel w b cs T) (h1 : b ≠ g) (h2 : b ≠ h) : Cel w' b cs T := (t.block b h1 h2).trans hc
theorem Only.drewN (g : Nat) (w : World) : ∀ n, Only g w (w.drewN n)
 | 0 => Only.refl g w
 | n + 1 => by
  have h := Only.drewN g w n
  exact ⟨h.os, h.tape, h.output, h.size, h.block⟩
def LP (g gm gs n : Nat) (f : Nat → T4) (s m e : Nat) (w : World) (ret : Ending) (w' : World) : Prop :=
 ∃ a s' m', ret = .returned (.int .i64 (a : Nat)) ∧ Pick n f s m e a s' m' ∧ Cel w' gm [.int .i64 (m' : Nat)] 3 ∧ Cel w' gs [.int .i64 (s' : Nat)] 3 ∧ Two gm gs w w'
theorem LP.mk {g gm gs n : Nat} {f : Nat → T4} {s m e : Nat} {w : World} {ret : Ending} {w' : World} (a s' m' : Nat) (h : ret = .returned (.int .i64 (a : Nat))) (h2 : Pick n f s m e a s' m') (h3 : Cel w' gm [.int .i64 (m' : Nat)] 3) (h4 : Cel w' gs [.int .i64 (s' : Nat)] 3) (h5 : Two gm gs w w') : LP g gm gs n f s m e w ret w' := ⟨a, s', m', h, h2, h3, h4, h5⟩
set_option maxHeartbeats 4000000 in
theorem jleast_c (g gm ge gs gn ga n s m e : Nat) (f : Nat → T4) (w : World) (hT : TH w g f) (cm : Cel w gm [.int .i64 (m : Nat)] 3) (ce : Cel w ge [.int .i64 (e : Nat)] 3) (cs : Cel w gs [.int .i64 (s : Nat)] 3) (cn : Cel w gn [.int .i64 (n : Nat)] 3) (ca : Cel w ga [.pointer (some ⟨g, 0, none⟩)] 152)
  (hms : gm ≠ gs) (h1 : s ≤ n) (h2 : n ≤ m) (h3 : m ≤ e) (h4 : e ≤ 510) (h5 : s < n ∨ m < e) :
  Calls Tryz.prog 101 #[.pointer (some ⟨gm, 0, none⟩), .pointer (some ⟨ge, 0, none⟩), .pointer (some ⟨gs, 0, none⟩), .pointer (some ⟨gn, 0, none⟩), .pointer (some ⟨ga, 0, none⟩)] w fun ret w' => LP g gm gs n f s m e w ret w' := by
 have c0 := cm.cell 0 rfl
 have c1 := ce.cell 0 rfl
 have c2 := cs.cell 0 rfl
 have c3 := cn.cell 0 rfl
 have c4 := ca.cell 0 rfl
 have fs := cs.frozen 0
 have fm := cm.frozen 0
 have HM := hide cm
 have HS := hide cs
 clear cm ce cs cn ca
 by_cases hme : m = e
 ·have b1 : ((m : Int) == (e : Int)) = true := by simp [hme]
  have HP : Hid (Pick n f s m e s (s + 1) m) := .inl ⟨rfl, by omega, rfl, rfl, .inl hme⟩
  clear hme
  go_enter Tryz.func101, Tryz.ntmps101
  go_wp2
  go_quiet (fail)
  go_wp2
  go_ret
  refine LP.mk s (s + 1) m (ret_int (by go_num)) HP.out ?_ ?_ ?_
  ·exact Cel.other (w := w.drewN _) HM.out hms _
  ·exact Cel.set (w := w.drewN _) HS.out 0 _
  ·exact Two.of2 ((Only.drewN gs w _).set 0 _)
 ·have b1 : ((m : Int) == (e : Int)) = false := by simp; omega
  have m511 : (m : Int) < 511 := by omega
  have m511' : m < 511 := by omega
  have d1 := hT.c1 m (by omega)
  by_cases hsn : s < n
  ·have b2 : (s : Int) < (n : Int) := by omega
   have s511 : (s : Int) < 511 := by omega
   have d2 := hT.c1 s (by omega)
   by_cases hct : (f s).ct ≤ (f m).ct
   ·have b3 : ((f s).ct : Int) ≤ ((f m).ct : Int) := by omega
    have HP : Hid (Pick n f s m e s (s + 1) m) := .inl ⟨rfl, hsn, rfl, rfl, .inr hct⟩
    generalize (f s).ct = X at *
    generalize (f m).ct = Y at *
    go_enter Tryz.func101, Tryz.ntmps101
    go_wp2
    go_quiet (fail)
    go_wp2
    go_ret
    refine LP.mk s (s + 1) m (ret_int (by go_num)) HP.out ?_ ?_ ?_
    ·exact Cel.other (w := w.drewN _) HM.out hms _
    ·exact Cel.set (w := w.drewN _) HS.out 0 _
    ·exact Two.of2 ((Only.drewN gs w _).set 0 _)
   ·have b3 : ¬ ((f s).ct : Int) ≤ ((f m).ct : Int) := by omega
    have HP : Hid (Pick n f s m e m s (m + 1)) := .inr ⟨rfl, by omega, rfl, rfl, fun c => hct c.2⟩
    generalize (f s).ct = X at *
    generalize (f m).ct = Y at *
    go_enter Tryz.func101, Tryz.ntmps101
    go_wp2
    go_quiet (fail)
    go_wp2
    go_ret
    refine LP.mk m s (m + 1) (ret_int (by go_num)) HP.out ?_ ?_ ?_
    ·exact Cel.set (w := w.drewN _) HM.out 0 _
    ·exact Cel.other (w := w.drewN _) HS.out (Ne.symm hms) _
    ·exact Two.of1 ((Only.drewN gm w _).set 0 _)
  ·have b2 : ¬ (s : Int) < (n : Int) := by omega
   have HP : Hid (Pick n f s m e m s (m + 1)) := .inr ⟨rfl, by omega, rfl, rfl, fun c => hsn c.1⟩
   go_enter Tryz.func101, Tryz.ntmps101
   go_wp2
   go_quiet (fail)
   go_wp2
   go_ret
   refine LP.mk m s (m + 1) (ret_int (by go_num)) HP.out ?_ ?_ ?_
   ·exact Cel.set (w := w.drewN _) HM.out 0 _
   ·exact Cel.other (w := w.drewN _) HS.out (Ne.symm hms) _
   ·exact Two.of1 ((Only.drewN gm w _).set 0 _)
end Go.Proofs.YtcaalcjcpddhaaaGreat.Zz
