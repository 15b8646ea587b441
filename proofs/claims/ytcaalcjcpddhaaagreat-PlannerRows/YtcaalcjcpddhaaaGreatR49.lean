/-
  The contract of the program's All. Plain: all that may be are there (out of config's Cj). The contract of the landed offers.
-/
import Derived.Test.YtcaalcjcpddhaaaGreatR48
import Derived.Test.YtcaalcjcpddhaaaGreatR30
namespace Go.Proofs.YtcaalcjcpddhaaaGreat.Zz
open Go.RowKit
set_option linter.unusedVariables false
set_option linter.unusedSimpArgs false
set_option maxRecDepth 100000

namespace Co
theorem all_sh : ((List.range 378).all fun t => decide (all[t]? = (shS[t / 21]?).map fun c => (c.1, c.2.1, c.2.2.1, t / 7 % 3 + 1, 2 ^ (t % 7)))) = true := by decide +kernel
theorem all_at {j k q p s i l : Nat} (hj : j < 18) (h : shS[j]? = some (s, i, l, 0, 0)) (h1 : 1 ≤ k) (h2 : k ≤ 3) (hq : q ≤ 6) (hp : p = 2 ^ q) : all[21 * j + 7 * (k - 1) + q]? = some (s, i, l, k, p) := by
 have := List.all_eq_true.1 all_sh (21 * j + 7 * (k - 1) + q) (List.mem_range.2 (by omega))
 rw [decide_eq_true_iff, show (21 * j + 7 * (k - 1) + q) / 21 = j by omega, h, show (21 * j + 7 * (k - 1) + q) / 7 % 3 + 1 = k by omega, show (21 * j + 7 * (k - 1) + q) % 7 = q by omega] at this
 rw [this, hp]
 rfl
theorem shS_ex (j : Nat) (hj : j < 18) : ∃ s i l, shS[j]? = some (s, i, l, 0, 0) ∧ s ≤ 4 ∧ i ≤ 3 ∧ l ≤ 12 := by
 have key : (shS.all fun c => decide (c.2.2.2 = (0, 0) ∧ c.1 ≤ 4 ∧ c.2.1 ≤ 3 ∧ c.2.2.1 ≤ 12)) = true := by decide
 obtain ⟨⟨s, i, l, k, m⟩, hc⟩ : ∃ c, shS[j]? = some c := ⟨_, List.getElem?_eq_getElem (by rw [shS_len]; exact hj)⟩
 have := List.all_eq_true.1 key _ (List.mem_of_getElem? hc)
 rw [decide_eq_true_iff] at this
 simp only [Prod.mk.injEq] at this
 obtain ⟨⟨rfl, rfl⟩, h1, h2, h3⟩ := this
 exact ⟨s, i, l, hc, h1, h2, h3⟩
theorem pow_le {q p : Nat} (h : p = 2 ^ q) (hp : p ≤ 64) : q ≤ 6 := by
 by_cases c : q ≤ 6
 ·exact c
 ·have := Nat.pow_le_pow_right (n := 2) (by decide) (show 7 ≤ q by omega)
  omega
end Co
def CC (w : World) (gc s i l : Nat) (v : Value) : Prop := (∃ x y : Int, Cel w gc [.int .i64 (s : Nat), .int .i64 (i : Nat), .int .i64 (l : Nat), .int .i64 x, .int .i64 y] 44) ∧ v.ownBlock ≠ some gc
set_option maxHeartbeats 8000000 in
theorem kall_c (w : World) : Calls Tryz.prog 54 #[] w (AllQ w) := by
 have KA := hide kallsh_c
 obtain ⟨i0, hi, hz0, hz1, hz2⟩ := info_parts (show (Tryz.prog.info? 44).map (fun i => (i.zero, i.size, i.bytes)) = some (some (.agg #[.int .i64 0, .int .i64 0, .int .i64 0, .int .i64 0, .int .i64 0]), 5, 40) by kernel_rfl)
 have HI := hide (And.intro hi (And.intro hz0 (And.intro hz1 hz2)))
 clear hi hz0 hz1 hz2
 go_enter Tryz.func54, Tryz.ntmps54
 go_wp2_with fail
 refine (KA.out _).mono ?_
 rintro e w1 ⟨v, rfl, hO, hB⟩
 obtain ⟨h1, ⟨_, h⟩ | ⟨g0, cap0, cur, rfl, e2, hh, r⟩⟩ := id hO
 ·exact absurd h (by decide)
 have hlt0 := (Ag.owns_cells hO).1
 have HS0 := hide (fun i c (hc : Co.shS[i]? = some c) j u hu => (Ag.owns_cells hO).2 _ _ (Co.enc_get _ i c (show (Co.shS.take 18)[i]? = some c by rw [List.take_of_length_le (by rw [Co.shS_len]; exact Nat.le_refl _)]; exact hc) j u hu))
 have hc18 := r.1
 have HB1 := hide hB
 obtain ⟨B, hBe⟩ : ∃ B, Hid (B = w1.heap.size) := ⟨_, rfl⟩
 rw [← hBe.out] at hlt0
 clear h1 hh r hO hB KA e2
 go_wp2
 go_loopw [1, 8] (fun vo vs wr => ∃ j : Nat, j ≤ 18 ∧ vs = .int .i64 (j : Nat) ∧ Hid (OL B w1 wr Co.all vo (21 * j))) (fun _ vs _ => 18 - (intOf vs).toNat)
 case atStart => exact ⟨0, by omega, rfl, by have := OL.start w1 Co.all; rw [← hBe.out] at this; exact this⟩
 case round =>
  obtain ⟨j, hj18, rfl, HO⟩ := hrel
  by_cases hj : j < 18
  ·have hjz : (j : Int) < 18 := by omega
   obtain ⟨s, i, l, hs, hs4, hi3, hl12⟩ := Co.shS_ex j hj
   have HS := hide hs
   have e1 := (HO.out.2.cell (p := ⟨g0, j * 5 + 0, none⟩) hlt0).trans (HS0.out j _ hs 0 _ rfl)
   have e2 := (HO.out.2.cell (p := ⟨g0, j * 5 + 1, none⟩) hlt0).trans (HS0.out j _ hs 1 _ rfl)
   have e3 := (HO.out.2.cell (p := ⟨g0, j * 5 + 2, none⟩) hlt0).trans (HS0.out j _ hs 2 _ rfl)
   have e4 := (HO.out.2.cell (p := ⟨g0, j * 5 + 3, none⟩) hlt0).trans (HS0.out j _ hs 3 _ rfl)
   have e5 := (HO.out.2.cell (p := ⟨g0, j * 5 + 4, none⟩) hlt0).trans (HS0.out j _ hs 4 _ rfl)
   simp only [Nat.add_zero] at e1
   have HSW : Hid (B ≤ wr.heap.size) := by have := HO.out.2.size; rw [hBe.out]; exact this
   have HOW : Hid (∀ k, u1.ownBlock = some k → k < wr.heap.size) := fun k hk => (HO.out.1.lt k hk).2
   clear hs
   obtain ⟨gc, hgc⟩ : ∃ gc, Hid (gc = wr.heap.size) := ⟨_, rfl⟩
   have B3 : Cel (wr.alloc (.cells #[.int .i64 0, .int .i64 0, .int .i64 0, .int .i64 0, .int .i64 0] 44)) gc [.int .i64 0, .int .i64 0, .int .i64 0, .int .i64 0, .int .i64 0] 44 := by rw [hgc.out]; exact Cel.new wr _ _
   go_wp2_with (refine store_cel gc [.int .i64 0, .int .i64 0, .int .i64 0, .int .i64 0, .int .i64 0] [.int .i64 (s : Nat), .int .i64 (i : Nat), .int .i64 (l : Nat), .int .i64 0, .int .i64 0] (by rw [hgc.out]; rfl) rfl B3 rfl (by kernel_rfl) (by simp [Value.oneCell']) ?_)
   intro w3 hc3 ho3
   have HO3 : Hid (OL B w1 w3 Co.all u1 (21 * j)) := by
    have hbw : Below wr.heap.size wr w3 := (below_alloc wr _).trans (ho3.below (by rw [hgc.out]; exact Nat.le_refl _))
    exact ⟨Ag.owns_keep HO.out.1 hbw, HO.out.2.trans (hbw.mono HSW.out)⟩
   have HC3 : Hid (CC w3 gc s i l u1) := ⟨⟨0, 0, hc3⟩, fun q => by have := HOW.out gc q; rw [hgc.out] at this; exact Nat.lt_irrefl _ this⟩
   have HGC : Hid (B ≤ gc) := by rw [hgc.out]; exact HSW.out
   rw [← hgc.out]
   clear hc3 ho3 B3 HO e1 e2 e3 e4 e5 HOW HSW hgc
   go_wp2
   go_loopw [1, 4] (fun vo vs wr => ∃ k : Nat, 1 ≤ k ∧ k ≤ 4 ∧ vs = .int .i64 (k : Nat) ∧ Hid (OL B w1 wr Co.all vo (21 * j + 7 * (k - 1))) ∧ Hid (CC wr gc s i l vo)) (fun _ vs _ => 4 - (intOf vs).toNat)
   case atStart => exact ⟨1, by omega, by omega, rfl, HO3, HC3⟩
   case round =>
    clear HO3 HC3
    obtain ⟨k, hk1, hk4, rfl, HO, HC⟩ := hrel
    by_cases hk3 : k ≤ 3
    ·have hkz : (k : Int) ≤ 3 := by omega
     obtain ⟨wb, rfl⟩ : ∃ wb, wb = wr := ⟨_, rfl⟩
     go_wp2
     go_loopw [1, 5] (fun vo vs wr => ∃ q p : Nat, p ≤ 128 ∧ Hid (p = 2 ^ q) ∧ vs = .int .i64 (p : Nat) ∧ Hid (OL B w1 wr Co.all vo (21 * j + 7 * (k - 1) + q)) ∧ Hid (CC wr gc s i l vo)) (fun _ vs _ => 128 - (intOf vs).toNat)
     case atStart => exact ⟨0, 1, by omega, rfl, rfl, HO, HC⟩
     case round =>
      clear HO HC
      obtain ⟨q, p, hp128, HP, rfl, HO, HC⟩ := hrel
      by_cases hp : p ≤ 64
      ·have hpz : (p : Int) ≤ 64 := by omega
       have hq6 := Co.pow_le HP.out hp
       have hp1 : 1 ≤ p := by rw [HP.out]; exact Nat.one_le_two_pow
       have H0 := hide (Co.all_at hj HS.out hk1 hk3 hq6 HP.out)
       have HP2 : Hid (p * 2 = 2 ^ (q + 1)) := by show p * 2 = _; rw [HP.out, Nat.pow_succ]
       obtain ⟨t, ht⟩ : ∃ t, Hid (t = 21 * j + 7 * (k - 1) + q) := ⟨_, rfl⟩
       rw [← ht.out] at HO H0
       have ht378 : t < 378 := by have := ht.out; omega
       have HT : Hid (t + 1 = 21 * j + 7 * (k - 1) + (q + 1)) := by have := ht.out; show _ = _; omega
       have HCV : Hid (Co.cv (Co.toZ (s, i, l, k, p)) = [.int .i64 (s : Nat), .int .i64 (i : Nat), .int .i64 (l : Nat), .int .i64 (k : Nat), .int .i64 (p : Nat)]) := (rfl : Co.cv _ = _)
       obtain ⟨⟨x, y, hcel⟩, hown⟩ := HC.out
       have c3 := hcel.cell 3 rfl
       have c4 := hcel.cell 4 rfl
       have f3 := hcel.frozen 3
       have f4 := hcel.frozen 4
       have HX : Hid (Cel ((wr.setCell ⟨gc, 3, none⟩ (.int .i64 (k : Nat))).setCell ⟨gc, 4, none⟩ (.int .i64 (p : Nat))) gc [.int .i64 (s : Nat), .int .i64 (i : Nat), .int .i64 (l : Nat), .int .i64 (k : Nat), .int .i64 (p : Nat)] 44) := (hcel.set 3 (.int .i64 (k : Nat))).set 4 (.int .i64 (p : Nat))
       have HON : Hid (Only gc wr ((wr.setCell ⟨gc, 3, none⟩ (.int .i64 (k : Nat))).setCell ⟨gc, 4, none⟩ (.int .i64 (p : Nat)))) := ((Only.refl gc wr).set 3 _).set 4 _
       have d0 := HX.out.cell 0 rfl
       have d1 := HX.out.cell 1 rfl
       have d2 := HX.out.cell 2 rfl
       have d3 := HX.out.cell 3 rfl
       have d4 := HX.out.cell 4 rfl
       have HO2 : Hid (OL B w1 ((wr.setCell ⟨gc, 3, none⟩ (.int .i64 (k : Nat))).setCell ⟨gc, 4, none⟩ (.int .i64 (p : Nat))) Co.all u1 t) := ⟨Ag.owns_of HO.out.1 (fun b hb => HON.out.block b (fun q => hown (q ▸ hb))), HO.out.2.trans (HON.out.below HGC.out)⟩
       have HSZ : Hid (B ≤ ((wr.setCell ⟨gc, 3, none⟩ (.int .i64 (k : Nat))).setCell ⟨gc, 4, none⟩ (.int .i64 (p : Nat))).heap.size) := by have := HO2.out.2.size; rw [hBe.out]; exact this
       have hgl : Hid (gc < ((wr.setCell ⟨gc, 3, none⟩ (.int .i64 (k : Nat))).setCell ⟨gc, 4, none⟩ (.int .i64 (p : Nat))).heap.size) := HX.out.lt
       obtain ⟨hi, hz0, hz1, hz2⟩ := HI.out
       have HOWN := hide hown
       have hsz : Hid (((wr.setCell ⟨gc, 3, none⟩ (.int .i64 (k : Nat))).setCell ⟨gc, 4, none⟩ (.int .i64 (p : Nat))).heap.size = wr.heap.size) := HON.out.size
       clear HP HC HO hcel hown
       go_wp2_with (at_builtin; refine Ag.wpList_append (by rfl) _ _ _ (by rfl) B 44 i0 (.agg #[.int .i64 0, .int .i64 0, .int .i64 0, .int .i64 0, .int .i64 0]) 5 40 Tryz.underlying114 hi hz0 hz1 hz2 rfl (by decide) u1 t (Co.enc (Co.all.take t)) (by rfl) (Ag.owns_keep HO2.out.1 (below_alloc ((wr.setCell ⟨gc, 3, none⟩ (.int .i64 (k : Nat))).setCell ⟨gc, 4, none⟩ (.int .i64 (p : Nat))) _)) ⟨wr.heap.size, 0, none⟩ 1 1 [.int .i64 (s : Nat), .int .i64 (i : Nat), .int .i64 (l : Nat), .int .i64 (k : Nat), .int .i64 (p : Nat)] (by rfl) rfl (by decide) ?c1 ?c2 ?c3 ?c4 ?c5 ?_)
       case c1 =>
        intro j u hj
        have := (Cel.new ((wr.setCell ⟨gc, 3, none⟩ (.int .i64 (k : Nat))).setCell ⟨gc, 4, none⟩ (.int .i64 (p : Nat))) [.int .i64 (s : Nat), .int .i64 (i : Nat), .int .i64 (l : Nat), .int .i64 (k : Nat), .int .i64 (p : Nat)] 44).cell j hj
        rw [hsz.out] at this
        match j, hj with
        | 0, _ => exact this
        | 1, _ => exact this
        | 2, _ => exact this
        | 3, _ => exact this
        | 4, _ => exact this
       case c2 => intro u hu; simp at hu; rcases hu with rfl | rfl | rfl | rfl | rfl <;> rfl
       case c3 => unfold maxLen; omega
       case c4 => omega
       case c5 => have := HSZ.out; simp at this ⊢; omega
       intro g8 cap8 w8 own8 hb8 hg8 _ hk8 _
       have HN : Hid (OL B w1 w8 Co.all (.slice (some ⟨g8, 0, none⟩) (t + 1) cap8) (t + 1)) := OL.more H0.out (by rw [HCV.out]; exact own8) ((HO2.out.2.alloc HSZ.out _).trans hb8)
       have HN2 : Hid (CC w8 gc s i l (.slice (some ⟨g8, 0, none⟩) (t + 1) cap8)) := by
        refine ⟨⟨_, _, (hk8 gc (by have := hgl.out; simp at this ⊢; omega) HOWN.out).trans (HX.out.alloc _)⟩, fun q => ?_⟩
        simp only [Value.ownBlock, Option.some.injEq] at q
        subst q
        rcases hg8 with q | q
        ·exact HOWN.out q
        ·have := hgl.out
         simp at this q
         omega
       clear own8 hb8 hg8 hk8 HO2 hi hz0 hz1 hz2 d0 d1 d2 d3 d4 c3 c4 f3 f4 HX HON HSZ hgl HOWN
       go_wp2
       exact ⟨⟨q + 1, p * 2, by omega, HP2, by go_num, by rw [← HT.out]; exact HN, HN2⟩, by simp only [intOf]; omega⟩
      ·have hpz : ¬ (p : Int) ≤ 64 := by omega
       have HX : Hid (OL B w1 wr Co.all u1 (21 * j + 7 * (k + 1 - 1))) := by
        have := HO.out
        have hq : q = 7 := by
         have h1 := HP.out
         by_cases c : q ≤ 6
         ·have := Nat.pow_le_pow_right (n := 2) (by decide) c
          omega
         ·by_cases c2 : q ≤ 7
          ·omega
          ·have := Nat.pow_le_pow_right (n := 2) (by decide) (show 8 ≤ q by omega)
           omega
        rwa [show 21 * j + 7 * (k - 1) + q = 21 * j + 7 * (k + 1 - 1) by omega] at this
       clear HO
       go_wp2
       exact ⟨⟨k + 1, by omega, by omega, by go_num, HX, HC⟩, by simp only [intOf]; omega⟩
    ·have hkz : ¬ (k : Int) ≤ 3 := by omega
     have HX : Hid (OL B w1 wr Co.all u1 (21 * (j + 1))) := by
      have := HO.out
      rwa [show 21 * j + 7 * (k - 1) = 21 * (j + 1) by omega] at this
     clear HO
     go_wp2
     exact ⟨⟨j + 1, by omega, by go_num, HX⟩, by simp only [intOf]; omega⟩
  ·have hjz : ¬ (j : Int) < 18 := by omega
   have HX : Hid (OL B w1 wr Co.all u1 378) := by
    have := HO.out
    rwa [show 21 * j = 378 by omega] at this
   clear HO
   go_wp2
   go_ret
   obtain ⟨hO, hBw⟩ := HX.out
   rw [List.take_of_length_le (by rw [Co.all_len]; exact Nat.le_refl _)] at hO
   obtain ⟨h1, ⟨_, h⟩ | ⟨g, cap, cur, rfl, e2, hh, r⟩⟩ := id hO
   ·exact absurd h (by decide)
   ·exact ⟨g, cap, rfl, ⟨(Ag.owns_cells hO).1, fun i c hc j u hu => (Ag.owns_cells hO).2 _ _ (Co.enc_get _ i c hc j u hu)⟩, r.1, Nat.le_trans (by rw [hBe.out]; exact HB1.out.size) e2, HB1.out.trans (hBw.mono (by rw [hBe.out]; exact HB1.out.size))⟩
end Go.Proofs.YtcaalcjcpddhaaaGreat.Zz

namespace Go.Proofs.YtcaalcjcpddhaaaGreat.Zz
set_option linter.unusedVariables false

namespace Co
end Co
end Go.Proofs.YtcaalcjcpddhaaaGreat.Zz

namespace Go.Proofs.YtcaalcjcpddhaaaGreat.Zz
open Go.RowKit Num Hp
set_option linter.unusedVariables false
set_option linter.unusedSimpArgs false
set_option maxRecDepth 100000

def ofs (F : Nat → List Value) : Nat → List Value
 | 0 => []
 | t + 1 => ofs F t ++ F t
theorem ofs_len {F : Nat → List Value} (h : ∀ i, (F i).length = 9) : ∀ t, (ofs F t).length = t * 9
 | 0 => rfl
 | t + 1 => by rw [ofs, List.length_append, ofs_len h t, h t]; omega
theorem ofs_get {F : Nat → List Value} (h : ∀ i, (F i).length = 9) : ∀ {t q u : Nat} {x : Value}, q < t → (F q)[u]? = some x → (ofs F t)[q * 9 + u]? = some x
 | t + 1, q, u, x, hq, hx => by
  have hu := (List.getElem?_eq_some_iff.1 hx).1
  rw [h q] at hu
  rw [ofs]
  by_cases e : q = t
  ·subst e
   rw [List.getElem?_append_right (by rw [ofs_len h]; omega), ofs_len h, show q * 9 + u - q * 9 = u by omega]
   exact hx
  ·rw [List.getElem?_append_left (by rw [ofs_len h]; omega)]
   exact ofs_get h (by omega) hx
theorem okZ_at {q : Nat} {c : Co.Cf} (h : Co.all[q]? = some c) : Co.okZ (Co.toZ c) = true := by
 have key : (Co.all.all fun c => Co.okZ (Co.toZ c)) = true := by decide +kernel
 exact List.all_eq_true.1 key c (List.mem_of_getElem? h)
namespace Pn
def zz (q : Nat) : Co.Zf := Co.az.getD q (0, 0, 0, 0, 0)
def bb (l : List Int) (q : Nat) : Nat := bitsN (zz q) l
def tt (l : List Int) (q : Nat) : Nat := stpN (zz q) l
end Pn
set_option maxHeartbeats 8000000 in
theorem poffers_c (l : List Int) (hT : Pn.okT l = true) (n gl : Nat) (hn : Hid (n = Hv.tot (cntOf l) 256)) (an : Option Addr) (mn cn D wb ws : Nat) (hD : Hid (D = Pn.shp 2 l n)) (w : World) (hx : Pn.TX w l gl an mn cn) :
  Calls Tryz.prog 27 #[.agg #[.int .i64 (n : Nat), .slice (some ⟨gl, 0, none⟩) 8 8, .slice an mn cn, .int .i64 (D : Nat)], .agg #[.int .i64 (wb : Nat), .int .i64 (ws : Nat)]] w fun e w' => ∃ g cap, e = .returned (.slice (some ⟨g, 0, none⟩) 378 cap) ∧ OFs w' g 378 (ofc Pn.zz (Pn.bb l) (Pn.tt l) wb ws) ∧ Below w.heap.size w w' := by
 obtain ⟨i0, hi, hz0, hz1, hz2⟩ := info_parts (show (Tryz.prog.info? 71).map (fun i => (i.zero, i.size, i.bytes)) = some (some (.agg #[.int .i64 0, .int .i64 0, .int .i64 0, .int .i64 0, .int .i64 0, .int .i64 0, .int .i64 0, .int .i64 0, .int .i64 0]), 9, 72) by kernel_rfl)
 have HI := hide (And.intro hi (And.intro hz0 (And.intro hz1 hz2)))
 obtain ⟨hw, ht⟩ := Pn.okT_parts hT
 have hD2 : D ≤ 327680 := by rw [hD.out]; exact Pn.shp_le 2 hw ht
 have AA := hide kall_c
 unfold AllQ at AA
 have CB0 : Hid (∀ (c1 c2 c3 c4 c5 : Nat), Co.okZ ((c1 : Int), (c2 : Int), (c3 : Int), (c4 : Int), (c5 : Int)) = true → ∀ w0, Pn.TX w0 l gl an mn cn → Calls Tryz.prog 30 #[.agg #[.int .i64 (n : Nat), .slice (some ⟨gl, 0, none⟩) 8 8, .slice an mn cn, .int .i64 (D : Nat)], .agg #[.int .i64 (c1 : Nat), .int .i64 (c2 : Nat), .int .i64 (c3 : Nat), .int .i64 (c4 : Nat), .int .i64 (c5 : Nat)]] w0 fun e w' => e = .returned (.int .i64 (Pn.bitsN ((c1 : Int), (c2 : Int), (c3 : Int), (c4 : Int), (c5 : Int)) l : Nat)) ∧ Below w0.heap.size w0 w') := fun c1 c2 c3 c4 c5 hZ w0 h => by
  have hc := Pn.CfI.of hZ
  obtain ⟨M, hM, m1, m2⟩ := hc.m1
  obtain rfl : c5 = M := by omega
  have := pbitsT_c _ _ _ _ c5 hc l hT n gl hn an mn cn D w0 m1 m2 h
  unfold Pn.bitsN
  rw [hT, hZ, if_pos (by decide), ← hn.out, Int.toNat_natCast]
  exact this
 have CS0 : Hid (∀ (c1 c2 c3 c4 c5 : Nat), Co.okZ ((c1 : Int), (c2 : Int), (c3 : Int), (c4 : Int), (c5 : Int)) = true → ∀ w0, Calls Tryz.prog 31 #[.agg #[.int .i64 (n : Nat), .slice (some ⟨gl, 0, none⟩) 8 8, .slice an mn cn, .int .i64 (D : Nat)], .agg #[.int .i64 (c1 : Nat), .int .i64 (c2 : Nat), .int .i64 (c3 : Nat), .int .i64 (c4 : Nat), .int .i64 (c5 : Nat)]] w0 fun e w' => e = .returned (.int .i64 (Pn.stpN ((c1 : Int), (c2 : Int), (c3 : Int), (c4 : Int), (c5 : Int)) l : Nat)) ∧ Below w0.heap.size w0 w') := fun c1 c2 c3 c4 c5 hZ w0 => by
  have hc := Pn.CfI.of hZ
  obtain ⟨M, hM, m1, m2⟩ := hc.m1
  obtain rfl : c5 = M := by omega
  have := pstepsT_c (c1 : Int) (c2 : Int) (c3 : Int) (c4 : Int) c5 n gl an mn cn D w0 hc.k1 hc.k3 m2 hD2
  unfold Pn.stpN
  rw [hT, hZ, if_pos (by decide), ← hn.out, Int.toNat_natCast, Pn.shS_ss _ _ l n D hD.out]
  exact this
 obtain ⟨W, hW⟩ : ∃ W, W = (w.alloc (.cells #[.int .i64 (n : Nat), .slice (some ⟨gl, 0, none⟩) 8 8, .slice an mn cn, .int .i64 (D : Nat)] 66)).alloc (.cells #[.int .i64 (wb : Nat), .int .i64 (ws : Nat)] 49) := ⟨_, rfl⟩
 have A1 := hide (show Cel W w.heap.size [.int .i64 (n : Nat), .slice (some ⟨gl, 0, none⟩) 8 8, .slice an mn cn, .int .i64 (D : Nat)] 66 by rw [hW]; exact (Cel.new w _ _).alloc _)
 have A2 := hide (show Cel W (w.heap.size + 1) [.int .i64 (wb : Nat), .int .i64 (ws : Nat)] 49 by rw [hW]; exact Cel.new2 w _ _ _)
 have HbW := hide (show Below w.heap.size w W by rw [hW]; exact (below_alloc w _).alloc (by simp) _)
 have HTX := hide (hx.keep HbW.out)
 obtain ⟨F, hF⟩ : ∃ F, Hid (F = ofc Pn.zz (Pn.bb l) (Pn.tt l) wb ws) := ⟨_, rfl⟩
 have HF9 : Hid (∀ i, (F i).length = 9) := fun i => by rw [hF.out]; rfl
 rw [← hF.out]
 clear hx hw ht hi hz0 hz1 hz2 hT hn hD hD2
 go_enter Tryz.func27, Tryz.ntmps27
 go_wp2_with fail
 rw [← hW]
 refine (AA.out W).mono ?_
 rintro _ W2 ⟨ga, capa, rfl, hal, _, _, hb⟩
 clear hW
 have HAL := hide hal
 have HB2 := hide (HbW.out.trans (hb.mono HbW.out.size))
 have HT2 := hide (A1.out.kept hb)
 have HW2 := hide (A2.out.kept hb)
 have HTX2 := hide (HTX.out.keep hb)
 have HLT : Hid (w.heap.size < W2.heap.size) := HT2.out.lt
 have HLW : Hid (w.heap.size + 1 < W2.heap.size) := HW2.out.lt
 have H0 : Hid (W2.ownsRow W2.heap.size 71 9 (.slice none 0 0) 0 (ofs F 0)) := ⟨rfl, .inl ⟨rfl, rfl⟩⟩
 clear hal hb A1 A2 HTX HbW AA
 go_wp2
 go_loopw [5, 10] (fun vo vi wr => ∃ q : Nat, q ≤ 378 ∧ vi = .int .i64 (q : Nat) ∧ Hid (wr.ownsRow W2.heap.size 71 9 vo q (ofs F q)) ∧ Hid (Below W2.heap.size W2 wr)) (fun _ vi _ => 378 - (intOf vi).toNat)
 case atStart => exact ⟨0, Nat.zero_le _, rfl, H0, Below.refl _ _⟩
 case round =>
  clear H0
  obtain ⟨q, hq, rfl, HR, HB⟩ := hrel
  by_cases hlt : q < 378
  ·have hltz : (q : Int) < 378 := by omega
   obtain ⟨⟨c1, c2, c3, c4, c5⟩, hc, hz⟩ := Pn.az_get q hlt
   obtain ⟨a0, a1, a2, a3, a4⟩ := al_five (HAL.out.keep HB.out) hc
   have hok : Co.okZ ((c1 : Int), (c2 : Int), (c3 : Int), (c4 : Int), (c5 : Int)) = true := by
    have := okZ_at hc
    exact this
   have HZQ : Hid (Pn.zz q = ((c1 : Int), (c2 : Int), (c3 : Int), (c4 : Int), (c5 : Int))) := hz
   have CB : Hid (∀ w0, Below W2.heap.size W2 w0 → Calls Tryz.prog 30 #[.agg #[.int .i64 (n : Nat), .slice (some ⟨gl, 0, none⟩) 8 8, .slice an mn cn, .int .i64 (D : Nat)], .agg #[.int .i64 (c1 : Nat), .int .i64 (c2 : Nat), .int .i64 (c3 : Nat), .int .i64 (c4 : Nat), .int .i64 (c5 : Nat)]] w0 fun e w' => e = .returned (.int .i64 (Pn.bb l q : Nat)) ∧ Below w0.heap.size w0 w') := fun w0 h => by
    have := CB0.out c1 c2 c3 c4 c5 hok w0 (HTX2.out.keep h)
    unfold Pn.bb
    rw [HZQ.out]
    exact this
   have CS : Hid (∀ w0, Below W2.heap.size W2 w0 → Calls Tryz.prog 31 #[.agg #[.int .i64 (n : Nat), .slice (some ⟨gl, 0, none⟩) 8 8, .slice an mn cn, .int .i64 (D : Nat)], .agg #[.int .i64 (c1 : Nat), .int .i64 (c2 : Nat), .int .i64 (c3 : Nat), .int .i64 (c4 : Nat), .int .i64 (c5 : Nat)]] w0 fun e w' => e = .returned (.int .i64 (Pn.tt l q : Nat)) ∧ Below w0.heap.size w0 w') := fun w0 h => by
    have := CS0.out c1 c2 c3 c4 c5 hok w0
    unfold Pn.tt
    rw [HZQ.out]
    exact this
   have HFQ : Hid (ofs F (q + 1) = ofs F q ++ [.int .i64 (c1 : Nat), .int .i64 (c2 : Nat), .int .i64 (c3 : Nat), .int .i64 (c4 : Nat), .int .i64 (c5 : Nat), .int .i64 (Pn.bb l q : Nat), .int .i64 (Pn.tt l q : Nat), .int .i64 (wb : Nat), .int .i64 (ws : Nat)]) := by
    show _ = _
    rw [ofs, hF.out]
    unfold ofc
    rw [HZQ.out]
   generalize Pn.bb l q = bv at *
   generalize Pn.tt l q = sv at *
   obtain ⟨gb, hgb⟩ : ∃ gb, Hid (gb = wr.heap.size) := ⟨_, rfl⟩
   obtain ⟨U, hU⟩ : ∃ U, Hid (U = wr.alloc (.cells #[.int .i64 (c1 : Nat), .int .i64 (c2 : Nat), .int .i64 (c3 : Nat), .int .i64 (c4 : Nat), .int .i64 (c5 : Nat)] 44)) := ⟨_, rfl⟩
   have hal := below_alloc wr (.cells #[.int .i64 (c1 : Nat), .int .i64 (c2 : Nat), .int .i64 (c3 : Nat), .int .i64 (c4 : Nat), .int .i64 (c5 : Nat)] 44)
   have HCU : Hid (Cel U gb [.int .i64 (c1 : Nat), .int .i64 (c2 : Nat), .int .i64 (c3 : Nat), .int .i64 (c4 : Nat), .int .i64 (c5 : Nat)] 44) := by show Cel _ _ _ _; rw [hU.out, hgb.out]; exact Cel.new wr _ _
   have HBU : Hid (Below W2.heap.size W2 U) := by show Below _ _ _; rw [hU.out]; exact HB.out.trans (hal.mono HB.out.size)
   have HRU : Hid (U.ownsRow W2.heap.size 71 9 u5 q (ofs F q)) := by show World.ownsRow _ _ _ _ _ _ _; rw [hU.out]; exact Ag.owns_keep HR.out hal
   have HNE : Hid (u5.ownBlock ≠ some gb) := fun h => by have := (HR.out.lt gb h).2; rw [hgb.out] at this; exact Nat.lt_irrefl _ this
   obtain ⟨hi, hz0, hz1, hz2⟩ := HI.out
   clear hok hz hc HR HB hal CB0 CS0 HZQ HF9
   go_wp2_with fail
   rw [← hU.out, ← hgb.out]
   clear hU hgb a0 a1 a2 a3 a4
   refine region_g [] (fun w' => Cel w' gb [.int .i64 (c1 : Nat), .int .i64 (c2 : Nat), .int .i64 (c3 : Nat), .int .i64 (c4 : Nat), .int .i64 (c5 : Nat)] 44 ∧ Below W2.heap.size W2 w') (by kernel_rfl) ?_
   have hS : (fun w' => Cel w' gb [.int .i64 (c1 : Nat), .int .i64 (c2 : Nat), .int .i64 (c3 : Nat), .int .i64 (c4 : Nat), .int .i64 (c5 : Nat)] 44 ∧ Below W2.heap.size W2 w') U.drew := ⟨HCU.out.drew, HBU.out.drew⟩
   have hR : Hid (U.drew.ownsRow W2.heap.size 71 9 u5 q (ofs F q)) := HRU.out
   clear HCU HBU HRU
   generalize U.drew = V at *
   refine AnyG.take 0 (v := ?vv1) rfl (by kernel_rfl) (by kernel_rfl) (by kernel_rfl) (by kernel_rfl) (fun _ _ _ h => h) hS ?hy1 (by rfl) ?rest1
   case hy1 =>
    intro w0 h0
    go_simp
    try with_reducible rfl
   simp only [Act.put, yq0, yq1, yq2, yq3, yq4, yq5]
   refine AnyG.take 1 (v := ?vv2) rfl (by kernel_rfl) (by kernel_rfl) (by kernel_rfl) (by kernel_rfl) (fun _ _ _ h => h) hS ?hy2 (by rfl) ?rest2
   case hy2 =>
    intro w0 h0
    have e0 := h0.1.cell 0 rfl
    have e1 := h0.1.cell 1 rfl
    have e2 := h0.1.cell 2 rfl
    have e3 := h0.1.cell 3 rfl
    have e4 := h0.1.cell 4 rfl
    go_simp
    try with_reducible rfl
   simp only [Act.put, yq0, yq1, yq2, yq3, yq4, yq5]
   refine AnyG.take 2 (v := ?vv3) rfl (by kernel_rfl) (by kernel_rfl) (by kernel_rfl) (by kernel_rfl) (fun _ _ _ h => h) hS ?hy3 (by rfl) ?rest3
   case hy3 =>
    intro w0 h0
    have d0 := (h0.2.cell (p := ⟨w.heap.size, 0, none⟩) HLT.out).trans (HT2.out.cell 0 rfl)
    have d1 := (h0.2.cell (p := ⟨w.heap.size, 1, none⟩) HLT.out).trans (HT2.out.cell 1 rfl)
    have d2 := (h0.2.cell (p := ⟨w.heap.size, 2, none⟩) HLT.out).trans (HT2.out.cell 2 rfl)
    have d3 := (h0.2.cell (p := ⟨w.heap.size, 3, none⟩) HLT.out).trans (HT2.out.cell 3 rfl)
    go_simp
    try with_reducible rfl
   simp only [Act.put, yq0, yq1, yq2, yq3, yq4, yq5]
   refine AnyG.take 3 (v := ?vv4) rfl (by kernel_rfl) (by kernel_rfl) (by kernel_rfl) (by kernel_rfl) (fun _ _ _ h => h) hS ?hy4 (by rfl) ?rest4
   case hy4 =>
    intro w0 h0
    have e0 := h0.1.cell 0 rfl
    have e1 := h0.1.cell 1 rfl
    have e2 := h0.1.cell 2 rfl
    have e3 := h0.1.cell 3 rfl
    have e4 := h0.1.cell 4 rfl
    go_simp
    try with_reducible rfl
   simp only [Act.put, yq0, yq1, yq2, yq3, yq4, yq5]
   refine AnyG.take 5 (v := ?vv5) rfl (by kernel_rfl) (by kernel_rfl) (by kernel_rfl) (by kernel_rfl) (fun _ _ _ h => h) hS ?hy5 (by rfl) ?rest5
   case hy5 =>
    intro w0 h0
    have d0 := (h0.2.cell (p := ⟨w.heap.size, 0, none⟩) HLT.out).trans (HT2.out.cell 0 rfl)
    have d1 := (h0.2.cell (p := ⟨w.heap.size, 1, none⟩) HLT.out).trans (HT2.out.cell 1 rfl)
    have d2 := (h0.2.cell (p := ⟨w.heap.size, 2, none⟩) HLT.out).trans (HT2.out.cell 2 rfl)
    have d3 := (h0.2.cell (p := ⟨w.heap.size, 3, none⟩) HLT.out).trans (HT2.out.cell 3 rfl)
    go_simp
    try with_reducible rfl
   simp only [Act.put, yq0, yq1, yq2, yq3, yq4, yq5]
   refine AnyG.take 6 (v := ?vv6) rfl (by kernel_rfl) (by kernel_rfl) (by kernel_rfl) (by kernel_rfl) (fun _ _ _ h => h) hS ?hy6 (by rfl) ?rest6
   case hy6 =>
    intro w0 h0
    have e0 := h0.1.cell 0 rfl
    have e1 := h0.1.cell 1 rfl
    have e2 := h0.1.cell 2 rfl
    have e3 := h0.1.cell 3 rfl
    have e4 := h0.1.cell 4 rfl
    go_simp
    try with_reducible rfl
   simp only [Act.put, yq0, yq1, yq2, yq3, yq4, yq5]
   refine AnyG.take 8 (v := ?vv7) rfl (by kernel_rfl) (by kernel_rfl) (by kernel_rfl) (by kernel_rfl) (fun _ _ _ h => h) hS ?hy7 (by rfl) ?rest7
   case hy7 =>
    intro w0 h0
    have g0 := (h0.2.cell (p := ⟨w.heap.size + 1, 0, none⟩) HLW.out).trans (HW2.out.cell 0 rfl)
    have g1 := (h0.2.cell (p := ⟨w.heap.size + 1, 1, none⟩) HLW.out).trans (HW2.out.cell 1 rfl)
    go_simp
    try with_reducible rfl
   simp only [Act.put, yq0, yq1, yq2, yq3, yq4, yq5]
   refine AnyG.one 4 (by kernel_rfl) rfl ?_
   intro K hK
   go_simp
   refine (CB.out V hS.2).mono ?_
   rintro _ v1 ⟨rfl, hb⟩
   have hS1 : (fun w' => Cel w' gb [.int .i64 (c1 : Nat), .int .i64 (c2 : Nat), .int .i64 (c3 : Nat), .int .i64 (c4 : Nat), .int .i64 (c5 : Nat)] 44 ∧ Below W2.heap.size W2 w') v1 := ⟨hS.1.kept hb, hS.2.trans (hb.mono hS.2.size)⟩
   replace hR := hide (Ag.owns_keep hR.out hb)
   clear hb hS
   refine hK.out _ _ (fun _ => hS1) ?_
   clear hK K
   try simp only [Act.put, yq0, yq1, yq2, yq3, yq4, yq5]
   refine AnyG.one 7 (by kernel_rfl) rfl ?_
   intro K hK
   go_simp
   refine (CS.out v1 hS1.2).mono ?_
   rintro _ v2 ⟨rfl, hb⟩
   have hS2 : (fun w' => Cel w' gb [.int .i64 (c1 : Nat), .int .i64 (c2 : Nat), .int .i64 (c3 : Nat), .int .i64 (c4 : Nat), .int .i64 (c5 : Nat)] 44 ∧ Below W2.heap.size W2 w') v2 := ⟨hS1.1.kept hb, hS1.2.trans (hb.mono hS1.2.size)⟩
   replace hR := hide (Ag.owns_keep hR.out hb)
   clear hb hS1
   refine hK.out _ _ (fun _ => hS2) ?_
   clear hK K
   try simp only [Act.put, yq0, yq1, yq2, yq3, yq4, yq5]
   refine AnyG.take 9 (v := ?vv8) rfl (by kernel_rfl) (by kernel_rfl) (by kernel_rfl) (by kernel_rfl) (fun _ _ _ h => h) hS2 ?hy8 (by rfl) ?rest8
   case hy8 =>
    intro w0 h0
    go_simp
    try with_reducible rfl
   simp only [Act.put, yq0, yq1, yq2, yq3, yq4, yq5]
   refine AnyG.one 10 (by kernel_rfl) rfl ?_
   intro K hK
   go_simp
   have hb := below_alloc v2 (.cells #[.int .i64 (c1 : Nat), .int .i64 (c2 : Nat), .int .i64 (c3 : Nat), .int .i64 (c4 : Nat), .int .i64 (c5 : Nat), .int .i64 (bv : Nat), .int .i64 (sv : Nat), .int .i64 (wb : Nat), .int .i64 (ws : Nat)] 71)
   have hS3 : (fun w' => Cel w' gb [.int .i64 (c1 : Nat), .int .i64 (c2 : Nat), .int .i64 (c3 : Nat), .int .i64 (c4 : Nat), .int .i64 (c5 : Nat)] 44 ∧ Below W2.heap.size W2 w') (v2.alloc (.cells #[.int .i64 (c1 : Nat), .int .i64 (c2 : Nat), .int .i64 (c3 : Nat), .int .i64 (c4 : Nat), .int .i64 (c5 : Nat), .int .i64 (bv : Nat), .int .i64 (sv : Nat), .int .i64 (wb : Nat), .int .i64 (ws : Nat)] 71)) := ⟨hS2.1.kept hb, hS2.2.trans (hb.mono hS2.2.size)⟩
   replace hR := hide (Ag.owns_keep hR.out hb)
   have hnew := hide (Cel.new v2 [.int .i64 (c1 : Nat), .int .i64 (c2 : Nat), .int .i64 (c3 : Nat), .int .i64 (c4 : Nat), .int .i64 (c5 : Nat), .int .i64 (bv : Nat), .int .i64 (sv : Nat), .int .i64 (wb : Nat), .int .i64 (ws : Nat)] 71)
   have hgbl := hide (Nat.lt_of_lt_of_le hS2.1.lt hb.size)
   have hW2l : Hid (W2.heap.size ≤ v2.heap.size) := hS2.2.size
   clear hb hS2
   refine hK.out _ _ (fun _ => hS3) ?_
   clear hK K
   try simp only [Act.put, yq0, yq1, yq2, yq3, yq4, yq5]
   refine AnyG.one 11 (by kernel_rfl) rfl ?_
   intro K hK
   rw [if_pos (by rfl)]
   refine Ag.wp_append _ _ _ (by rfl) W2.heap.size 71 i0 (.agg #[.int .i64 0, .int .i64 0, .int .i64 0, .int .i64 0, .int .i64 0, .int .i64 0, .int .i64 0, .int .i64 0, .int .i64 0]) 9 72 Tryz.underlying76 hi hz0 hz1 hz2 rfl (by decide) u5 q (ofs F q) (by rfl) hR.out ⟨v2.heap.size, 0, none⟩ 1 1 [.int .i64 (c1 : Nat), .int .i64 (c2 : Nat), .int .i64 (c3 : Nat), .int .i64 (c4 : Nat), .int .i64 (c5 : Nat), .int .i64 (bv : Nat), .int .i64 (sv : Nat), .int .i64 (wb : Nat), .int .i64 (ws : Nat)] (by rfl) rfl (by decide) ?c1 ?c2 ?c3 ?c4 ?c5 ?_
   case c1 =>
    intro jj x hj
    have := hnew.out.cell jj hj
    match jj, hj with
    | 0, _ => exact this
    | 1, _ => exact this
    | 2, _ => exact this
    | 3, _ => exact this
    | 4, _ => exact this
    | 5, _ => exact this
    | 6, _ => exact this
    | 7, _ => exact this
    | 8, _ => exact this
   case c2 =>
    intro x hx
    simp only [List.mem_cons, List.not_mem_nil, or_false] at hx
    rcases hx with rfl | rfl | rfl | rfl | rfl | rfl | rfl | rfl | rfl <;> rfl
   case c3 => unfold maxLen; omega
   case c4 => omega
   case c5 => simp only [World.size_alloc]; have := hW2l.out; omega
   intro g cap v4 o1 o2 o3 o4 o5 o6
   have hS4 : (fun w' => Cel w' gb [.int .i64 (c1 : Nat), .int .i64 (c2 : Nat), .int .i64 (c3 : Nat), .int .i64 (c4 : Nat), .int .i64 (c5 : Nat)] 44 ∧ Below W2.heap.size W2 w') v4 := ⟨(o5 gb hgbl.out HNE.out).trans hS3.1, hS3.2.trans o2⟩
   rw [← HFQ.out] at o1
   have hR4 := hide o1
   clear hnew hS3 hR hgbl hW2l o1 o2 o3 o4 o5 o6
   refine hK.out _ _ (fun _ => hS4) ?_
   clear hK K
   try simp only [Act.put, yq0, yq1, yq2, yq3, yq4, yq5]
   refine AnyG.take 12 (v := ?vv9) rfl (by kernel_rfl) (by kernel_rfl) (by kernel_rfl) (by kernel_rfl) (fun _ _ _ h => h) hS4 ?hy9 (by rfl) ?rest9
   case hy9 =>
    intro w0 h0
    go_simp
    try with_reducible rfl
   simp only [Act.put, yq0, yq1, yq2, yq3, yq4, yq5]
   refine AnyG.done (by kernel_rfl) ?_ _
   have HBF := hide hS4.2
   clear hS4
   go_wp2
   exact ⟨⟨q + 1, by omega, by go_num, hR4, HBF⟩, by simp only [intOf]; omega⟩
  ·obtain rfl : q = 378 := by omega
   obtain ⟨g, cap, rfl⟩ : ∃ g cap, u5 = .slice (some ⟨g, 0, none⟩) 378 cap := by
    rcases HR.out.2 with ⟨_, h⟩ | ⟨g, cap, _, h, _⟩
    ·cases h
    ·exact ⟨g, cap, h⟩
   have HC := Ag.owns_cells HR.out
   have HBF := hide (HB2.out.trans (HB.out.mono HB2.out.size))
   have HO : Hid (OFs wr g 378 F) := ⟨HC.1, fun q hq u x hx => HC.2 _ _ (ofs_get HF9.out hq hx)⟩
   clear HC HR HB
   go_wp2
   go_ret
   exact ⟨g, cap, rfl, HO.out, HBF.out⟩
end Go.Proofs.YtcaalcjcpddhaaaGreat.Zz
