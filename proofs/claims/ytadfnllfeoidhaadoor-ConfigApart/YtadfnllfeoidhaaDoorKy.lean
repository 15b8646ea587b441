/-
  The contract of cut.
-/
import Derived.Test.YtadfnllfeoidhaaDoorKx
import Derived.Test.YtadfnllfeoidhaaDoorAg
namespace Go.Proofs.YtadfnllfeoidhaaDoor
open Go.RowKit
open Go.ChangeMaps (setBlock)
set_option linter.unusedVariables false
set_option linter.unusedSimpArgs false
set_option maxRecDepth 100000

namespace Rs
/-- The words of a name, from place p on, the last one begun at fr. -/
def cuS (s : ByteArray) : Nat → Nat → Nat → List ByteArray → List ByteArray
  | 0, _, fr, acc => acc ++ [s.extract fr s.size]
  | f + 1, p, fr, acc => if p < s.size then (if (Utf8.decode s p).1 = 45 ∨ (Utf8.decode s p).1 = 47 then (if acc.length = 4 then [] else cuS s f (p + (Utf8.decode s p).2) (p + 1) (acc ++ [s.extract fr p])) else cuS s f (p + (Utf8.decode s p).2) fr acc) else acc ++ [s.extract fr s.size]
def cut (s : ByteArray) : List ByteArray := cuS s s.size 0 0 []
end Rs
/-- A row of strings of one's own. -/
def WS (w : World) (B : Nat) (v : Value) (l : List ByteArray) : Prop := w.ownsRow B 9 1 v l.length (l.map Value.string)
theorem WS.snoc {w : World} {B : Nat} {v : Value} {l : List ByteArray} {x : ByteArray} (h : w.ownsRow B 9 1 v (l.length + 1) (l.map Value.string ++ [.string x])) : WS w B v (l ++ [x]) := by
  unfold WS
  rw [List.length_append, List.map_append]
  exact h
set_option maxHeartbeats 4000000 in
theorem kcut_c (s : ByteArray) (hs : s.size ≤ 100) (w : World) : Calls Tryd.prog 26 #[.string s] w fun e w' => ∃ v B, e = .returned v ∧ w.heap.size ≤ B ∧ WS w' B v (Rs.cut s) ∧ Below w.heap.size w w' := by
  obtain ⟨i0, hi, hz0, hz1, hz2⟩ := info_parts (show (Tryd.prog.info? 9).map (fun i => (i.zero, i.size, i.bytes)) = some (some (.string { data := #[] }), 1, 16) by kernel_rfl)
  have HI0 := hide (And.intro hi (And.intro hz0 (And.intro hz1 hz2)))
  clear hi hz0 hz1 hz2
  have hr := run_range_string (P := Tryd.prog) w 9 s Tryd.underlying9
  obtain ⟨W, hW⟩ : ∃ W, W = w.iter s 0 := ⟨_, rfl⟩
  have HB0 : Hid (Below w.heap.size w W) := by rw [hW]; exact below_alloc w _
  have HI : Hid (Rs.It W w.heap.size s 0) := by rw [hW]; exact World.iter_heap w s 0
  obtain ⟨B, hBe⟩ : ∃ B, Hid (B = w.heap.size + 1) := ⟨_, rfl⟩
  have HSB0 : Hid (B ≤ W.heap.size) := by rw [hW, hBe.out]; show _ ≤ _; simp [World.iter]
  rw [← hW] at hr
  clear hW
  obtain ⟨r, hrr⟩ : ∃ r, Hid (r = w.heap.size) := ⟨_, rfl⟩
  rw [← hrr.out] at hr HI
  have hgr : Hid (w.heap.size ≤ r) := by rw [hrr.out]; exact Nat.le_refl _
  have hrB : Hid (r < B) := by have := hrr.out; have := hBe.out; show _ < _; omega
  have hwB : Hid (w.heap.size ≤ B) := by have := hBe.out; show _ ≤ _; omega
  go_enter Tryd.func26, Tryd.ntmps26
  go_wp2
  go_loopw [3, 4] (fun vo vf wr => ∃ (fr p f : Nat) (acc : List ByteArray), vf = .int .i64 (fr : Nat) ∧ acc.length ≤ 4 ∧ fr ≤ p ∧ fr ≤ s.size ∧ Hid (Rs.cut s = Rs.cuS s f p fr acc) ∧ Hid (s.size ≤ p + f) ∧ Hid (Rs.It wr r s p) ∧ Hid (WS wr B vo acc) ∧ Hid (B ≤ wr.heap.size) ∧ Hid (Below w.heap.size w wr)) (fun _ _ wr => s.size - Rs.pos r wr)
  case atStart => exact ⟨0, 0, s.size, [], rfl, by simp, by omega, by omega, rfl, by show _ ≤ _; omega, HI, ⟨rfl, .inl ⟨rfl, rfl⟩⟩, HSB0, HB0⟩
  case round =>
    clear hr HI HB0 HSB0
    obtain ⟨fr, p, f, acc, rfl, hacc, hfp, hfs, HN, HF, HI, HO, HSB, HB⟩ := hrel
    have HP := hide HI.out.pos
    by_cases hp : p < s.size
    · obtain ⟨f, rfl⟩ : ∃ k, f = k + 1 := ⟨f - 1, by have := HF.out; omega⟩
      have hnx := Rs.next_more HI.out hp
      have hst := Rs.step (q := p + (Utf8.decode s p).2) HI.out
      have hw1 := Rs.wide s p hp
      have HU : Hid (Rs.cut s = (if (Utf8.decode s p).1 = 45 ∨ (Utf8.decode s p).1 = 47 then (if acc.length = 4 then [] else Rs.cuS s f (p + (Utf8.decode s p).2) (p + 1) (acc ++ [s.extract fr p])) else Rs.cuS s f (p + (Utf8.decode s p).2) fr acc)) := by
        show _ = _
        rw [HN.out, Rs.cuS, if_pos hp]
      generalize (Utf8.decode s p).1 = c at *
      generalize (Utf8.decode s p).2 = d at *
      generalize setBlock wr r (.stringIter s (p + d)) = W2 at *
      have HI2 := hide hst.1
      have HB2 := hide (HB.out.trans (hst.2.below hgr.out))
      have HO2 : Hid (WS W2 B u3 acc) := Ag.owns_of HO.out (fun k hk => hst.2.block k (fun q => by have := (HO.out.lt k hk).1; have := hrB.out; omega))
      have HSB2 : Hid (B ≤ W2.heap.size) := by have := HSB.out; have := hst.2.size; show _ ≤ _; omega
      have HPS : Hid (s.size - Rs.pos r W2 < s.size - Rs.pos r wr) := by
        show _ < _
        rw [HI2.out.pos, HP.out]
        omega
      have HW1 := hide hw1
      have HF2 : Hid (s.size ≤ p + d + f) := by have := HF.out; show _ ≤ _; omega
      have HFP : Hid (fr ≤ p + d) := by show _ ≤ _; omega
      have HPD : Hid (p + 1 ≤ p + d) := by show _ ≤ _; omega
      clear hst HI HB HN hw1 HO HSB
      by_cases h1 : c = 45 ∨ c = 47
      · have HU2 := hide (HU.out.trans (if_pos h1))
        have HSB := HSB2
        have hpz : (fr : Int) ≤ (p : Int) := by omega
        have hpz2 : (p : Int) ≤ (s.size : Int) := by omega
        have hp63 : (p : Int) ≤ 100 := by omega
        clear HU
        have key : (((c : Nat) : Int) != 45) = false ∨ (((c : Nat) : Int) != 45) = true ∧ (((c : Nat) : Int) != 47) = false := by
          rcases h1 with rfl | rfl
          · exact .inl rfl
          · exact .inr ⟨rfl, rfl⟩
        clear h1
        obtain ⟨hi, hz0, hz1, hz2⟩ := HI0.out
        rcases key with k1 | ⟨k1, k2⟩
        · go_wp2_with (at_builtin; refine Ag.wpList_append (by rfl) _ _ _ (by rfl) B 9 i0 (.string { data := #[] }) 1 16 Tryd.underlying43 hi hz0 hz1 hz2 rfl (by decide) u3 acc.length (acc.map Value.string) (by rfl) (Ag.owns_keep HO2.out (below_alloc W2 _)) ⟨W2.heap.size, 0, none⟩ 1 1 [.string (s.extract fr p)] (by rfl) rfl (by decide) ?c1 ?c2 ?c3 ?c4 ?c5 ?_)
          case c1 =>
            intro j u hj
            have := (Cel.new W2 [.string (s.extract fr p)] 9).cell j hj
            match j, hj with
            | 0, _ => exact this
          case c2 => intro u hu; simp at hu; rcases hu with rfl; rfl
          case c3 => unfold maxLen; omega
          case c4 => omega
          case c5 => have := HSB.out; simp; omega
          intro g8 cap8 w8 own8 hb8 _ _ _ _
          have HE := hide (WS.snoc own8)
          have HBE : Hid (Below w.heap.size w w8) := (HB2.out.alloc HB2.out.size _).trans (hb8.mono hwB.out)
          have HI8 : Hid (Rs.It w8 r s (p + d)) := (hb8.block r hrB.out).trans (((MapKept.heap_alloc W2 _).2 r HI2.out.lt).trans HI2.out)
          have HS8 : Hid (B ≤ w8.heap.size) := by exact Nat.le_trans HSB2.out (Nat.le_trans (below_alloc W2 _).size hb8.size)
          have HPS8 : Hid (s.size - Rs.pos r w8 < s.size - Rs.pos r wr) := by
            have := HPS.out
            rw [HI2.out.pos] at this
            show _ < _
            rw [HI8.out.pos]
            exact this
          clear own8 hb8 hi hz0 hz1 hz2 HPS HI2 HB2 HO2 HSB2
          by_cases h5 : acc.length = 4
          · have R : Hid (Rs.cut s = []) := HU2.out.trans (if_pos h5)
            have h5z : (((acc.length : Nat) : Int) + 1 == 5) = true := by rw [h5]; rfl
            clear HU2
            go_wp2
            go_ret
            refine ⟨_, B, rfl, hwB.out, ?_, HBE.out⟩
            rw [R.out]
            exact ⟨rfl, .inl ⟨rfl, rfl⟩⟩
          · have HU3 := hide (HU2.out.trans (if_neg h5))
            have h5z : (((acc.length : Nat) : Int) + 1 == 5) = false := by simp; omega
            have HL5 : Hid ((acc ++ [s.extract fr p]).length = acc.length + 1) := by show _ = _; simp
            have HH5 : Hid (acc.length + 1 ≤ 4) := by show _ ≤ _; omega
            clear HU2
            go_wp2
            exact ⟨⟨p + 1, p + d, f, acc ++ [s.extract fr p], by go_num, by rw [HL5.out]; exact HH5.out, HPD.out, by omega, HU3, HF2, HI8, HE, HS8, HBE⟩, HPS8.out⟩
        · go_wp2_with (at_builtin; refine Ag.wpList_append (by rfl) _ _ _ (by rfl) B 9 i0 (.string { data := #[] }) 1 16 Tryd.underlying43 hi hz0 hz1 hz2 rfl (by decide) u3 acc.length (acc.map Value.string) (by rfl) (Ag.owns_keep HO2.out (below_alloc W2 _)) ⟨W2.heap.size, 0, none⟩ 1 1 [.string (s.extract fr p)] (by rfl) rfl (by decide) ?c1 ?c2 ?c3 ?c4 ?c5 ?_)
          case c1 =>
            intro j u hj
            have := (Cel.new W2 [.string (s.extract fr p)] 9).cell j hj
            match j, hj with
            | 0, _ => exact this
          case c2 => intro u hu; simp at hu; rcases hu with rfl; rfl
          case c3 => unfold maxLen; omega
          case c4 => omega
          case c5 => have := HSB.out; simp; omega
          intro g8 cap8 w8 own8 hb8 _ _ _ _
          have HE := hide (WS.snoc own8)
          have HBE : Hid (Below w.heap.size w w8) := (HB2.out.alloc HB2.out.size _).trans (hb8.mono hwB.out)
          have HI8 : Hid (Rs.It w8 r s (p + d)) := (hb8.block r hrB.out).trans (((MapKept.heap_alloc W2 _).2 r HI2.out.lt).trans HI2.out)
          have HS8 : Hid (B ≤ w8.heap.size) := by exact Nat.le_trans HSB2.out (Nat.le_trans (below_alloc W2 _).size hb8.size)
          have HPS8 : Hid (s.size - Rs.pos r w8 < s.size - Rs.pos r wr) := by
            have := HPS.out
            rw [HI2.out.pos] at this
            show _ < _
            rw [HI8.out.pos]
            exact this
          clear own8 hb8 hi hz0 hz1 hz2 HPS HI2 HB2 HO2 HSB2
          by_cases h5 : acc.length = 4
          · have R : Hid (Rs.cut s = []) := HU2.out.trans (if_pos h5)
            have h5z : (((acc.length : Nat) : Int) + 1 == 5) = true := by rw [h5]; rfl
            clear HU2
            go_wp2
            go_ret
            refine ⟨_, B, rfl, hwB.out, ?_, HBE.out⟩
            rw [R.out]
            exact ⟨rfl, .inl ⟨rfl, rfl⟩⟩
          · have HU3 := hide (HU2.out.trans (if_neg h5))
            have h5z : (((acc.length : Nat) : Int) + 1 == 5) = false := by simp; omega
            have HL5 : Hid ((acc ++ [s.extract fr p]).length = acc.length + 1) := by show _ = _; simp
            have HH5 : Hid (acc.length + 1 ≤ 4) := by show _ ≤ _; omega
            clear HU2
            go_wp2
            exact ⟨⟨p + 1, p + d, f, acc ++ [s.extract fr p], by go_num, by rw [HL5.out]; exact HH5.out, HPD.out, by omega, HU3, HF2, HI8, HE, HS8, HBE⟩, HPS8.out⟩
      · have HU2 := hide (HU.out.trans (if_neg h1))
        have k1 : (((c : Nat) : Int) != 45) = true := by simp; omega
        have k2 : (((c : Nat) : Int) != 47) = true := by simp; omega
        clear HU h1
        go_wp2
        exact ⟨⟨fr, p + d, f, acc, rfl, hacc, HFP.out, hfs, HU2, HF2, HI2, HO2, HSB2, HB2⟩, HPS.out⟩
    · have hnx := Rs.next_over HI.out hp
      have R : Hid (Rs.cut s = acc ++ [s.extract fr s.size]) := by
        show _ = _
        rw [HN.out]
        cases f with
        | zero => rfl
        | succ f => rw [Rs.cuS, if_neg hp]
      have hfz : (fr : Int) ≤ (s.size : Int) := by omega
      have HO2 := HO
      obtain ⟨hi, hz0, hz1, hz2⟩ := HI0.out
      go_wp2_with (at_builtin; refine Ag.wpList_append (by rfl) _ _ _ (by rfl) B 9 i0 (.string { data := #[] }) 1 16 Tryd.underlying43 hi hz0 hz1 hz2 rfl (by decide) u3 acc.length (acc.map Value.string) (by rfl) (Ag.owns_keep HO2.out (below_alloc wr _)) ⟨wr.heap.size, 0, none⟩ 1 1 [.string (s.extract fr s.size)] (by rfl) rfl (by decide) ?c1 ?c2 ?c3 ?c4 ?c5 ?_)
      case c1 =>
        intro j u hj
        have := (Cel.new wr [.string (s.extract fr s.size)] 9).cell j hj
        match j, hj with
        | 0, _ => exact this
      case c2 => intro u hu; simp at hu; rcases hu with rfl; rfl
      case c3 => unfold maxLen; omega
      case c4 => omega
      case c5 => have := HSB.out; simp; omega
      intro g8 cap8 w8 own8 hb8 _ _ _ _
      have HE : Hid (WS w8 B (.slice (some ⟨g8, 0, none⟩) (acc.length + 1) cap8) (Rs.cut s)) := by rw [R.out]; exact WS.snoc own8
      have HBE : Hid (Below w.heap.size w w8) := (HB.out.alloc HB.out.size _).trans (hb8.mono hwB.out)
      clear own8 hb8 hi hz0 hz1 hz2
      go_wp2
      go_ret
      exact ⟨_, B, rfl, hwB.out, HE.out, HBE.out⟩
end Go.Proofs.YtadfnllfeoidhaaDoor
