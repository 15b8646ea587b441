/-
  The contract of the program's read.
-/
import Derived.Test.YtojjinjgmijgcaaBx3
import Derived.Test.YtojjinjgmijgcaaTj
import Derived.ScopeJumps
import Derived.WalkMore
import Derived.Deep.Cut
import Derived.Deep.DeepCutAuto
namespace Go.Proofs.Ytojjinjgmijgcaa
open Go.RowKit
set_option linter.unusedVariables false
set_option linter.unusedSimpArgs false
set_option maxRecDepth 100000

namespace Su
theorem fs_La (t : List Nat) : fs (La t) = fs t := by
  unfold fs
  rw [first_La]
theorem Tn.counted {L : List Nat} {r : Int} {C : List Int} {t : List Nat} (h : Tn L r C t) : L.length ≤ 8192 ∧ 0 ≤ r ∧ r ≤ (L.length : Int) ∧ C = toI (fs L) := by
  have h1 := h.len
  have h2 := h.n
  have h3 := h.r
  have h4 := rw_le t
  refine ⟨by omega, by omega, by omega, ?_⟩
  rw [← h.c, ← h.l, fs_La]
end Su
/-- What a read answers. -/
def RdQ (L : List Nat) (r : Int) (C : List Int) (w : World) (e : Ending) (w' : World) : Prop :=
  (∃ t gt' gs, Su.Tn L r C t ∧ e = .returned (.tuple #[.slice (some ⟨gt', 0, none⟩) L.length L.length, .slice (some ⟨gs, 0, none⟩) (L.length + 1) (L.length + 1), .bool true]) ∧ Bd w' (some ⟨gt', 0, none⟩) t ∧ Cel w' gs (iv (Su.sts L r.toNat)) 3 ∧ Below w.heap.size w w') ∨
  ((∀ t, ¬ Su.Tn L r C t) ∧ e = .returned (.tuple #[.slice none 0 0, .slice none 0 0, .bool false]) ∧ Below w.heap.size w w')
/-- How it stands at the label. -/
structure Sr (L : List Nat) (R : Nat) (bv : List Value) (w w' : World) (gs gx p a : Nat) (s : List Nat) : Prop where
  b : Su.bw L R (L.length - p) = some (a, s)
  t : Cel w' gx (yv (List.replicate p 0 ++ s)) 5
  s : Cel w' gs (iv (Su.sts L R)) 3
  x : Cel w' w.heap.size bv 25
  g : gs < gx
  h : w.heap.size < gs
  w : Below w.heap.size w w'
  p : p ≤ L.length
  a : a ≤ L.length
/-- What holds at the label, of the frame and the world. -/
def JR (L : List Nat) (R : Nat) (bv : List Value) (w : World) (n : Nat) (a' : Act) (w' : World) : Prop := ∃ (gs gx p a : Nat) (s : List Nat) (u9 u10 u11 u12 u13 u14 u15 u16 u17 u18 u19 u20 u21 u22 u23 u24 u25 u26 u27 u28 u29 u30 u31 u32 u33 u34 u35 u36 u37 u38 u39 u40 u41 u42 u43 : Value), a' = { tmps := #[.agg bv.toArray, .pointer (some ⟨w.heap.size, 0, none⟩), .slice none 0 0, .slice none 0 0, .bool false, .slice (some ⟨gs, 0, none⟩) (n + 1) (n + 1), .slice (some ⟨gx, 0, none⟩) n n, .int .i64 (a : Nat), .int .i64 (p : Nat), u9, u10, u11, u12, u13, u14, u15, u16, u17, u18, u19, u20, u21, u22, u23, u24, u25, u26, u27, u28, u29, u30, u31, u32, u33, u34, u35, u36, u37, u38, u39, u40, u41, u42, u43], defers := [] } ∧ Hid (Sr L R bv w w' gs gx p a s)
set_option maxHeartbeats 8000000 in
theorem bread_in (ao : Option Addr) (L : List Nat) (ac : Nat) (R : Nat) (bo : Option Addr) (C : List Int) (bc : Nat) (w : World) (h : BA w ao L ac bo C bc) (hl : L.length ≤ 8192) (hR : R ≤ L.length) (hC : C = toI (Su.fs L)) :
    Calls Try.prog 16 #[.agg #[.slice ao L.length ac, .int .i64 (R : Int), .slice bo C.length bc]] w (RdQ L (R : Int) C w) := by
  obtain ⟨W, hW⟩ : ∃ W, W = w.alloc (.cells #[.slice ao L.length ac, .int .i64 (R : Int), .slice bo C.length bc] 25) := ⟨_, rfl⟩
  have bW : Below w.heap.size w W := by rw [hW]; exact below_alloc w _
  have B1 : Cel W w.heap.size [.slice ao L.length ac, .int .i64 (R : Int), .slice bo C.length bc] 25 := by rw [hW]; exact Cel.new w _ _
  have C1 : Hid (∀ w0, w0 = W → Calls Try.prog 22 #[.agg #[.slice ao L.length ac, .int .i64 (R : Int), .slice bo C.length bc]] w0 fun e w' => e = .returned (.bool true) ∧ Below w0.heap.size w0 w') := fun w0 e => by
    subst e
    have := bcounted_c ao L ac (R : Int) bo C bc w0 (h.keep bW)
    rw [decide_eq_true ⟨hl, by omega, by omega, hC⟩] at this
    exact this
  have C2 : Hid (∀ w0, Below w.heap.size w w0 → Calls Try.prog 23 #[.agg #[.slice ao L.length ac, .int .i64 (R : Int), .slice bo C.length bc]] w0 fun e w' => ∃ g, e = .returned (.slice (some ⟨g, 0, none⟩) (L.length + 1) (L.length + 1)) ∧ Cel w' g (iv (Su.sts L R)) 3 ∧ w0.heap.size ≤ g ∧ Below w0.heap.size w0 w') := fun w0 h1 => bsteps_c ao L ac R bo C.length bc w0 (h.x.keep h1) h.b hl hR
  have C3 : Hid (∀ w0 (i : Nat), Below w.heap.size w w0 → i ≤ L.length → i ≠ R → Calls Try.prog 24 #[.agg #[.slice ao L.length ac, .int .i64 (R : Int), .slice bo C.length bc], .int .i64 (i : Int)] w0 fun e w' => e = .returned (.int .u8 (Su.sg L (Su.ix R i) : Nat)) ∧ Below w0.heap.size w0 w') := fun w0 i h1 h2 h3 => bahead_c ao L ac R _ i w0 (h.x.keep h1) h.b hl hR h2 h3 ⟨_, _, _, rfl⟩
  have hb := h.b
  obtain ⟨i5, hi5, za5, zb5, zc5⟩ := info_parts Try.info5
  have QY : Hid (∀ w' gs gx (s : List Nat) a, Su.bw L R L.length = some (a, s) → Cel w' gx (yv s) 5 → Cel w' gs (iv (Su.sts L R)) 3 → Below w.heap.size w w' → RdQ L (R : Int) C w (.returned (.tuple #[.slice (some ⟨gx, 0, none⟩) L.length L.length, .slice (some ⟨gs, 0, none⟩) (L.length + 1) (L.length + 1), .bool true])) w') := fun w' gs gx s a h1 h2 h3 h4 => by
    have := (Su.bw_tn hb hl hR h1).2
    rw [← hC] at this
    refine .inl ⟨s, gx, gs, this, rfl, bd_cel h2, ?_, h4⟩
    rw [Int.toNat_natCast]
    exact h3
  have QN : Hid (∀ w' p a (s : List Nat), 0 < p → p ≤ L.length → Su.bw L R (L.length - p) = some (a, s) → a = R → Below w.heap.size w w' → RdQ L (R : Int) C w (.returned (.tuple #[.slice none 0 0, .slice none 0 0, .bool false])) w') := fun w' p a s h0 h1 h2 h3 h4 => by
    refine .inr ⟨fun t ht => ?_, rfl, h4⟩
    have e1 := Su.bw_stop h2 h3
    have e2 := ht.bw (L.length - p + 1) (by omega)
    rw [e1] at e2
    cases e2
  have SLE : Hid (∀ a, a ≤ L.length → Su.stp L R (Su.first L) a ≤ L.length) := fun a ha => Su.stp_le hR ha
  obtain ⟨n, hn⟩ : ∃ n, Hid (n = L.length) := ⟨_, rfl⟩
  rw [← hn.out] at B1 hW C1 C2 C3 QY QN SLE hl hR ⊢
  clear h hC
  go_enter Try.func16, Try.ntmps16
  go_wp2_with fail
  refine wp_scope_again (JR L R [.slice ao n ac, .int .i64 (R : Int), .slice bo C.length bc] w n) (fun a' _ => (intOf (a'.tmps.getD 8 undef)).toNat) rfl ?_ ?_
  · rintro a' w' ⟨gs, gx, p, a, s, u9, u10, u11, u12, u13, u14, u15, u16, u17, u18, u19, u20, u21, u22, u23, u24, u25, u26, u27, u28, u29, u30, u31, u32, u33, u34, u35, u36, u37, u38, u39, u40, u41, u42, u43, rfl, HS⟩
    have hp := HS.out.p
    have ha := HS.out.a
    rw [← hn.out] at hp ha
    have x0 := HS.out.x.cell 0 rfl
    have x1 := HS.out.x.cell 1 rfl
    have x2 := HS.out.x.cell 2 rfl
    have BW : Hid (Su.bw L R (n - p) = some (a, s)) := by rw [hn.out]; exact HS.out.b
    clear C1 C2
    by_cases h0 : p = 0
    · subst h0
      have QA := hide (QY.out w' gs gx s a BW.out HS.out.t HS.out.s HS.out.w)
      clear QY QN C3 SLE
      go_wp2
      show bodyPost Try.prog Try.f16 (RdQ L (R : Int) C w) Exit.ret _ _
      go_ret3
      exact QA.out
    · have hp1 : (0 : Int) < (p : Int) := by omega
      have hp2 : 0 < p := by omega
      by_cases har : a = R
      · have QA := hide (QN.out w' p a s hp2 hp BW.out har HS.out.w)
        have hz : ((a : Int) != (R : Int)) = false := by simp; omega
        clear QY QN C3 SLE har h0
        go_wp2
        show bodyPost Try.prog Try.f16 (RdQ L (R : Int) C w) Exit.ret _ _
        go_ret3
        exact QA.out
      · have hz : ((a : Int) != (R : Int)) = true := by simp; omega
        obtain ⟨i, rfl⟩ : ∃ i, p = i + 1 := ⟨p - 1, by omega⟩
        have SQ := hide (C3.out w' a HS.out.w ha har)
        have BG : Hid (Su.bw L R (L.length - i) = some (Su.stp L R (Su.first L) a, Su.sg L (Su.ix R a) :: s)) := by
          have := Su.bw_go BW.out har
          rw [show n - (i + 1) + 1 = n - i by omega, hn.out] at this
          exact this
        have hx8 : Su.sg L (Su.ix R a) < 256 := Su.sg_lt hb _
        have hgl := HS.out.t.lt
        have hst : Hid (gt (Su.sts L R) a = Su.stp L R (Su.first L) a) := Su.gt_sts L R a (by rw [← hn.out]; exact ha)
        have hsl := hide (SLE.out a ha)
        have hsg := HS.out.g
        have hsh := HS.out.h
        clear QY QN C3 SLE har h0 BW
        generalize Su.sg L (Su.ix R a) = y at *
        generalize Su.stp L R (Su.first L) a = sn at *
        have hi0 : (0 : Int) ≤ (i : Int) := by omega
        have hin : (i : Int) < (n : Int) := by omega
        have han : (a : Int) < (n : Int) + 1 := by omega
        go_wp2_with fail
        refine (SQ.out).mono ?_
        rintro e w5 ⟨rfl, hb5⟩
        have G1 := hide (HS.out.t.kept hb5)
        have G2 := hide (HS.out.s.kept hb5)
        have G3 := hide (HS.out.x.kept hb5)
        have G4 := hide (HS.out.w.trans (hb5.mono HS.out.w.size))
        clear hb5 SQ x0 x1 x2 HS hgl
        have e2 := G1.out.cell i (yv_get _ i (by rw [List.length_append, List.length_replicate]; omega))
        have f2 := G1.out.frozen i
        have lt2 := G1.out.lt
        have K1 : Hid (Cel (w5.setCell ⟨gx, i, none⟩ (.int .u8 (y : Nat))) gx (yv (List.replicate i 0 ++ (y :: s))) 5) := by
          have := G1.out.set i (.int .u8 (y : Nat))
          rw [yv_set, lay_one] at this
          exact this
        have K2 := hide (G2.out.other (a := ⟨gx, i, none⟩) (by show gs ≠ gx; omega) (.int .u8 (y : Nat)))
        have K3 := hide (G3.out.other (a := ⟨gx, i, none⟩) (by show w.heap.size ≠ gx; omega) (.int .u8 (y : Nat)))
        have K4 : Hid (Below w.heap.size w (w5.setCell ⟨gx, i, none⟩ (.int .u8 (y : Nat)))) := G4.out.setCell (p := ⟨gx, i, none⟩) (by show w.heap.size ≤ gx; omega) _
        have e3 := K2.out.cell a (iv_get _ _ (by rw [Su.length_sts, ← hn.out]; omega))
        rw [hst.out] at e3
        generalize gt (List.replicate (i + 1) 0 ++ s) i = z at *
        have HS2 : Hid (Sr L R [.slice ao n ac, .int .i64 (R : Int), .slice bo C.length bc] w (w5.setCell ⟨gx, i, none⟩ (.int .u8 (y : Nat))) gs gx i sn (y :: s)) := ⟨BG.out, K1.out, K2.out, K3.out, hsg, hsh, K4.out, by rw [← hn.out]; omega, by rw [← hn.out]; exact hsl.out⟩
        clear K1 K2 K3 K4 G1 G2 G3 G4
        go_wp2
        refine wp_goto ?_
        show 0 = 0 ∧ JR L R _ w n _ _ ∧ _
        refine ⟨rfl, ⟨gs, gx, i, sn, y :: s, _, _, _, _, _, _, _, _, _, _, _, _, _, _, _, _, _, _, _, _, _, _, _, _, _, _, _, _, _, _, _, _, _, _, _, rfl, HS2⟩, ?_⟩
        show i < i + 1
        omega
  · intro G
    have HG := hide G
    clear G C3 QY QN SLE
    go_wp2_with fail
    rw [← hW]
    refine (C1.out _ rfl).mono ?_
    rintro e w1 ⟨rfl, hb1⟩
    have HB := hide (bW.trans (hb1.mono bW.size))
    have B2 := hide (B1.kept hb1)
    clear hb1 C1 hW bW B1
    have x0 := B2.out.cell 0 rfl
    have x1 := B2.out.cell 1 rfl
    have x2 := B2.out.cell 2 rfl
    go_wp2_with fail
    refine (C2.out _ HB.out).mono ?_
    rintro e w2 ⟨gs, rfl, hs, hgs, hb2⟩
    have B3 := hide (B2.out.kept hb2)
    have HS := hide hs
    have HB2 := hide (HB.out.trans (hb2.mono HB.out.size))
    have hsl := hs.lt
    have hw1 := B2.out.lt
    have hgs2 : w.heap.size < gs := by omega
    clear hb2 C2 B2 HB x0 x1 x2 hs
    have x0 := B3.out.cell 0 rfl
    go_wp2_with (at_make; refine wpList_make_full _ rfl _ _ 22 rfl w2.heap.size 5 i5 (.int .u8 0) 1 Try.underlying22 hi5 za5 zb5 .i64 .i64 _ _ n rfl rfl rfl rfl ?b2 ?b3 ?b4 ?_)
    case b2 => rw [zc5]; omega
    case b3 => unfold maxLen; omega
    case b4 => simp
    intro w3 hown hgr
    have T2 := cel_made hown
    have hb3 : Below w2.heap.size w2 w3 := (Below.refl _ _).grown hgr (Nat.le_refl _) (fun k h => by cases h)
    rw [← yv_rep n] at T2
    have HS2 : Hid (Sr L R [.slice ao n ac, .int .i64 (R : Int), .slice bo C.length bc] w w3 gs w2.heap.size n 0 []) := by
      refine ⟨by rw [hn.out, Nat.sub_self]; rfl, by rw [List.append_nil]; exact T2, HS.out.kept hb3, B3.out.kept hb3, hsl, hgs2, HB2.out.trans (hb3.mono HB2.out.size), by rw [← hn.out]; exact Nat.le_refl _, Nat.zero_le _⟩
    clear hown hgr hb3 T2 B3 HS HB2 hi5 za5 zb5 zc5 x0
    go_upto_region 6 with fail
    refine wp_label ?_
    rename_i K hK
    exact hK _ _ (HG.out _ _ ⟨gs, w2.heap.size, n, 0, [], _, _, _, _, _, _, _, _, _, _, _, _, _, _, _, _, _, _, _, _, _, _, _, _, _, _, _, _, _, _, _, _, _, _, _, rfl, HS2⟩)
set_option maxHeartbeats 2000000 in
theorem bread_c (ao : Option Addr) (L : List Nat) (ac : Nat) (r : Int) (bo : Option Addr) (C : List Int) (bc : Nat) (w : World) (h : BA w ao L ac bo C bc) :
    Calls Try.prog 16 #[.agg #[.slice ao L.length ac, .int .i64 r, .slice bo C.length bc]] w (RdQ L r C w) := by
  by_cases hok : L.length ≤ 8192 ∧ 0 ≤ r ∧ r ≤ (L.length : Int) ∧ C = toI (Su.fs L)
  · obtain ⟨R, rfl⟩ := Int.eq_ofNat_of_zero_le hok.2.1
    exact bread_in ao L ac R bo C bc w h hok.1 (by omega) hok.2.2.2
  · obtain ⟨W, hW⟩ : ∃ W, W = w.alloc (.cells #[.slice ao L.length ac, .int .i64 r, .slice bo C.length bc] 25) := ⟨_, rfl⟩
    have bW : Below w.heap.size w W := by rw [hW]; exact below_alloc w _
    have C1 : Hid (∀ w0, w0 = W → Calls Try.prog 22 #[.agg #[.slice ao L.length ac, .int .i64 r, .slice bo C.length bc]] w0 fun e w' => e = .returned (.bool false) ∧ Below w0.heap.size w0 w') := fun w0 e => by
      subst e
      have := bcounted_c ao L ac r bo C bc w0 (h.keep bW)
      rw [decide_eq_false hok] at this
      exact this
    have HN : Hid (∀ w', Below w.heap.size w w' → RdQ L r C w (.returned (.tuple #[.slice none 0 0, .slice none 0 0, .bool false])) w') := fun w' hb => .inr ⟨fun t ht => hok ht.counted, rfl, hb⟩
    clear h hok
    go_enter Try.func16, Try.ntmps16
    go_wp2_with fail
    refine wp_scope_again (fun _ _ => False) (fun _ _ => 0) rfl (fun _ _ h => h.elim) fun _ => ?_
    go_wp2_with fail
    rw [← hW]
    refine (C1.out _ rfl).mono ?_
    rintro e w1 ⟨rfl, hb1⟩
    have HB := hide (HN.out _ (bW.trans (hb1.mono bW.size)))
    clear hb1 C1 hW bW HN
    go_wp2
    show bodyPost Try.prog Try.f16 (RdQ L r C w) Exit.ret _ _
    go_ret3
    exact HB.out
end Go.Proofs.Ytojjinjgmijgcaa
