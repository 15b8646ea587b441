/-
  The contract of the program's Array.
-/
import Derived.Test.YtojjinjgmijgcaaTi
import Derived.Test.YtojjinjgmijgcaaRn
import Derived.ScopeJumps
import Derived.WalkMore
import Derived.Deep.Cut
import Derived.Deep.DeepCutAuto
namespace Go.Proofs.Ytojjinjgmijgcaa
open Go.RowKit
set_option linter.unusedVariables false
set_option linter.unusedSimpArgs false
set_option maxRecDepth 100000
/-- A scope with one label that is jumped back to: what holds there, and a measure that each pass lowers; the first time it is come to as each time. -/
theorem wp_scope_again {P : Program} {a : Act} {w : World} {Q : Exit → Act → World → Prop} {c X : Code} (J : Act → World → Prop) (μ : Act → World → Nat) (hf : findLabel c 0 = some (.seq .skip X))
    (pass : ∀ a w, J a w → X.wp P (Exit.jump 0 (fun a' w' => J a' w' ∧ μ a' w' < μ a w) Q) a w)
    (first : (∀ a w, J a w → X.wp P (Exit.jump 0 J Q) a w) → c.wp P (Exit.jump 0 J Q) a w) : (Code.scope c).wp P Q a w :=
  wp_scope_jumps 0 J μ hf (first fun a w h => wp_mono (pass a w h) fun e a' w' q => by
    unfold Exit.jump at q ⊢
    split at q
    · exact ⟨q.1, q.2.1⟩
    · exact q) fun a w h => wp_seq (wp_skip (pass a w h))
/-- How it stands at the label. -/
structure St (t : List Nat) (w w' : World) (ge gn k : Nat) {m : Nat} (L : List (Fin (m + 1))) (N : List Nat) : Prop where
  e : Cel w' ge (iv (fv L)) 3
  n : Cel w' gn (iv N) 3
  ge : w.heap.size ≤ ge
  b : Below w.heap.size w w'
  ns : Su.NS t k N
  p : (fv L).Perm (List.range (m + 1))
  k1 : 1 ≤ k
  k2 : k ≤ 8192
/-- What holds at the label, of the frame and the world. -/
def JA (t : List Nat) (w : World) (ao : Option Addr) (cap m n : Nat) (a' : Act) (w' : World) : Prop := ∃ (ge gn k : Nat) (L : List (Fin (m + 1))) (N : List Nat) (u7 u8 u9 u10 u11 u12 u13 u14 u15 u16 u17 u18 u19 u20 u21 u22 u23 u24 u25 u26 u27 u28 u29 : Value), a' = { tmps := #[.slice ao m cap, undef, .slice none 0 0, .int .i64 0, .slice (some ⟨ge, 0, none⟩) n n, .slice (some ⟨gn, 0, none⟩) n n, .int .i64 (k : Nat), u7, u8, u9, u10, u11, u12, u13, u14, u15, u16, u17, u18, u19, u20, u21, u22, u23, u24, u25, u26, u27, u28, u29], defers := [] } ∧ Hid (St t w w' ge gn k L N)
/-- What one pass comes to. -/
theorem st_next {t N : List Nat} {k m : Nat} {L L' : List (Fin (m + 1))} (hm : m = t.length) (h : Su.NS t k N) (hp : (fv L).Perm (List.range (m + 1))) (hq : L'.Perm L) (hs : L'.Pairwise (fun x y => ¬ Su.pl (fun i => gt N i) (fun i => gt N (i + k)) y.val x.val)) :
    (fv L').length = m + 1 ∧ (∀ i, i < (fv L').length → gt (fv L') i < (fv L').length) ∧ gt (fv L') m ≤ m ∧ (fv L').Perm (List.range (m + 1)) ∧ Su.NS t (k + k) (Su.nl (fv L') (fun i => (gt N i, gt N (i + k))) (fv L').length) ∧
    (gt (Su.nl (fv L') (fun i => (gt N i, gt N (i + k))) (fv L').length) (gt (fv L') m) < m → k + k < m) ∧ (¬ gt (Su.nl (fv L') (fun i => (gt N i, gt N (i + k))) (fv L').length) (gt (fv L') m) < m → Su.Ord t (fv L')) := by
  subst hm
  have hP : (fv L').Perm (List.range (t.length + 1)) := (hq.map _).trans hp
  have hl : (fv L').length = t.length + 1 := by rw [hP.length_eq, List.length_range]
  have hlt : ∀ i, i < (fv L').length → gt (fv L') i < (fv L').length := fun i hi => by
    have := List.mem_range.1 (hP.mem_iff.1 (List.mem_of_getElem? (gt_get _ i hi)))
    omega
  have hg : ∀ i, (hi : i < L'.length) → gt (fv L') i = (L'[i]).val := fun i hi => by
    unfold gt fv
    rw [List.getD_eq_getElem?_getD, List.getElem?_map, List.getElem?_eq_getElem hi]
    rfl
  have hS : ∀ i j, i < j → j < (fv L').length → ¬ Su.pl (fun i => gt N i) (fun i => gt N (i + k)) (gt (fv L') j) (gt (fv L') i) := fun i j hij hj => by
    rw [length_fv] at hj
    rw [hg i (by omega), hg j hj]
    exact List.pairwise_iff_getElem.1 hs i j (by omega) hj hij
  have hN := h.next hP hS
  exact ⟨hl, hlt, by have := hlt t.length (by omega); omega, hP, hN, fun hd => Su.ns_more hN hP rfl hd, fun hd => Su.ns_done hN hP rfl hd⟩
theorem fv_id (m : Nat) : fv ((List.range (m + 1)).map fun i => Fin.ofNat (m + 1) i) = List.range (m + 1) := by
  unfold fv
  rw [List.map_map]
  conv => rhs; rw [← List.map_id (List.range (m + 1))]
  refine List.map_congr_left fun i hi => ?_
  have := List.mem_range.1 hi
  show i % (m + 1) = i
  exact Nat.mod_eq_of_lt this
set_option maxHeartbeats 4000000 in
theorem sarr_in (ao : Option Addr) (t : List Nat) (cap : Nat) (w : World) (hx : Bd w ao t) (hb : Bytes t) (hc : t.length ≤ cap) (hl : t.length ≤ 8192) :
    Calls Try.prog 17 #[.slice ao t.length cap] w (ArrQ t w) := by
  obtain ⟨m, hm⟩ : ∃ m, Hid (m = t.length) := ⟨_, rfl⟩
  obtain ⟨n, hn⟩ : ∃ n, Hid (n = m + 1) := ⟨_, rfl⟩
  have C1 : Hid (∀ w0, Calls Try.prog 25 #[.slice ao m cap] w0 fun e w' => ∃ g, e = .returned (.slice (some ⟨g, 0, none⟩) n n) ∧ Cel w' g (iv (List.range n)) 3 ∧ w0.heap.size ≤ g ∧ Below w0.heap.size w0 w') := fun w0 => by
    have := splaces_c ao t cap w0 hl
    rw [← hm.out, ← hn.out] at this
    refine this.mono ?_
    rintro e w' ⟨g, h1, h2, h3, h4⟩
    rw [List.length_range] at h1
    exact ⟨g, h1, h2, h3, h4⟩
  have C2 : Hid (∀ w0, Below w.heap.size w w0 → Calls Try.prog 26 #[.slice ao m cap] w0 fun e w' => ∃ g N, e = .returned (.slice (some ⟨g, 0, none⟩) n n) ∧ Cel w' g (iv N) 3 ∧ Su.NS t 1 N ∧ Below w0.heap.size w0 w') := fun w0 hb0 => by
    have := snames_c ao t cap w0 (hx.keep hb0) hb hl
    rw [← hm.out] at this
    refine this.mono ?_
    rintro e w' ⟨g, h1, h2, h3, h4⟩
    refine ⟨g, _, ?_, h2, ?_, h4⟩
    · rw [h1, List.length_map, List.length_range, hn.out]
    · have := Su.ns_one t
      rw [← hm.out] at this
      exact this
  have C3 : Hid (∀ w0 gn (N : List Nat) (k : Nat), Cel w0 gn (iv N) 3 → N.length = m + 1 → k ≤ 8192 → Calls Try.prog 27 #[.slice (some ⟨gn, 0, none⟩) n n, .int .i64 (k : Nat)] w0 fun e w' => ∃ g, e = .returned (.slice (some ⟨g, 0, none⟩) n n) ∧ Cel w' g (pq (m + 1) (fun i => gt N i) (fun i => gt N (i + k)) (m + 1)) 59 ∧ w0.heap.size ≤ g ∧ Below w0.heap.size w0 w') := fun w0 gn N k h1 h2 h3 => by
    have := spairs_c gn N k n w0 h1 (by rw [h2, hm.out]; omega) h3
    unfold prs at this
    rw [h2, ← hn.out] at this
    rw [← hn.out]
    exact this
  have C4 : Hid (∀ (w0 : World) (ge gb gp : Nat) (L : List (Fin (m + 1))) (a b : Nat → Nat), Cel w0 ge (iv (fv L)) 3 → Cel w0 gb [.slice (some ⟨gp, 0, none⟩) n n] 54 → Cel w0 gp (pq (m + 1) a b (m + 1)) 59 → gb ≠ ge → gp ≠ ge → L.length = m + 1 → Calls Try.prog 28 #[.slice (some ⟨ge, 0, none⟩) n n, .func (.func 29) #[] #[.pointer (some ⟨gb, 0, none⟩)]] w0 fun e w' => e = .returned (.tuple #[]) ∧ ∃ L' : List (Fin (m + 1)), L'.Perm L ∧ L'.Pairwise (fun x y => ¬ Su.pl a b y.val x.val) ∧ Cel w' ge (iv (fv L')) 3 ∧ Cel w' gb [.slice (some ⟨gp, 0, none⟩) n n] 54 ∧ Cel w' gp (pq (m + 1) a b (m + 1)) 59 ∧ (∀ base, base ≤ ge → base ≤ w0.heap.size → Below base w0 w')) := fun w0 ge gb gp L a b h1 h2 h3 h4 h5 h6 => by
    rw [hn.out] at h2 ⊢
    exact ssort_c m ge gb gp (m + 1) L a b w0 h1 h2 h3 h4 h5 (by rw [hm.out]; exact hl) h6
  have C5 : Hid (∀ (w0 : World) (ge gp : Nat) (E : List Nat) (a b : Nat → Nat), Cel w0 ge (iv E) 3 → Cel w0 gp (pq (m + 1) a b (m + 1)) 59 → E.length = m + 1 → (∀ i, i < E.length → gt E i < E.length) → Calls Try.prog 31 #[.slice (some ⟨ge, 0, none⟩) n n, .slice (some ⟨gp, 0, none⟩) n n] w0 fun e w' => ∃ g, e = .returned (.slice (some ⟨g, 0, none⟩) n n) ∧ Cel w' g (iv (Su.nl E (fun i => (a i, b i)) E.length)) 3 ∧ Below w0.heap.size w0 w') := fun w0 ge gp E a b h1 h2 h3 h4 => by
    have := snamed_c ge gp E a b n n w0 h1 (by rw [h3]; exact h2) (by rw [h3, hm.out]; omega) h4
    rw [h3, ← hn.out] at this
    refine this.mono ?_
    rintro e w' ⟨g, q1, q2, q3, q4⟩
    rw [Su.length_nl, h3, ← hn.out] at q1
    refine ⟨g, q1, ?_, q4⟩
    rw [h3, ← hn.out]
    exact q2
  have C6 : Hid (∀ (w0 : World) (ge gn : Nat) (E N : List Nat) (b : Bool), Cel w0 ge (iv E) 3 → Cel w0 gn (iv N) 3 → E.length = m + 1 → N.length = m + 1 → gt E m ≤ m → b = decide (gt N (gt E m) < m) → Calls Try.prog 32 #[.slice (some ⟨ge, 0, none⟩) n n, .slice (some ⟨gn, 0, none⟩) n n] w0 fun e w' => e = .returned (.bool b) ∧ w' = w0) := fun w0 ge gn E N b h1 h2 h3 h4 h5 h6 => by
    have := salike_c ge gn E N n n m w0 h1 h2 h3 h4 (by rw [hm.out]; exact hl) h5
    rw [h3, h4, ← hn.out, ← h6] at this
    exact this
  have HR : Hid (∀ E : List Nat, Su.Ord t E → E = Su.sa t) := fun E h => h.eq
  have hl2 : m ≤ 8192 := by rw [hm.out]; exact hl
  have hn2 : n ≤ 8193 := by rw [hn.out]; omega
  have AQ : Hid (∀ w' ge (E : List Nat), Su.Ord t E → Cel w' ge (iv E) 3 → Below w.heap.size w w' → ArrQ t w (.returned (.tuple #[.slice (some ⟨ge, 0, none⟩) n n, .int .i64 0])) w') := fun w' ge E h1 h2 h3 => by
    have e := h1.eq
    subst e
    have hls := Su.length_sa t
    rw [← hm.out, ← hn.out] at hls
    unfold ArrQ
    rw [(Su.arr_in hl).1, (Su.arr_in hl).2, hls]
    exact ⟨some ⟨ge, 0, none⟩, n, rfl, nd_cel h2, Nat.le_refl _, h3⟩
  rw [← hm.out]
  clear hx hb hc hl
  go_enter Try.func17, Try.ntmps17
  go_wp2_with fail
  refine wp_scope_again (JA t w ao cap m n) (fun a' _ => m - (intOf (a'.tmps.getD 6 undef)).toNat) rfl ?_ ?_
  · rintro a' w' ⟨ge, gn, k, L, N, u7, u8, u9, u10, u11, u12, u13, u14, u15, u16, u17, u18, u19, u20, u21, u22, u23, u24, u25, u26, u27, u28, u29, rfl, HS⟩
    have hLl : Hid (L.length = m + 1) := by
      have := HS.out.p.length_eq
      rw [length_fv, List.length_range] at this
      exact this
    have hk1 := HS.out.k1
    have hk2 := HS.out.k2
    clear C1 C2
    go_wp2_with fail
    refine (C3.out _ gn N k HS.out.n (by rw [HS.out.ns.len, hm.out]) hk2).mono ?_
    rintro e w1 ⟨gp, rfl, hP, hgp, hB1⟩
    have HP := hide hP
    have HE1 := hide (HS.out.e.kept hB1)
    have HB1 := hide (HS.out.b.trans (hB1.mono HS.out.b.size))
    have hgel := HS.out.e.lt
    have hge := HS.out.ge
    have hN1 : Hid (gp ≠ ge) := by show gp ≠ ge; omega
    clear hP hB1
    have HN0 := hide HS.out.ns
    have HP0 := hide HS.out.p
    go_wp2_with fail
    have hgb : Hid (w1.heap.size ≠ ge) := by have := HE1.out.lt; show w1.heap.size ≠ ge; omega
    have hz1 : Hid (w.heap.size ≤ w1.heap.size) := HB1.out.size
    refine (C4.out _ ge w1.heap.size gp L (fun i => gt N i) (fun i => gt N (i + k)) (HE1.out.alloc _) (Cel.new w1 _ _) (HP.out.alloc _) hgb.out hN1.out hLl.out).mono ?_
    rintro e w2 ⟨rfl, L', hPm, hPw, hE2, hb2, hP2, hB2⟩
    have HX := hide (st_next hm.out HN0.out HP0.out hPm hPw)
    have HE2 := hide hE2
    have HP2 := hide hP2
    have HB2 : Hid (Below w.heap.size w w2) := (HB1.out.alloc hz1.out _).trans (hB2 w.heap.size hge (by have := hz1.out; simp; omega))
    have c0 := hb2.cell 0 rfl
    clear hPm hPw hE2 hb2 hP2 hB2 HP HE1 HB1 hgb C4 C3 HS
    generalize w1.heap.size = gb at *
    go_wp2_with fail
    refine (C5.out _ ge gp (fv L') (fun i => gt N i) (fun i => gt N (i + k)) HE2.out HP2.out HX.out.1 HX.out.2.1).mono ?_
    rintro e w3 ⟨gn', rfl, hN3, hB3⟩
    have HE3 := hide (HE2.out.kept hB3)
    have HB3 := hide (HB2.out.trans (hB3.mono HB2.out.size))
    have HN3 := hide hN3
    clear hN3 hB3 HE2 HP2 HB2 c0 C5
    by_cases hd : gt (Su.nl (fv L') (fun i => (gt N i, gt N (i + k))) (fv L').length) (gt (fv L') m) < m
    · have HK := hide (HX.out.2.2.2.2.2.1 hd)
      have hk3 : k + k < m := HK.out
      have CA := hide (C6.out w3 ge gn' (fv L') _ true HE3.out HN3.out HX.out.1 (by rw [Su.length_nl]; exact HX.out.1) HX.out.2.2.1 (decide_eq_true hd).symm)
      have HS2 : Hid (St t w w3 ge gn' (k + k) L' (Su.nl (fv L') (fun i => (gt N i, gt N (i + k))) (fv L').length)) := ⟨HE3.out, HN3.out, hge, HB3.out, HX.out.2.2.2.2.1, HX.out.2.2.2.1, by omega, by omega⟩
      clear hd C6 AQ HR
      go_wp2_with (go_at_call 32; refine (CA.out).mono ?_; rintro e w4 ⟨rfl, rfl⟩)
      refine wp_goto ?_
      rw [show (k : Int) * 2 = ((k + k : Nat) : Int) by omega]
      show 0 = 0 ∧ JA t w ao cap m n _ _ ∧ _
      refine ⟨rfl, ⟨ge, gn', k + k, L', _, _, _, _, _, _, _, _, _, _, _, _, _, _, _, _, _, _, _, _, _, _, _, _, rfl, HS2⟩, ?_⟩
      show m - (k + k) < m - k
      omega
    · have HK := hide (HX.out.2.2.2.2.2.2 hd)
      have CA := hide (C6.out w3 ge gn' (fv L') _ false HE3.out HN3.out HX.out.1 (by rw [Su.length_nl]; exact HX.out.1) HX.out.2.2.1 (decide_eq_false hd).symm)
      have QA := hide (AQ.out w3 ge (fv L') HK.out HE3.out HB3.out)
      clear hd C6 AQ HR
      go_wp2_with (go_at_call 32; refine (CA.out).mono ?_; rintro e w4 ⟨rfl, rfl⟩)
      show bodyPost Try.prog Try.f17 (ArrQ t w) Exit.ret _ _
      go_ret2
      exact QA.out
  · intro G
    have HG := hide G
    clear G C3 C4 C5 C6
    go_upto_region 4 with (first | (go_at_call 25; refine (C1.out _).mono ?_; rintro e w1 ⟨ge, rfl, hE, hge, hB1⟩; have HE1 := hide hE; have HB1 := hide hB1; have HGE := hide hge; clear hE hB1 hge) | (go_at_call 26; refine (C2.out _ HB1.out).mono ?_; rintro e w2 ⟨gn, N, rfl, hN, hNS, hB2⟩; have HN := hide hN; have HNS := hide hNS; have HB2 := hide hB2; clear hN hNS hB2))
    have HS2 : Hid (St t w w2 ge gn 1 ((List.range (m + 1)).map fun i => Fin.ofNat (m + 1) i) N) := by
      refine ⟨?_, HN.out, HGE.out, HB1.out.trans (HB2.out.mono HB1.out.size), HNS.out, ?_, Nat.le_refl _, by omega⟩
      · rw [fv_id, ← hn.out]
        exact HE1.out.kept HB2.out
      · rw [fv_id]
    refine wp_label ?_
    rename_i K hK
    exact hK _ _ (HG.out _ _ ⟨ge, gn, 1, _, N, _, _, _, _, _, _, _, _, _, _, _, _, _, _, _, _, _, _, _, _, _, _, _, rfl, HS2⟩)
set_option maxHeartbeats 2000000 in
theorem sarr_c (ao : Option Addr) (t : List Nat) (cap : Nat) (w : World) (hx : Bd w ao t) (hb : Bytes t) (hc : t.length ≤ cap) :
    Calls Try.prog 17 #[.slice ao t.length cap] w (ArrQ t w) := by
  by_cases h : t.length ≤ 8192
  · exact sarr_in ao t cap w hx hb hc h
  · have h2 : (8192 : Int) < (t.length : Int) := by omega
    have R := hide (Su.arr_out h)
    clear hx hb hc h
    go_enter Try.func17, Try.ntmps17
    go_wp2_with fail
    refine wp_scope_again (fun _ _ => False) (fun _ _ => 0) rfl (fun _ _ h => h.elim) fun _ => ?_
    go_wp2
    show bodyPost Try.prog Try.f17 (ArrQ t w) Exit.ret _ _
    go_ret2
    unfold ArrQ
    rw [R.out.1, R.out.2]
    exact ⟨none, 0, rfl, nd0 _ _, Nat.zero_le _, Below.refl _ _⟩
end Go.Proofs.Ytojjinjgmijgcaa
