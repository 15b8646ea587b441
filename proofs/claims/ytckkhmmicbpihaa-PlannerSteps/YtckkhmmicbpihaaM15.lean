/-
  The contract of the document's nodes. The contract of the document's text.
-/
import Derived.Test.YtckkhmmicbpihaaM08
import Derived.Test.YtckkhmmicbpihaaM12
import Derived.Deep.QuietTactic
import Derived.BigQuiet
import Derived.Test.YtckkhmmicbpihaaM14
namespace Go.Proofs.Ytckkhmmicbpihaa
open Go.RowKit Num Hp
set_option linter.unusedVariables false
set_option linter.unusedSimpArgs false
set_option maxRecDepth 100000

set_option maxHeartbeats 8000000 in
theorem rnodes_c (r : Int) (ao : Option Addr) (l : List Int) (cap : Nat) (w : World) (hx : Nd w ao l) (hw : win l 8192 = true) (ht : Hv.tot (cntOf l) 256 ≤ 8192) :
    Calls Try.prog 52 #[.int .i64 r, .slice ao l.length cap] w fun e w' => e = .returned (.int .i64 (1536 + Pn.nds (hlen (cntOf l) 256) (cod (hlen (cntOf l) 256)) (cntOf l) r 40 : Nat)) ∧ Below w.heap.size w w' := by
  obtain ⟨h256, hbd⟩ := win_len hw
  have hLok := lok_hlen l (win_more hw)
  have hlv := lok_v (lok_lst hLok)
  rw [cnt_lst hLok.out] at hlv
  have A1 := hide (rlen_c ao l cap w hx (by omega) (win_more hw))
  unfold LO at A1
  have A2 : Hid (∀ g w0, Cel w0 g (ivh (hls l)) 3 → Calls Try.prog 71 #[.slice (some ⟨g, 0, none⟩) 256 256] w0 fun e w' => CO w0 (hlen (cntOf l) 256) e w') := fun g w0 h => rcodes_hls g l w0 h (win_more hw)
  unfold CO at A2
  obtain ⟨n, hn⟩ : ∃ n, Hid (n = cntOf l) := ⟨_, rfl⟩
  obtain ⟨v, hv⟩ : ∃ v, Hid (v = hlen (cntOf l) 256) := ⟨_, rfl⟩
  rw [← hv.out] at A2 hlv ⊢
  rw [← hn.out] at ht ⊢
  obtain ⟨k, hk⟩ : ∃ k, Hid (k = cod v) := ⟨_, rfl⟩
  rw [← hk.out] at hlv ⊢
  obtain ⟨hv40, hkv⟩ := hlv
  have HV := hide hv40
  have HK := hide hkv
  obtain ⟨b, off, rfl, hbw, hcc⟩ := hx (by omega)
  have HCC : Hid (∀ i, i < 256 → w.cell? ⟨b, off + i, none⟩ = some (.int .i64 (n i : Nat))) := fun i hi => by
    have h1 := hcc i (by omega)
    have h2 := hbd i (by omega)
    rw [hn.out]
    unfold cntOf
    rw [h1]
    congr 2
    omega
  have HT := hide ht
  rw [h256] at A1 ⊢
  clear hcc hbd h256 hx hw hv40 hkv ht hLok
  go_enter Try.func52, Try.ntmps52
  go_wp2_with fail
  refine (A1.out).mono ?_
  rintro e w1 ⟨gl, rfl, hl1, _, hb1⟩
  have HB1 := hide hb1
  have HL1 := hide hl1
  clear hb1 hl1 A1
  go_wp2_with fail
  refine (A2.out gl w1 HL1.out).mono ?_
  rintro e w2 ⟨gc, rfl, hc2, _, hb2⟩
  have HB2 := hide (HB1.out.trans (hb2.mono HB1.out.size))
  have HC2 := hide hc2
  clear hb2 hc2 A2 HB1 HL1
  go_wp2
  go_loopw [9, 10] (fun vs vl wr => ∃ (L s : Nat), L ≤ 40 ∧ s ≤ 1536 + L * 179200000 ∧ vl = .int .i64 L ∧ vs = .int .i64 s ∧ Hid (s = 1536 + Pn.nds v k n r L) ∧ Hid (Below w2.heap.size w2 wr)) (fun _ vl _ => 40 - (intOf vl).toNat)
  case atStart => exact ⟨0, 1536, Nat.zero_le _, by omega, rfl, rfl, rfl, Below.refl _ _⟩
  case round =>
    obtain ⟨L, s, hL, hs, rfl, rfl, HS, HBr⟩ := hrel
    by_cases hlt : L < 40
    · have hltz : (L : Int) < 40 := by omega
      have hs1 : s ≤ 1536 + (L + 1) * 179200000 := Nat.le_trans hs (Nat.add_le_add_left (Nat.mul_le_mul_right _ (Nat.le_succ L)) _)
      have ND := hide (Pn.nds_le (v := v) (k := k) r HT.out (L + 1))
      clear hs
      go_wp2
      go_loopw [9, 11] (fun vs va wr => ∃ (a s : Nat), a ≤ 1099511627776 ∧ s ≤ 1536 + (L + 1) * 179200000 ∧ va = .int .u64 a ∧ vs = .int .i64 s ∧ Hid (s + Pn.lv v k n r L a = 1536 + Pn.nds v k n r (L + 1)) ∧ Hid (Below w2.heap.size w2 wr)) (fun _ va _ => (Sh.lvF v k L (intOf va).toNat).length)
      case atStart => exact ⟨0, s, Nat.zero_le _, hs1, rfl, rfl, by show _ = _; rw [HS.out]; unfold Pn.nds; rw [Hv.tot, Nat.add_assoc], HBr⟩
      case round =>
        clear HS HBr
        obtain ⟨a, s, ha, hs, rfl, rfl, HS, HBr⟩ := hrel
        go_wp2
        go_loopw [12, 13, 14, 15, 16] (fun vp vm vo vf vq wr => ∃ (q p m o : Nat) (fd : Bool), q ≤ 256 ∧ p < 18446744073709551616 ∧ vq = .int .i64 q ∧ vp = .int .u64 p ∧ vm = .int .i64 m ∧ vo = .int .i64 o ∧ vf = .bool fd ∧ Hid (Pn.NI v k n L a q fd p m o) ∧ Hid (Below w2.heap.size w2 wr)) (fun _ _ _ _ vq _ => 256 - (intOf vq).toNat)
        case atStart => exact ⟨0, 0, 0, 0, false, Nat.zero_le _, by omega, rfl, rfl, rfl, rfl, rfl, Pn.NI.start v k n L a, HBr⟩
        case round =>
          clear HBr
          obtain ⟨q, p, m, o, fd, hq, hp, rfl, rfl, rfl, rfl, rfl, HN, HBr⟩ := hrel
          by_cases hlq : q < 256
          · have hlqz : (q : Int) < 256 := by omega
            have HC3 := hide (HC2.out.kept HBr.out)
            have e0 := HC3.out.cell (q * 2) (bl2_fst _ _ _ _ hlq)
            have e1 := HC3.out.cell (q * 2 + 1) (bl2_snd _ _ _ _ hlq)
            rw [← hk.out] at e1
            have bA := below_alloc wr (.cells #[.int .i64 (v q : Int), .int .u64 (k q : Int)] 94)
            have HBA : Hid (Below w2.heap.size w2 (wr.alloc (.cells #[.int .i64 (v q : Int), .int .u64 (k q : Int)] 94))) := HBr.out.trans (bA.mono HBr.out.size)
            have v40 := HV.out q
            have kq := HK.out q
            have k40 : k q < 1099511627776 := Nat.lt_of_lt_of_le kq (Nat.le_trans (Nat.pow_le_pow_right (by decide) v40) (by decide))
            have hN := HT.out
            have bds := HN.out.le (by omega)
            clear bA
            by_cases h1 : L < v q
            · obtain ⟨T, hT⟩ : ∃ T, Hid (T = v q - L) := ⟨_, rfl⟩
              obtain ⟨d, hd⟩ : ∃ d, Hid (d = v q - (L + 1)) := ⟨_, rfl⟩
              have hpre : Hid (Sh.pre v k L q = k q / 2 ^ T) := by show _ = _; rw [hT.out]; rfl
              have hpre1 : Hid (Sh.pre v k (L + 1) q = k q / 2 ^ d) := by show _ = _; rw [hd.out]; rfl
              obtain ⟨x, hxx⟩ : ∃ x, Hid (x = k q / 2 ^ T) := ⟨_, rfl⟩
              obtain ⟨y, hyy⟩ : ∃ y, Hid (y = k q / 2 ^ d) := ⟨_, rfl⟩
              have hxk : x ≤ k q := by rw [hxx.out]; exact Nat.div_le_self _ _
              have hyk : y ≤ k q := by rw [hyy.out]; exact Nat.div_le_self _ _
              have ex : (k q : Int) / 2 ^ T = (x : Int) := by rw [hxx.out, Int.natCast_ediv, Int.natCast_pow]; rfl
              have ey : (k q : Int) / 2 ^ d = (y : Int) := by rw [hyy.out, Int.natCast_ediv, Int.natCast_pow]; rfl
              rw [← hxx.out] at hpre
              rw [← hyy.out] at hpre1
              have tz : ((v q : Nat) : Int) - (L : Int) = (T : Int) := by have := hT.out; omega
              have tz1 : (T : Int) - 1 = (d : Int) := by have := hT.out; have := hd.out; omega
              have T40 : T ≤ 40 := by have := hT.out; omega
              have d40 : d ≤ 40 := by have := hd.out; omega
              have z1 : ¬ ((v q : Nat) : Int) ≤ (L : Int) := by omega
              clear hT hd hxx hyy
              by_cases h2 : x < a
              · have h2z : (x : Int) < (a : Int) := by omega
                have HN1 := hide (HN.out.skip (fun _ => by rw [hpre.out]; exact h2))
                clear HN hpre hpre1 ey
                generalize v q = V at *
                generalize k q = Kq at *
                go_wp2
                exact ⟨⟨q + 1, p, m, o, fd, by omega, hp, by go_num, rfl, rfl, rfl, rfl, HN1, HBA⟩, by simp only [intOf]; omega⟩
              · have h2z : ¬ (x : Int) < (a : Int) := by omega
                have HNw := hide fun hp => HN.out.new h1 (by rw [hpre.out]; omega) hp
                have nq := HCC.out q hlq
                have hnq : n q ≤ 8192 := by
                  have := Pn.tot_mono n (show q + 1 ≤ 256 by omega)
                  rw [Hv.tot] at this
                  omega
                have e2 := ((HB2.out.trans (HBA.out.mono HB2.out.size)).cell (p := ⟨b, off + q, none⟩) hbw).trans nq
                have eb : (y : Int).tmod 2 = ((y % 2 : Nat) : Int) := by rw [Int.tmod_eq_emod_of_nonneg (by omega)]; omega
                obtain ⟨bt, hbt⟩ : ∃ bt, bt = y % 2 := ⟨_, rfl⟩
                have hb1 : bt ≤ 1 := by omega
                rw [← hbt] at eb
                have ep : (n q : Int) * (bt : Int) = ((n q * bt : Nat) : Int) := by rw [Int.natCast_mul]
                have hpm : n q * bt ≤ n q := by have := Nat.mul_le_mul_left (n q) hb1; omega
                rw [hpre.out, hpre1.out, ← hbt] at HNw
                cases fd with
                | false =>
                  have HN1 := hide (HNw.out (.inl rfl))
                  clear HN HNw hpre hpre1 hbt nq
                  generalize n q * bt = pr at *
                  generalize n q = Nq at *
                  generalize v q = V at *
                  generalize k q = Kq at *
                  go_wp2
                  go_quiet (fail)
                  go_wp2
                  exact ⟨⟨q + 1, x, Nq, pr, true, by omega, by omega, by go_num, rfl, rfl, rfl, rfl, HN1, below_drewN HBA.out _⟩, by simp only [intOf]; omega⟩
                | true =>
                  by_cases hlp : x < p
                  · have hlpz : (x : Int) < (p : Int) := by omega
                    have HN1 := hide (HNw.out (.inr hlp))
                    clear HN HNw hpre hpre1 hbt nq
                    generalize n q * bt = pr at *
                    generalize n q = Nq at *
                    generalize v q = V at *
                    generalize k q = Kq at *
                    go_wp2
                    go_quiet (fail)
                    go_wp2
                    exact ⟨⟨q + 1, x, Nq, pr, true, by omega, by omega, by go_num, rfl, rfl, rfl, rfl, HN1, below_drewN HBA.out _⟩, by simp only [intOf]; omega⟩
                  · have hlpz : ¬ (x : Int) < (p : Int) := by omega
                    by_cases hep : x = p
                    · subst hep
                      have HN1 := hide (HN.out.same h1 hpre.out)
                      rw [hpre1.out, ← hbt] at HN1
                      have hxe : ((x : Int) == (x : Int)) = true := by simp
                      clear HN HNw hpre hpre1 hbt nq
                      generalize n q * bt = pr at *
                      generalize n q = Nq at *
                      generalize v q = V at *
                      generalize k q = Kq at *
                      go_wp2
                      go_quiet (fail)
                      go_wp2
                      exact ⟨⟨q + 1, x, m + Nq, o + pr, true, by omega, by omega, by go_num, rfl, by go_num, by go_num, rfl, HN1, below_drewN HBA.out _⟩, by simp only [intOf]; omega⟩
                    · have hepz : ((x : Int) == (p : Int)) = false := by simp; omega
                      have HN1 := hide (HN.out.more h1 (by rw [hpre.out]; omega))
                      clear HN HNw hpre hpre1 hbt nq
                      generalize n q * bt = pr at *
                      generalize n q = Nq at *
                      generalize v q = V at *
                      generalize k q = Kq at *
                      go_wp2
                      exact ⟨⟨q + 1, p, m, o, true, by omega, hp, by go_num, rfl, rfl, rfl, rfl, HN1, HBA⟩, by simp only [intOf]; omega⟩
            · have z1 : ((v q : Nat) : Int) ≤ (L : Int) := by omega
              have HN1 := hide (HN.out.skip (fun h => absurd h h1))
              generalize v q = V at *
              generalize k q = Kq at *
              clear HN h1
              go_wp2
              exact ⟨⟨q + 1, p, m, o, fd, by omega, hp, by go_num, rfl, rfl, rfl, rfl, HN1, HBA⟩, by simp only [intOf]; omega⟩
          · obtain rfl : q = 256 := by omega
            have bds := HN.out.le (by omega)
            have hN := HT.out
            cases fd with
            | false =>
              have HZ := hide (HN.out.none (r := r))
              have HS1 : Hid (s = 1536 + Pn.nds v k n r (L + 1)) := by
                have h1 := HS.out
                have h2 := HZ.out
                show _ = _
                omega
              clear HN HS HZ
              go_wp2
              exact ⟨⟨L + 1, s, by omega, hs, by go_num, rfl, HS1, HBr⟩, by simp only [intOf]; omega⟩
            | true =>
              have R1 := hide fun w0 => rrow_c r m o w0
              rw [rowI_in (by omega) (by omega)] at R1
              obtain ⟨h1, h2, h3⟩ := HN.out.some (r := r) HK.out
              have HM := hide h3
              have rl := Pn.row_le r (n := m) (m := o) (by omega) (by omega)
              have HS1 : Hid (s + Pn.row r m o + Pn.lv v k n r L (p + 1) = 1536 + Pn.nds v k n r (L + 1)) := by
                have h4 := HS.out
                show _ = _
                omega
              have hs2 : s + Pn.row r m o ≤ 1536 + (L + 1) * 179200000 := by
                have h4 := HS1.out
                have h5 := ND.out
                omega
              have hp40 : p < 1099511627776 := Nat.lt_of_lt_of_le h2 (Nat.le_trans (Nat.pow_le_pow_right (by decide) (show L ≤ 40 by omega)) (by decide))
              generalize Pn.row r m o = y at *
              clear HN HS h1 h2 h3 rl
              go_wp2_with fail
              refine (R1.out _).mono ?_
              rintro e w3 ⟨rfl, rfl⟩
              go_wp2
              refine ⟨⟨p + 1, s + y, by omega, hs2, by go_num, by go_num, HS1, HBr⟩, ?_⟩
              simp only [intOf]
              rw [show ((p : Int) + 1).toNat = p + 1 by omega, Int.toNat_natCast]
              exact HM.out
    · obtain rfl : L = 40 := by omega
      have HBB := hide (HB2.out.trans (HBr.out.mono HB2.out.size))
      go_wp2
      go_ret
      rw [← HS.out]
      exact ⟨rfl, HBB.out⟩
end Go.Proofs.Ytckkhmmicbpihaa

namespace Go.Proofs.Ytckkhmmicbpihaa
open Go.RowKit Num Hp
set_option linter.unusedVariables false
set_option linter.unusedSimpArgs false
set_option maxRecDepth 100000

namespace Pn
/-- Blocks of z symbols. -/
def bst (i k : Int) (z n : Nat) : Nat := 4096 * up n z + n / z * blk i k z + (if n % z = 0 then 0 else blk i k (n % z))
/-- What all nodes of the codes of these counts need. -/
def ndv (k : Int) (l : List Int) : Nat := 1536 + nds (hlen (cntOf l) 256) (cod (hlen (cntOf l) 256)) (cntOf l) k 40
def txt (s i g k : Int) (l : List Int) : Nat := if s = 1 then rws k (cntOf l) (Hv.tot (cntOf l) 256) 8 else if s = 3 then rws k (cntOf l) (Hv.tot (cntOf l) 256) 8 + 256 else if s = 2 then ndv k l else bst i k (2 ^ g.toNat) (Hv.tot (cntOf l) 256)
theorem rws_le (k : Int) (v : Nat → Nat) {n : Nat} (hn : n = Hv.tot v 256) (h8 : n ≤ 8192) : ∀ q, rws k v n q ≤ q * 700000
  | 0 => Nat.zero_le _
  | q + 1 => by
    have := rws_le k v hn h8 q
    have h1 := os_le v (7 - q) 256
    have h2 := row_le k (n := n) (m := os v (7 - q) 256) (by omega) (by omega)
    unfold rws at *
    rw [Hv.tot]
    omega
theorem ndv_le (k : Int) {l : List Int} (ht : Hv.tot (cntOf l) 256 ≤ 8192) : ndv k l ≤ 7168001536 := by
  have := nds_le (v := hlen (cntOf l) 256) (k := cod (hlen (cntOf l) 256)) (n := cntOf l) k ht 40
  unfold ndv
  omega
theorem bst_le (i k : Int) {z n : Nat} (hz : 16 ≤ z) (hz2 : z ≤ 4096) (hn : n ≤ 8192) : bst i k z n ≤ 1700000000000 := by
  have h1 := up_le n z (by omega)
  have h2 := blk_le i k (s := z) (by omega)
  have h3 : n / z ≤ n := Nat.div_le_self _ _
  have h4 : n % z < z := Nat.mod_lt _ (by omega)
  have h5 := blk_le i k (s := n % z) (by omega)
  have h6 := Nat.mul_le_mul h3 h2
  unfold bst
  split <;> omega
theorem txt_le {s i g k m : Int} (hc : CfI s i g k m) {l : List Int} (ht : Hv.tot (cntOf l) 256 ≤ 8192) : txt s i g k l ≤ 1700000000000 := by
  have h1 := rws_le k (cntOf l) rfl ht 8
  have h2 := ndv_le k ht
  unfold txt
  split
  · omega
  · split
    · omega
    · split
      · omega
      · rcases hc.sh with h | ⟨_, _, _, G, rfl, g1, g2⟩
        · omega
        · have e1 : 2 ^ 4 ≤ 2 ^ G := Nat.pow_le_pow_right (by decide) g1
          have e2 : 2 ^ G ≤ 2 ^ 12 := Nat.pow_le_pow_right (by decide) g2
          rw [Int.toNat_natCast]
          exact bst_le i k (by omega) (by omega) ht
end Pn
set_option maxHeartbeats 4000000 in
theorem rtext_c (s i g k m : Int) (hc : Pn.CfI s i g k m) (ao : Option Addr) (l : List Int) (cap : Nat) (w : World) (hx : Nd w ao l) (hw : win l 8192 = true) (ht : Hv.tot (cntOf l) 256 ≤ 8192) :
    Calls Try.prog 29 #[.agg #[.int .i64 s, .int .i64 i, .int .i64 g, .int .i64 k, .int .i64 m], .slice ao l.length cap, .int .i64 (Hv.tot (cntOf l) 256 : Nat)] w fun e w' => e = .returned (.int .i64 (Pn.txt s i g k l : Nat)) ∧ Below w.heap.size w w' := by
  obtain ⟨W, hW⟩ : ∃ W, W = w.alloc (.cells #[.int .i64 s, .int .i64 i, .int .i64 g, .int .i64 k, .int .i64 m] 23) := ⟨_, rfl⟩
  have bW : Below w.heap.size w W := by rw [hW]; exact below_alloc w _
  have HbW := hide bW
  have B1 : Cel W w.heap.size [.int .i64 s, .int .i64 i, .int .i64 g, .int .i64 k, .int .i64 m] 23 := by rw [hW]; exact Cel.new w _ _
  have HB1 := hide B1
  have c0 := B1.cell 0 rfl
  have c3 := B1.cell 3 rfl
  have R1 : Hid (∀ w0, Below w.heap.size w w0 → Calls Try.prog 51 #[.int .i64 k, .slice ao l.length cap, .int .i64 (Hv.tot (cntOf l) 256 : Nat)] w0 fun e w' => e = .returned (.int .i64 (Pn.rws k (cntOf l) (Hv.tot (cntOf l) 256) 8 : Nat)) ∧ w' = w0) := fun w0 h => rrows_c k ao l cap w0 (hx.keep h) hw ht
  have R2 : Hid (∀ w0, Below w.heap.size w w0 → Calls Try.prog 52 #[.int .i64 k, .slice ao l.length cap] w0 fun e w' => e = .returned (.int .i64 (Pn.ndv k l : Nat)) ∧ Below w0.heap.size w0 w') := fun w0 h => rnodes_c k ao l cap w0 (hx.keep h) hw ht
  have l1 := Pn.rws_le k (cntOf l) rfl ht 8
  have l2 := Pn.ndv_le k ht
  have TE : Hid (∀ n, n = Hv.tot (cntOf l) 256 → Pn.txt s i g k l = if s = 1 then Pn.rws k (cntOf l) n 8 else if s = 3 then Pn.rws k (cntOf l) n 8 + 256 else if s = 2 then Pn.ndv k l else Pn.bst i k (2 ^ g.toNat) n) := fun n hn => by subst hn; rfl
  have TE2 := TE.out _ rfl
  obtain ⟨n, hn⟩ : ∃ n, Hid (n = Hv.tot (cntOf l) 256) := ⟨_, rfl⟩
  rw [← hn.out] at R1 ht l1 TE2 ⊢
  have HTE := hide TE2
  generalize Pn.rws k (cntOf l) n 8 = a1 at *
  generalize Pn.ndv k l = a2 at *
  generalize Pn.txt s i g k l = a3 at *
  clear B1 bW TE TE2 hx hw
  by_cases h1 : s = 1
  · subst h1
    rw [if_pos rfl] at HTE
    go_enter Try.func29, Try.ntmps29
    go_wp2_with fail
    rw [← hW]
    go_wp2_with fail
    refine (R1.out _ HbW.out).mono ?_
    rintro e w1 ⟨rfl, rfl⟩
    clear hW R2
    go_wp2
    go_ret
    rw [HTE.out]
    exact ⟨rfl, HbW.out⟩
  · have h1z : (s == 1) = false := by simp; omega
    rw [if_neg h1] at HTE
    by_cases h3 : s = 3
    · subst h3
      rw [if_pos rfl] at HTE
      go_enter Try.func29, Try.ntmps29
      go_wp2_with fail
      rw [← hW]
      go_wp2_with fail
      refine (R1.out _ HbW.out).mono ?_
      rintro e w1 ⟨rfl, rfl⟩
      clear hW R2
      go_wp2
      go_ret
      rw [HTE.out]
      exact ⟨by go_num, HbW.out⟩
    · have h3z : (s == 3) = false := by simp; omega
      rw [if_neg h3] at HTE
      by_cases h2 : s = 2
      · subst h2
        rw [if_pos rfl] at HTE
        go_enter Try.func29, Try.ntmps29
        go_wp2_with fail
        rw [← hW]
        go_wp2_with fail
        refine (R2.out _ HbW.out).mono ?_
        rintro e w1 ⟨rfl, hb1⟩
        have HB2 := hide (HbW.out.trans (hb1.mono HbW.out.size))
        clear hW R1 hb1
        go_wp2
        go_ret
        rw [HTE.out]
        exact ⟨rfl, HB2.out⟩
      · have h2z : (s == 2) = false := by simp; omega
        rw [if_neg h2] at HTE
        obtain ⟨hs4, i1, i3, G, rfl, g1, g2⟩ := hc.sh.resolve_left (by omega)
        subst hs4
        rw [Int.toNat_natCast] at HTE
        obtain ⟨z, hz⟩ : ∃ z : Nat, Hid (z = 2 ^ G) := ⟨_, rfl⟩
        have z1 : 16 ≤ z := by rw [hz.out]; exact Nat.le_trans (by decide) (Nat.pow_le_pow_right (by decide) g1 : 2 ^ 4 ≤ 2 ^ G)
        have z2 : z ≤ 4096 := by rw [hz.out]; exact Nat.le_trans (Nat.pow_le_pow_right (by decide) g2 : 2 ^ G ≤ 2 ^ 12) (by decide)
        have ez : (2 : Int) ^ G = (z : Int) := by rw [hz.out, Int.natCast_pow]; rfl
        rw [← hz.out] at HTE
        have c2 := HB1.out.cell 2 rfl
        clear R1 R2 l1 l2
        obtain ⟨f, hf⟩ : ∃ f, Hid (f = n / z) := ⟨_, rfl⟩
        obtain ⟨e, he⟩ : ∃ e, Hid (e = n % z) := ⟨_, rfl⟩
        have ef : wrap64 ((n : Int) / (z : Int)) = (f : Int) := wq n z f hf.out (by rw [hf.out]; have := Nat.div_le_self n z; omega)
        have ee : (n : Int) % (z : Int) = (e : Int) := by rw [he.out]; rfl
        have hfn : f ≤ n := by rw [hf.out]; exact Nat.div_le_self _ _
        have hez : e < z := by rw [he.out]; exact Nat.mod_lt _ (by omega)
        have ezz : ((z : Int) == 0) = false := by simp; omega
        have U := hide fun w0 => rup_c n z (by omega) (by omega) (by omega) w0
        have hu := Pn.up_le n z (by omega)
        have K1 := hide fun w0 => rblock_c 4 i (G : Int) k m z (by omega) w0
        have K2 := hide fun w0 => rblock_c 4 i (G : Int) k m e (by omega) w0
        have b1 := Pn.blk_le i k (s := z) (by omega)
        have b2 := Pn.blk_le i k (s := e) (by omega)
        have hp := Nat.mul_le_mul hfn b1
        have HE : Hid (a3 = 4096 * Pn.up n z + f * Pn.blk i k z + (if e = 0 then 0 else Pn.blk i k e)) := by
          show _ = _
          rw [HTE.out, hf.out, he.out]
          rfl
        have ep : (f : Int) * (Pn.blk i k z : Int) = ((f * Pn.blk i k z : Nat) : Int) := by rw [Int.natCast_mul]
        generalize Pn.up n z = u at *
        generalize Pn.blk i k z = y1 at *
        generalize Pn.blk i k e = y2 at *
        clear HTE hf he hc
        by_cases hf0 : f = 0
        · subst hf0
          rw [Nat.zero_mul] at HE
          by_cases he0 : e = 0
          · subst he0
            rw [if_pos rfl] at HE
            go_enter Try.func29, Try.ntmps29
            go_wp2_with fail
            go_quiet (fail)
            go_wp2_with fail
            rw [← hW]
            obtain ⟨V, hV⟩ : ∃ V, V = W.drewN nq := ⟨_, rfl⟩
            have HBV := hide (show Below w.heap.size w V by rw [hV]; exact below_drewN HbW.out nq)
            have HCV := hide (show Cel V w.heap.size [.int .i64 4, .int .i64 i, .int .i64 (G : Int), .int .i64 k, .int .i64 m] 23 by rw [hV]; exact HB1.out.kept (below_drewN (Below.refl _ _) nq))
            rw [← hV]
            clear hV hW HB1 HbW c0 c2 c3
            refine (U.out _).mono ?_
            rintro e w1 ⟨rfl, rfl⟩
            have d0 := HCV.out.cell 0 rfl
            have d1 := HCV.out.cell 1 rfl
            have d2 := HCV.out.cell 2 rfl
            have d3 := HCV.out.cell 3 rfl
            have d4 := HCV.out.cell 4 rfl
            go_wp2
            go_ret
            rw [HE.out]
            exact ⟨by go_num, HBV.out⟩
          · have hez0 : (0 : Int) < (e : Int) := by omega
            rw [if_neg he0] at HE
            go_enter Try.func29, Try.ntmps29
            go_wp2_with fail
            go_quiet (fail)
            go_wp2_with fail
            rw [← hW]
            obtain ⟨V, hV⟩ : ∃ V, V = W.drewN nq := ⟨_, rfl⟩
            have HBV := hide (show Below w.heap.size w V by rw [hV]; exact below_drewN HbW.out nq)
            have HCV := hide (show Cel V w.heap.size [.int .i64 4, .int .i64 i, .int .i64 (G : Int), .int .i64 k, .int .i64 m] 23 by rw [hV]; exact HB1.out.kept (below_drewN (Below.refl _ _) nq))
            rw [← hV]
            clear hV hW HB1 HbW c0 c2 c3
            refine (U.out _).mono ?_
            rintro e w1 ⟨rfl, rfl⟩
            have d0 := HCV.out.cell 0 rfl
            have d1 := HCV.out.cell 1 rfl
            have d2 := HCV.out.cell 2 rfl
            have d3 := HCV.out.cell 3 rfl
            have d4 := HCV.out.cell 4 rfl
            go_wp2_with fail
            refine (K2.out _).mono ?_
            rintro e5 w3 ⟨rfl, hb3⟩
            replace HBV := hide (HBV.out.trans (hb3.mono HBV.out.size))
            clear hb3
            go_wp2
            go_ret
            rw [HE.out]
            exact ⟨by go_num, HBV.out⟩
        · have hfz : (0 : Int) < (f : Int) := by omega
          generalize f * y1 = pr at *
          by_cases he0 : e = 0
          · subst he0
            rw [if_pos rfl] at HE
            go_enter Try.func29, Try.ntmps29
            go_wp2_with fail
            go_quiet (fail)
            go_wp2_with fail
            rw [← hW]
            obtain ⟨V, hV⟩ : ∃ V, V = W.drewN nq := ⟨_, rfl⟩
            have HBV := hide (show Below w.heap.size w V by rw [hV]; exact below_drewN HbW.out nq)
            have HCV := hide (show Cel V w.heap.size [.int .i64 4, .int .i64 i, .int .i64 (G : Int), .int .i64 k, .int .i64 m] 23 by rw [hV]; exact HB1.out.kept (below_drewN (Below.refl _ _) nq))
            rw [← hV]
            clear hV hW HB1 HbW c0 c2 c3
            refine (U.out _).mono ?_
            rintro e w1 ⟨rfl, rfl⟩
            have d0 := HCV.out.cell 0 rfl
            have d1 := HCV.out.cell 1 rfl
            have d2 := HCV.out.cell 2 rfl
            have d3 := HCV.out.cell 3 rfl
            have d4 := HCV.out.cell 4 rfl
            go_wp2_with fail
            refine (K1.out _).mono ?_
            rintro e5 w3 ⟨rfl, hb3⟩
            replace HBV := hide (HBV.out.trans (hb3.mono HBV.out.size))
            clear hb3
            go_wp2
            go_ret
            rw [HE.out]
            exact ⟨by go_num, HBV.out⟩
          · have hez0 : (0 : Int) < (e : Int) := by omega
            rw [if_neg he0] at HE
            go_enter Try.func29, Try.ntmps29
            go_wp2_with fail
            go_quiet (fail)
            go_wp2_with fail
            rw [← hW]
            obtain ⟨V, hV⟩ : ∃ V, V = W.drewN nq := ⟨_, rfl⟩
            have HBV := hide (show Below w.heap.size w V by rw [hV]; exact below_drewN HbW.out nq)
            have HCV := hide (show Cel V w.heap.size [.int .i64 4, .int .i64 i, .int .i64 (G : Int), .int .i64 k, .int .i64 m] 23 by rw [hV]; exact HB1.out.kept (below_drewN (Below.refl _ _) nq))
            rw [← hV]
            clear hV hW HB1 HbW c0 c2 c3
            refine (U.out _).mono ?_
            rintro e w1 ⟨rfl, rfl⟩
            have d0 := HCV.out.cell 0 rfl
            have d1 := HCV.out.cell 1 rfl
            have d2 := HCV.out.cell 2 rfl
            have d3 := HCV.out.cell 3 rfl
            have d4 := HCV.out.cell 4 rfl
            go_wp2_with fail
            refine (K1.out _).mono ?_
            rintro e5 w3 ⟨rfl, hb3⟩
            have HCW := hide (HCV.out.kept hb3)
            replace HBV := hide (HBV.out.trans (hb3.mono HBV.out.size))
            clear hb3 HCV d0 d1 d2 d3 d4
            have d0 := HCW.out.cell 0 rfl
            have d1 := HCW.out.cell 1 rfl
            have d2 := HCW.out.cell 2 rfl
            have d3 := HCW.out.cell 3 rfl
            have d4 := HCW.out.cell 4 rfl
            go_wp2_with fail
            refine (K2.out _).mono ?_
            rintro e6 w4 ⟨rfl, hb4⟩
            replace HBV := hide (HBV.out.trans (hb4.mono HBV.out.size))
            clear hb4
            go_wp2
            go_ret
            rw [HE.out]
            exact ⟨by go_num, HBV.out⟩
end Go.Proofs.Ytckkhmmicbpihaa
