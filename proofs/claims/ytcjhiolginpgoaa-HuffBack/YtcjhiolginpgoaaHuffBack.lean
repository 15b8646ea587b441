/-
  For all bytes, at most 300: symbols that are put by the codes of their counts are read, one behind the other, in as many bits as are told (P11.3, P11.4). No condition.
-/
import Derived.Test.YtcjhiolginpgoaaM18
import Derived.Deep.DeepCutAuto
namespace Go.Proofs.Ytcjhiolginpgoaa.huffBack
open Go.ChangeShapes Go.WideShapes Go.ChangeAt Go.RowKit Num Bit Ji Hp Ka Hr
set_option linter.unusedVariables false
set_option linter.unusedSimpArgs false
set_option maxRecDepth 100000

def QP (wr : World) (M : Int) (ys : List Nat) (v11 v12 : Value) (wx : World) : Prop := ∃ gq bo cap, v11 = .pointer (some ⟨gq, 0, none⟩) ∧ v12 = .int .i64 0 ∧ Cel wx gq [.int .i64 M, .slice bo ys.length cap] 45 ∧ Wd wx bo ys ∧ (∀ a, bo = some a → wr.heap.size ≤ a.block) ∧ wr.heap.size ≤ gq ∧ Below wr.heap.size wr wx
/-- The rows of the statement, q symbols being put. -/
structure BK (w wr : World) (gA gl gc gb : Nat) (T : List Nat) (n : Nat) (v : Nat → Nat) (q : Nat) : Prop where
  cA : Cel wr gA (ivh (cts T n)) 3
  cl : Cel wr gl (ivh (hls (ctI T n))) 3
  cc : Cel wr gc (cds v) 33
  cb : ∃ bo cap, Cel wr gb [.int .i64 (nq v T q : Nat), .slice bo (rowOf (nq v T q) (bq v T q)).length cap] 45 ∧ Wd wr bo (rowOf (nq v T q) (bq v T q)) ∧ ∀ a, 0 < (rowOf (nq v T q) (bq v T q)).length → bo = some a → a.block ≠ gb
  lt : w.heap.size ≤ gb ∧ gA < gb ∧ gl < gb ∧ gc < gb
  bw : Below w.heap.size w wr

set_option maxHeartbeats 16000000 in
theorem walk (w : World) (aT : Option Addr) (T : List Nat) (cT : Nat) (XT : Byt w aT T) (FT : Byts T) :
    Calls Try.prog 6 #[.slice aT T.length cT] w fun e w' => e = .returned (.bool true) ∧ Below w.heap.size w w' := by
  by_cases s1 : (300 : Int) < (T.length : Int)
  case pos =>
    go_enter Try.func6, Try.ntmps6
    go_wp2_with fail
    refine (jheads_c _).mono ?_
    rintro e w9 ⟨rfl, hb9⟩
    go_wp2
    go_ret
    exact ⟨rfl, hb9⟩
  obtain ⟨i0, hi, hz0, hz1, hz2⟩ := info_parts info_i64
  obtain ⟨n, hn⟩ : ∃ n, Hid (n = T.length) := ⟨_, rfl⟩
  have n300 : n ≤ 300 := by have := hn.out; omega
  have HT : Hid (0 < n → ∃ b off, aT = some ⟨b, off, none⟩ ∧ b < w.heap.size ∧ ∀ i, i < n → w.cell? ⟨b, off + i, none⟩ = some (.int .u8 (gt T i))) := by rw [hn.out]; exact XT
  have HF : Hid (∀ q, q < n → gt T q < 256) := by rw [hn.out]; exact FT
  obtain ⟨v, hv⟩ : ∃ v, Hid (v = hlen (cntOf (ctI T n)) 256) := ⟨_, rfl⟩
  have hwin := ctI_win T n (by omega)
  have HV : Hid (Lok v) := by rw [hv.out]; exact lok_hlen _ hwin
  have HPO : Hid (∀ q, q < n → 0 < v (gt T q)) := fun q hq => by rw [hv.out]; exact pos_text T n (by omega) q hq (HF.out q hq)
  have HCO : Hid (costv (ctI T n) (lst (hlen (cntOf (ctI T n)) 256)) = nq v T n) := by rw [hv.out]; exact cost_text T n (by omega) HF.out
  have HCL : Hid (∀ c, c < 256 → cod v c < 18446744073709551616) := fun c h => by
    have h1 := cod_lt HV.out c h
    have h3 : (2 : Nat) ^ 40 = 1099511627776 := by decide
    omega
  have HNL : Hid (∀ q, q ≤ n → nq v T q ≤ 12000) := fun q hq => by
    have := nq_le v T HV.out.le q
    omega
  have CL : Hid (∀ (g : Nat) (w0 : World), Cel w0 g (ivh (cts T n)) 3 → Calls Try.prog 9 #[.slice (some ⟨g, 0, none⟩) 256 256] w0 fun e w' => LO w0 (hls (ctI T n)) e w') := fun g w0 h => by
    have := jlen_c (some ⟨g, 0, none⟩) (ctI T n) 256 w0 (nd_cel h) (by rw [length_ctI]; omega) hwin
    rw [length_ctI] at this
    exact this
  have CD : Hid (∀ (g : Nat) (w0 : World), Cel w0 g (ivh (hls (ctI T n))) 3 → Calls Try.prog 10 #[.slice (some ⟨g, 0, none⟩) 256 256] w0 fun e w' => CO w0 v e w') := fun g w0 h => by
    rw [hv.out]
    exact jcodes_hls g (ctI T n) w0 h hwin
  have CTT : Hid (∀ (g1 g2 : Nat) (w0 : World), Cel w0 g1 (ivh (cts T n)) 3 → Cel w0 g2 (ivh (hls (ctI T n))) 3 → Calls Try.prog 15 #[.slice (some ⟨g1, 0, none⟩) 256 256, .slice (some ⟨g2, 0, none⟩) 256 256] w0 fun e w' => e = .returned (.int .i64 (nq v T n : Nat)) ∧ Below w0.heap.size w0 w') := fun g1 g2 w0 h1 h2 => by
    have := jcost_c (some ⟨g1, 0, none⟩) (ctI T n) 256 (some ⟨g2, 0, none⟩) (lst (hlen (cntOf (ctI T n)) 256)) 256 w0 (nd_cel h1) (nd_hls h2) (by rw [length_ctI]; omega) (by rw [length_lst]; omega)
    rw [HCO.out, length_lst, length_ctI] at this
    exact this
  have hTl : T.length = n := hn.out.symm
  rw [hTl]
  clear XT FT hn hTl s1 HCO hv hwin
  have n300z : ¬ (300 : Int) < (n : Int) := by omega
  go_enter Try.func6, Try.ntmps6
  go_wp2_with (at_make; refine wpList_make_full _ rfl _ _ 22 rfl w.heap.size 3 i0 (.int .i64 0) 1 Try.underlying22 hi hz0 hz1 .i64 .i64 _ _ 256 rfl rfl rfl rfl ?b2 ?b3 ?b4 ?_)
  case b3 => unfold maxLen; omega
  intro w1 hown hgr
  have B1 := cel_made1 hown
  have hb1 : Below w.heap.size w w1 := (Below.refl _ _).grown hgr (Nat.le_refl _) (fun k h => by cases h)
  rw [← cts_zero T] at B1
  have HA1 := hide B1
  have HB1 := hide hb1
  clear hown hgr hb1 hi hz0 hz1 hz2 B1
  obtain ⟨gA, hgA⟩ : ∃ gA, Hid (gA = w.heap.size) := ⟨_, rfl⟩
  rw [← hgA.out] at HA1 ⊢
  go_wp2
  go_loopw [4] (fun vi wr => ∃ q : Nat, q ≤ n ∧ vi = .int .i64 q ∧ Hid (Cel wr gA (ivh (cts T q)) 3) ∧ Hid (Below w.heap.size w wr)) (fun vi _ => n - (intOf vi).toNat)
  case atStart => exact ⟨0, Nat.zero_le _, rfl, HA1, HB1⟩
  case round =>
    clear HA1 HB1
    obtain ⟨q, hq, rfl, HA, HB⟩ := hrel
    by_cases hlt : q < n
    · have hltz : (q : Int) < (n : Int) := by omega
      obtain ⟨tb, tof, rfl, htb, htc⟩ := HT.out (by omega)
      have t0 := (HB.out.cell (p := ⟨tb, tof + q, none⟩) htb).trans (htc q hlt)
      have x256 := HF.out q hlt
      have n0 := HA.out.cell (gt T q) (ivh_get _ _ (by rw [length_cts]; exact x256))
      rw [cts_at T q _ x256] at n0
      have f0 := HA.out.frozen (gt T q)
      have hcq := cq_le T (gt T q) q
      have HA1 : Hid (Cel (wr.setCell ⟨gA, gt T q, none⟩ (.int .i64 ((cq T (gt T q) q + 1 : Nat) : Int))) gA (ivh (cts T (q + 1))) 3) := by
        have := HA.out.set (gt T q) (.int .i64 ((cq T (gt T q) q + 1 : Nat) : Int))
        rw [ivh_set, cts_step T q x256] at this
        exact this
      have HB1 : Hid (∀ y, Below w.heap.size w (wr.setCell ⟨gA, gt T q, none⟩ y)) := fun y => HB.out.setCell (by show w.heap.size ≤ gA; have := hgA.out; omega) y
      have xz : ((gt T q : Nat) : Int) < 256 := by omega
      clear htc HA HB
      generalize cq T (gt T q) q = C at *
      generalize gt T q = x at *
      go_wp2
      exact ⟨⟨q + 1, by omega, by go_num, HA1, HB1.out _⟩, by simp only [intOf]; omega⟩
    · obtain rfl : q = n := by omega
      go_wp2_with fail
      refine (CL.out gA _ HA.out).mono ?_
      rintro e w2 ⟨gl, rfl, cl2, hgl, hb2⟩
      have HA2 := hide (HA.out.kept hb2)
      have HL2 := hide cl2
      have HB2 := hide (HB.out.trans (hb2.mono HB.out.size))
      clear cl2 hgl hb2 HA HB
      go_wp2_with fail
      refine (CD.out gl w2 HL2.out).mono ?_
      rintro e w3 ⟨gc, rfl, cc3, hgc, hb3⟩
      have HA3 := hide (HA2.out.kept hb3)
      have HL3 := hide (HL2.out.kept hb3)
      have HC3 := hide cc3
      have HB3 := hide (HB2.out.trans (hb3.mono HB2.out.size))
      clear cc3 hgc hb3 HA2 HL2 HB2 CL CD
      have HK0 : Hid (BK w (w3.alloc (.cells #[.int .i64 0, .slice none 0 0] 45)) gA gl gc w3.heap.size T q v 0) := ⟨HA3.out.alloc _, HL3.out.alloc _, HC3.out.alloc _, ⟨none, 0, (by have h0 : nq v T 0 = 0 := rfl; have h1 : ∀ f, (rowOf 0 f).length = 0 := fun f => (by simp [rowOf]); rw [h0, h1]; exact Cel.new w3 _ _), fun h => absurd h (by simp [nq, rowOf]), fun a h => absurd h (by simp [nq, rowOf])⟩, ⟨HB3.out.size, HA3.out.lt, HL3.out.lt, HC3.out.lt⟩, HB3.out.alloc HB3.out.size _⟩
      clear HA3 HL3 HC3 HB3
      have HG3 : Hid (w.heap.size ≤ w3.heap.size) := HK0.out.lt.1
      have zq : Hid (q ≤ 300) := by show q ≤ 300; omega
      go_wp2
      generalize w3.alloc (.cells #[.int .i64 0, .slice none 0 0] 45) = W0 at *
      generalize w3.heap.size = gb at *
      go_loopw [10] (fun vi wr => ∃ p : Nat, p ≤ q ∧ vi = .int .i64 p ∧ Hid (BK w wr gA gl gc gb T q v p)) (fun vi _ => q - (intOf vi).toNat)
      case atStart => exact ⟨0, Nat.zero_le _, rfl, HK0⟩
      case round =>
        clear HK0
        obtain ⟨p, hp, rfl, HK⟩ := hrel
        by_cases hpq : p < q
        · have hpz : (p : Int) < (q : Int) := by omega
          obtain ⟨tb, tof, rfl, htb, htc⟩ := HT.out (by omega)
          obtain ⟨bo, cp, cb, wd, nb⟩ := HK.out.cb
          have hlt := HK.out.lt
          have t0 := (HK.out.bw.cell (p := ⟨tb, tof + p, none⟩) htb).trans (htc p hpq)
          have x256 := HF.out p hpq
          have vpos := HPO.out p hpq
          have v40 := HV.out.le (gt T p)
          have xz : ((gt T p : Nat) : Int) < 256 := by omega
          have e0 := HK.out.cc.cell (gt T p * 2) (cds_fst v (gt T p) x256)
          have e1 := HK.out.cc.cell (gt T p * 2 + 1) (cds_snd v (gt T p) x256)
          have b0 := cb.cell 0 rfl
          have b1 := cb.cell 1 rfl
          have hgb2 : gb < wr.heap.size := cb.lt
          have hgc2 : gc < wr.heap.size := HK.out.cc.lt
          have htb2 : tb < wr.heap.size := Nat.lt_of_lt_of_le htb HK.out.bw.size
          have HCB := hide cb
          have hnq := HNL.out p (by omega)
          have CP : Hid (∀ w0, Below wr.heap.size wr w0 → Calls Try.prog 17 #[.agg #[.int .i64 (nq v T p : Nat), .slice bo (rowOf (nq v T p) (bq v T p)).length cp], .agg #[.int .i64 (v (gt T p) : Nat), .int .u64 (cod v (gt T p) : Nat)]] w0 fun e w' => ∃ bo2 dap, e = .returned (.tuple #[.agg #[.int .i64 ((nq v T (p + 1) : Nat) : Int), .slice bo2 (rowOf (nq v T (p + 1)) (bq v T (p + 1))).length dap], .int .i64 0]) ∧ OutF w0 w' bo2 (rowOf (nq v T (p + 1)) (bq v T (p + 1))) dap) := fun w0 hb => jput_c (nq v T p) (v (gt T p)) (cod v (gt T p)) (bq v T p) bo _ cp w0 rfl (wd.keep hb) (HCL.out _ x256) vpos v40 (by omega)
          clear htc cb wd nb CTT
          generalize hM : ((nq v T (p + 1) : Nat) : Int) = M at *
          generalize hys : rowOf (nq v T (p + 1)) (bq v T (p + 1)) = ys at *
          have HM := hide hM
          have HY := hide hys
          generalize (rowOf (nq v T p) (bq v T p)).length = ln at *
          generalize nq v T p = m0 at *
          generalize v (gt T p) = vx at *
          generalize cod v (gt T p) = cx at *
          generalize gt T p = x at *
          clear hM hys
          go_upto_region 16 with fail
          go_cut [11, 12] (fun v11 v12 wx => QP wr M ys v11 v12 wx)
          case first =>
            refine region_g [] (fun w' => Below wr.heap.size wr w') (by kernel_rfl) ?_
            have hS : Below wr.heap.size wr wr.drew := (Below.refl _ _).drew
            generalize wr.drew = Y at *
            refine AnyG.take 0 (v := ?vv1) rfl (by kernel_rfl) (by kernel_rfl) (by kernel_rfl) (by kernel_rfl) (fun _ _ _ h => h) hS ?hy1 (by rfl) ?rest1
            case hy1 =>
              intro w0 h0
              have k0 := (h0.cell (p := ⟨gb, 0, none⟩) hgb2).trans b0
              have k1 := (h0.cell (p := ⟨gb, 1, none⟩) hgb2).trans b1
              have k2 := (h0.cell (p := ⟨tb, tof + p, none⟩) htb2).trans t0
              have k3 := (h0.cell (p := ⟨gc, x * 2, none⟩) hgc2).trans e0
              have k4 := (h0.cell (p := ⟨gc, x * 2 + 1, none⟩) hgc2).trans e1
              go_simp
              try with_reducible rfl
            simp only [Act.put, List.getElem_toArray, List.getElem_cons_zero, List.getElem_cons_succ, List.setIfInBounds_toArray, List.set_cons_zero, List.set_cons_succ]
            refine AnyG.take 1 (v := ?vv2) rfl (by kernel_rfl) (by kernel_rfl) (by kernel_rfl) (by kernel_rfl) (fun _ _ _ h => h) hS ?hy2 (by rfl) ?rest2
            case hy2 =>
              intro w0 h0
              go_simp
              try with_reducible rfl
            simp only [Act.put, List.getElem_toArray, List.getElem_cons_zero, List.getElem_cons_succ, List.setIfInBounds_toArray, List.set_cons_zero, List.set_cons_succ]
            refine AnyG.take 2 (v := ?vv3) rfl (by kernel_rfl) (by kernel_rfl) (by kernel_rfl) (by kernel_rfl) (fun _ _ _ h => h) hS ?hy3 (by rfl) ?rest3
            case hy3 =>
              intro w0 h0
              go_simp
              try with_reducible rfl
            simp only [Act.put, List.getElem_toArray, List.getElem_cons_zero, List.getElem_cons_succ, List.setIfInBounds_toArray, List.set_cons_zero, List.set_cons_succ]
            refine AnyG.take 3 (v := ?vv4) rfl (by kernel_rfl) (by kernel_rfl) (by kernel_rfl) (by kernel_rfl) (fun _ _ _ h => h) hS ?hy4 (by rfl) ?rest4
            case hy4 =>
              intro w0 h0
              go_simp
              try with_reducible rfl
            simp only [Act.put, List.getElem_toArray, List.getElem_cons_zero, List.getElem_cons_succ, List.setIfInBounds_toArray, List.set_cons_zero, List.set_cons_succ]
            refine AnyG.take 4 (v := ?vv5) rfl (by kernel_rfl) (by kernel_rfl) (by kernel_rfl) (by kernel_rfl) (fun _ _ _ h => h) hS ?hy5 (by rfl) ?rest5
            case hy5 =>
              intro w0 h0
              go_simp
              try with_reducible rfl
            simp only [Act.put, List.getElem_toArray, List.getElem_cons_zero, List.getElem_cons_succ, List.setIfInBounds_toArray, List.set_cons_zero, List.set_cons_succ]
            refine AnyG.take 5 (v := ?vv6) rfl (by kernel_rfl) (by kernel_rfl) (by kernel_rfl) (by kernel_rfl) (fun _ _ _ h => h) hS ?hy6 (by rfl) ?rest6
            case hy6 =>
              intro w0 h0
              have k0 := (h0.cell (p := ⟨gb, 0, none⟩) hgb2).trans b0
              have k1 := (h0.cell (p := ⟨gb, 1, none⟩) hgb2).trans b1
              have k2 := (h0.cell (p := ⟨tb, tof + p, none⟩) htb2).trans t0
              have k3 := (h0.cell (p := ⟨gc, x * 2, none⟩) hgc2).trans e0
              have k4 := (h0.cell (p := ⟨gc, x * 2 + 1, none⟩) hgc2).trans e1
              go_simp
              try with_reducible rfl
            simp only [Act.put, List.getElem_toArray, List.getElem_cons_zero, List.getElem_cons_succ, List.setIfInBounds_toArray, List.set_cons_zero, List.set_cons_succ]
            refine AnyG.take 6 (v := ?vv7) rfl (by kernel_rfl) (by kernel_rfl) (by kernel_rfl) (by kernel_rfl) (fun _ _ _ h => h) hS ?hy7 (by rfl) ?rest7
            case hy7 =>
              intro w0 h0
              go_simp
              try with_reducible rfl
            simp only [Act.put, List.getElem_toArray, List.getElem_cons_zero, List.getElem_cons_succ, List.setIfInBounds_toArray, List.set_cons_zero, List.set_cons_succ]
            refine AnyG.take 7 (v := ?vv8) rfl (by kernel_rfl) (by kernel_rfl) (by kernel_rfl) (by kernel_rfl) (fun _ _ _ h => h) hS ?hy8 (by rfl) ?rest8
            case hy8 =>
              intro w0 h0
              have k0 := (h0.cell (p := ⟨gb, 0, none⟩) hgb2).trans b0
              have k1 := (h0.cell (p := ⟨gb, 1, none⟩) hgb2).trans b1
              have k2 := (h0.cell (p := ⟨tb, tof + p, none⟩) htb2).trans t0
              have k3 := (h0.cell (p := ⟨gc, x * 2, none⟩) hgc2).trans e0
              have k4 := (h0.cell (p := ⟨gc, x * 2 + 1, none⟩) hgc2).trans e1
              go_simp
              try with_reducible rfl
            simp only [Act.put, List.getElem_toArray, List.getElem_cons_zero, List.getElem_cons_succ, List.setIfInBounds_toArray, List.set_cons_zero, List.set_cons_succ]
            refine AnyG.two 8 12 (by kernel_rfl) rfl rfl ?_ ?_
            · intro K hK
              go_simp
              refine (CP.out _ hS).mono ?_
              rintro e w1 ⟨bo2, dap, rfl, o1, o2, o3, o4, o5⟩
              refine hK.out _ _ (fun _ => hS.trans (o5.mono hS.size)) ?_
              clear hK K
              try simp only [Act.put, List.getElem_toArray, List.getElem_cons_zero, List.getElem_cons_succ, List.setIfInBounds_toArray, List.set_cons_zero, List.set_cons_succ]
              have hS1 := hS.trans (o5.mono hS.size)
              have hfr : ∀ a, bo2 = some a → wr.heap.size ≤ a.block := fun a ha => Nat.le_trans hS.size (o4 a ha)
              clear hS
              have hS := hS1
              clear hS1 o4 o5
              refine AnyG.take 9 (v := ?vv9) rfl (by kernel_rfl) (by kernel_rfl) (by kernel_rfl) (by kernel_rfl) (fun _ _ _ h => h) hS ?hy9 (by rfl) ?rest9
              case hy9 =>
                intro w0 h0
                go_simp
                try with_reducible rfl
              simp only [Act.put, List.getElem_toArray, List.getElem_cons_zero, List.getElem_cons_succ, List.setIfInBounds_toArray, List.set_cons_zero, List.set_cons_succ]
              refine AnyG.take 10 (v := ?vv10) rfl (by kernel_rfl) (by kernel_rfl) (by kernel_rfl) (by kernel_rfl) (fun _ _ _ h => h) hS ?hy10 (by rfl) ?rest10
              case hy10 =>
                intro w0 h0
                go_simp
                try with_reducible rfl
              simp only [Act.put, List.getElem_toArray, List.getElem_cons_zero, List.getElem_cons_succ, List.setIfInBounds_toArray, List.set_cons_zero, List.set_cons_succ]
              refine AnyG.takeW 11 (v := ?vv11) rfl (by kernel_rfl) (by kernel_rfl) (by kernel_rfl) (fun _ _ _ h => h) ?hy11 (by rfl) ?rest11
              case hy11 =>
                intro w0
                go_simp
                try with_reducible rfl
              simp only [Act.put, List.getElem_toArray, List.getElem_cons_zero, List.getElem_cons_succ, List.setIfInBounds_toArray, List.set_cons_zero, List.set_cons_succ]
              refine AnyG.one 12 (by kernel_rfl) rfl ?_
              intro K hK
              go_simp
              refine hK.out _ _ (fun _ => hS.alloc hS.size _) ?_
              clear hK K
              try simp only [Act.put, List.getElem_toArray, List.getElem_cons_zero, List.getElem_cons_succ, List.setIfInBounds_toArray, List.set_cons_zero, List.set_cons_succ]
              have hgqw : wr.heap.size ≤ w1.heap.size := hS.size
              have C12 : Cel (w1.alloc (.cells #[.int .i64 0, .slice none 0 0] 45)) w1.heap.size [.int .i64 0, .slice none 0 0] 45 := Cel.new _ _ _
              have o1b := o1.keep (below_alloc w1 (.cells #[.int .i64 0, .slice none 0 0] 45))
              have hne : ∀ a, 0 < ys.length → bo2 = some a → a.block ≠ w1.heap.size := fun a h0 ha => by obtain ⟨b3, o3, e3, h3, _⟩ := o1 h0; rw [ha] at e3; cases e3; show b3 ≠ _; omega
              replace hS := hS.alloc hS.size (.cells #[.int .i64 0, .slice none 0 0] 45)
              generalize w1.alloc (.cells #[.int .i64 0, .slice none 0 0] 45) = Y1 at *
              generalize w1.heap.size = gq at *
              refine AnyG.one 13 (by kernel_rfl) rfl ?_
              intro K hK
              have n0 := C12.cell 0 rfl
              have n1 := C12.cell 1 rfl
              have f0 := C12.frozen 0
              have f1 := C12.frozen 1
              go_simp
              have hol : Only gq Y1 ((Y1.setCell ⟨gq, 0, none⟩ (.int .i64 M)).setCell ⟨gq, 1, none⟩ (.slice bo2 ys.length dap)) := ((Only.refl gq Y1).set 0 _).set 1 _
              have hS2 : Below wr.heap.size wr ((Y1.setCell ⟨gq, 0, none⟩ (.int .i64 M)).setCell ⟨gq, 1, none⟩ (.slice bo2 ys.length dap)) := hS.trans (hol.below hgqw)
              refine hK.out _ _ (fun _ => hS2) ?_
              clear hK K n0 n1 f0 f1
              try simp only [Act.put, List.getElem_toArray, List.getElem_cons_zero, List.getElem_cons_succ, List.setIfInBounds_toArray, List.set_cons_zero, List.set_cons_succ]
              have D12 : Cel ((Y1.setCell ⟨gq, 0, none⟩ (.int .i64 M)).setCell ⟨gq, 1, none⟩ (.slice bo2 ys.length dap)) gq [.int .i64 M, .slice bo2 ys.length dap] 45 := (C12.set 0 _).set 1 _
              have X12 := hol.wd o1b hne
              generalize ((Y1.setCell ⟨gq, 0, none⟩ (.int .i64 M)).setCell ⟨gq, 1, none⟩ (.slice bo2 ys.length dap)) = Z at *
              refine AnyG.takeW 14 (v := ?vv12) rfl (by kernel_rfl) (by kernel_rfl) (by kernel_rfl) (fun _ _ _ h => h) ?hy12 (by rfl) ?rest12
              case hy12 =>
                intro w0
                go_simp
                try with_reducible rfl
              simp only [Act.put, List.getElem_toArray, List.getElem_cons_zero, List.getElem_cons_succ, List.setIfInBounds_toArray, List.set_cons_zero, List.set_cons_succ]
              refine AnyG.done (by kernel_rfl) ?_ _
              have HQ : Hid (QP wr M ys (.pointer (some ⟨gq, 0, none⟩)) (.int .i64 0) Z) := ⟨gq, bo2, dap, rfl, rfl, D12, X12, hfr, hgqw, hS2⟩
              clear D12 X12 hS2 hol C12 o1b hS
              go_wp2_with fail
              go_meet
              exact HQ.out
            · intro K hK
              go_simp
              refine hK.out _ _ (fun _ => hS.alloc hS.size _) ?_
              clear hK K
              try simp only [Act.put, List.getElem_toArray, List.getElem_cons_zero, List.getElem_cons_succ, List.setIfInBounds_toArray, List.set_cons_zero, List.set_cons_succ]
              have hgqw : wr.heap.size ≤ Y.heap.size := hS.size
              have C12 : Cel (Y.alloc (.cells #[.int .i64 0, .slice none 0 0] 45)) Y.heap.size [.int .i64 0, .slice none 0 0] 45 := Cel.new _ _ _
              have hYs := hS.size
              replace hS := hS.alloc hS.size (.cells #[.int .i64 0, .slice none 0 0] 45)
              have hq1 : Y.heap.size < (Y.alloc (.cells #[.int .i64 0, .slice none 0 0] 45)).heap.size := by simp
              generalize Y.alloc (.cells #[.int .i64 0, .slice none 0 0] 45) = Y0 at *
              generalize Y.heap.size = gq at *
              refine AnyG.one 8 (by kernel_rfl) rfl ?_
              intro K hK
              go_simp
              refine (CP.out _ hS).mono ?_
              rintro e w1 ⟨bo2, dap, rfl, o1, o2, o3, o4, o5⟩
              refine hK.out _ _ (fun _ => hS.trans (o5.mono hS.size)) ?_
              clear hK K
              try simp only [Act.put, List.getElem_toArray, List.getElem_cons_zero, List.getElem_cons_succ, List.setIfInBounds_toArray, List.set_cons_zero, List.set_cons_succ]
              have hS1 := hS.trans (o5.mono hS.size)
              have hfr : ∀ a, bo2 = some a → wr.heap.size ≤ a.block := fun a ha => Nat.le_trans hS.size (o4 a ha)
              have hne : ∀ a, 0 < ys.length → bo2 = some a → a.block ≠ gq := fun a _ ha => by have := o4 a ha; omega
              replace C12 := C12.kept o5
              have o1b := o1
              clear hS
              have hS := hS1
              clear hS1 o4 o5 hYs hq1
              refine AnyG.take 9 (v := ?vv13) rfl (by kernel_rfl) (by kernel_rfl) (by kernel_rfl) (by kernel_rfl) (fun _ _ _ h => h) hS ?hy13 (by rfl) ?rest13
              case hy13 =>
                intro w0 h0
                go_simp
                try with_reducible rfl
              simp only [Act.put, List.getElem_toArray, List.getElem_cons_zero, List.getElem_cons_succ, List.setIfInBounds_toArray, List.set_cons_zero, List.set_cons_succ]
              refine AnyG.take 10 (v := ?vv14) rfl (by kernel_rfl) (by kernel_rfl) (by kernel_rfl) (by kernel_rfl) (fun _ _ _ h => h) hS ?hy14 (by rfl) ?rest14
              case hy14 =>
                intro w0 h0
                go_simp
                try with_reducible rfl
              simp only [Act.put, List.getElem_toArray, List.getElem_cons_zero, List.getElem_cons_succ, List.setIfInBounds_toArray, List.set_cons_zero, List.set_cons_succ]
              refine AnyG.takeW 11 (v := ?vv15) rfl (by kernel_rfl) (by kernel_rfl) (by kernel_rfl) (fun _ _ _ h => h) ?hy15 (by rfl) ?rest15
              case hy15 =>
                intro w0
                go_simp
                try with_reducible rfl
              simp only [Act.put, List.getElem_toArray, List.getElem_cons_zero, List.getElem_cons_succ, List.setIfInBounds_toArray, List.set_cons_zero, List.set_cons_succ]
              generalize w1 = Y1 at *
              refine AnyG.one 13 (by kernel_rfl) rfl ?_
              intro K hK
              have n0 := C12.cell 0 rfl
              have n1 := C12.cell 1 rfl
              have f0 := C12.frozen 0
              have f1 := C12.frozen 1
              go_simp
              have hol : Only gq Y1 ((Y1.setCell ⟨gq, 0, none⟩ (.int .i64 M)).setCell ⟨gq, 1, none⟩ (.slice bo2 ys.length dap)) := ((Only.refl gq Y1).set 0 _).set 1 _
              have hS2 : Below wr.heap.size wr ((Y1.setCell ⟨gq, 0, none⟩ (.int .i64 M)).setCell ⟨gq, 1, none⟩ (.slice bo2 ys.length dap)) := hS.trans (hol.below hgqw)
              refine hK.out _ _ (fun _ => hS2) ?_
              clear hK K n0 n1 f0 f1
              try simp only [Act.put, List.getElem_toArray, List.getElem_cons_zero, List.getElem_cons_succ, List.setIfInBounds_toArray, List.set_cons_zero, List.set_cons_succ]
              have D12 : Cel ((Y1.setCell ⟨gq, 0, none⟩ (.int .i64 M)).setCell ⟨gq, 1, none⟩ (.slice bo2 ys.length dap)) gq [.int .i64 M, .slice bo2 ys.length dap] 45 := (C12.set 0 _).set 1 _
              have X12 := hol.wd o1b hne
              generalize ((Y1.setCell ⟨gq, 0, none⟩ (.int .i64 M)).setCell ⟨gq, 1, none⟩ (.slice bo2 ys.length dap)) = Z at *
              refine AnyG.takeW 14 (v := ?vv16) rfl (by kernel_rfl) (by kernel_rfl) (by kernel_rfl) (fun _ _ _ h => h) ?hy16 (by rfl) ?rest16
              case hy16 =>
                intro w0
                go_simp
                try with_reducible rfl
              simp only [Act.put, List.getElem_toArray, List.getElem_cons_zero, List.getElem_cons_succ, List.setIfInBounds_toArray, List.set_cons_zero, List.set_cons_succ]
              refine AnyG.done (by kernel_rfl) ?_ _
              have HQ : Hid (QP wr M ys (.pointer (some ⟨gq, 0, none⟩)) (.int .i64 0) Z) := ⟨gq, bo2, dap, rfl, rfl, D12, X12, hfr, hgqw, hS2⟩
              clear D12 X12 hS2 hol C12 o1b hS
              go_wp2_with fail
              go_meet
              exact HQ.out
          case rest =>
            obtain ⟨gq, bo2, dap, rfl, rfl, dq, wq, hfr, hgqw, hbq⟩ := hcut
            have q0 := dq.cell 0 rfl
            have q1 := dq.cell 1 rfl
            have cb2 := HCB.out.kept hbq
            have HQW := hide wq
            have HBQ := hide hbq
            clear b0 b1 e0 e1 t0 CP dq wq hbq
            go_wp2_with (refine store_cel gb _ [.int .i64 M, .slice bo2 ys.length dap] rfl rfl cb2 rfl (by kernel_rfl) (one2 rfl rfl) ?_)
            intro w6 hc6 ho6
            have HK6 : Hid (BK w w6 gA gl gc gb T q v (p + 1)) := by
              have k := HK.out
              refine ⟨ho6.cel (k.cA.kept HBQ.out) (by omega), ho6.cel (k.cl.kept HBQ.out) (by omega), ho6.cel (k.cc.kept HBQ.out) (by omega), ⟨bo2, dap, ?_, ?_, ?_⟩, hlt, ?_⟩
              · rw [HM.out, HY.out]; exact hc6
              · rw [HY.out]; exact ho6.wd HQW.out (fun a _ ha => by have := hfr a ha; omega)
              · intro a _ ha; have := hfr a ha; omega
              · exact (k.bw.trans (HBQ.out.mono k.bw.size)).trans (ho6.below hlt.1)
            clear hc6 ho6 HK HBQ HQW HCB q0 q1 cb2
            go_wp2
            exact ⟨⟨p + 1, by omega, by go_num, HK6⟩, by simp only [intOf]; omega⟩
        · obtain rfl : p = q := by omega
          go_wp2
          go_loopw [13, 14] (fun va vi w7 => ∃ i : Nat, i ≤ p ∧ vi = .int .i64 i ∧ va = .int .i64 (nq v T i : Nat) ∧ Hid (BK w w7 gA gl gc gb T p v p)) (fun _ vi _ => p - (intOf vi).toNat)
          case atStart => exact ⟨0, Nat.zero_le _, rfl, rfl, HK⟩
          case round =>
            clear HK
            obtain ⟨i, hip, rfl, rfl, HK⟩ := hrel
            obtain ⟨bo, cp, cb, wd, nb⟩ := HK.out.cb
            have b0 := cb.cell 0 rfl
            have b1 := cb.cell 1 rfl
            by_cases hi2 : i < p
            · have hiz : (i : Int) < (p : Int) := by omega
              obtain ⟨tb, tof, rfl, htb, htc⟩ := HT.out (by omega)
              have x256 := HF.out i hi2
              have vpos := HPO.out i hi2
              have hnp := HNL.out p (Nat.le_refl _)
              have hni := HNL.out (i + 1) (by omega)
              have hmo := nq_mono v T (show i + 1 ≤ p by omega)
              have CN : Hid (Calls Try.prog 18 #[.slice (some ⟨gc, 0, none⟩) 256 256, .agg #[.int .i64 (nq v T p : Nat), .slice bo (rowOf (nq v T p) (bq v T p)).length cp], .int .i64 (nq v T i : Nat)] wr fun e w' => e = .returned (.tuple #[.int .i64 (gt T i : Nat), .int .i64 ((nq v T (i + 1) : Nat) : Int), .int .i64 0]) ∧ Below wr.heap.size wr w') := jnext_c gc 256 v (nq v T p) (nq v T i) (gt T i) (bq v T p) bo _ cp wr HK.out.cc HV.out wd rfl (by omega) x256 vpos hmo (fun k hk => by rw [bq_at v T i p k hi2 hk, cod_pos vpos])
              have HT0 : Hid (∀ w0, Below w.heap.size w w0 → w0.cell? ⟨tb, tof + i, none⟩ = some (.int .u8 (gt T i))) := fun w0 hb => (hb.cell (p := ⟨tb, tof + i, none⟩) htb).trans (htc i hi2)
              clear htc cb wd nb hmo
              generalize hm1 : nq v T (i + 1) = m1 at *
              have HM1 : Hid (m1 = nq v T (i + 1)) := hm1.symm
              clear hm1
              generalize hmi : nq v T i = mi at *
              generalize hmp : nq v T p = mp at *
              generalize (rowOf mp (bq v T p)).length = ln at *
              generalize gt T i = x at *
              go_wp2_with fail
              refine (CN.out).mono ?_
              rintro e w8 ⟨rfl, hb8⟩
              have HK8 : Hid (BK w w8 gA gl gc gb T p v p) := by
                have k := HK.out
                obtain ⟨bo3, cp3, cb3, wd3, nb3⟩ := k.cb
                exact ⟨k.cA.kept hb8, k.cl.kept hb8, k.cc.kept hb8, ⟨bo3, cp3, cb3.kept hb8, wd3.keep hb8, nb3⟩, k.lt, k.bw.trans (hb8.mono k.bw.size)⟩
              have t0 := HT0.out w8 HK8.out.bw
              clear hb8 HK b0 b1 CN HT0
              go_wp2
              exact ⟨⟨i + 1, by omega, by go_num, by rw [HM1.out], HK8⟩, by simp only [intOf]; omega⟩
            · obtain rfl : i = p := by omega
              have hgb2 : gb < wr.heap.size := cb.lt
              have HB := hide HK.out.bw
              have CT : Hid (∀ w0, Below wr.heap.size wr w0 → Calls Try.prog 15 #[.slice (some ⟨gA, 0, none⟩) 256 256, .slice (some ⟨gl, 0, none⟩) 256 256] w0 fun e w' => e = .returned (.int .i64 (nq v T i : Nat)) ∧ Below w0.heap.size w0 w') := fun w0 hb => CTT.out gA gl w0 (HK.out.cA.kept hb) (HK.out.cl.kept hb)
              clear cb wd nb HK CTT
              generalize (rowOf (nq v T i) (bq v T i)).length = ln at *
              generalize nq v T i = mi at *
              go_wp2
              refine region_g [] (fun w' => Below wr.heap.size wr w') (by kernel_rfl) ?_
              have hS : Below wr.heap.size wr wr.drew := (Below.refl _ _).drew
              generalize wr.drew = Y at *
              refine AnyG.take 0 (v := ?vv17) rfl (by kernel_rfl) (by kernel_rfl) (by kernel_rfl) (by kernel_rfl) (fun _ _ _ h => h) hS ?hy17 (by rfl) ?rest17
              case hy17 =>
                intro w0 h0
                go_simp
                try with_reducible rfl
              simp only [Act.put, List.getElem_toArray, List.getElem_cons_zero, List.getElem_cons_succ, List.setIfInBounds_toArray, List.set_cons_zero, List.set_cons_succ]
              refine AnyG.take 1 (v := ?vv18) rfl (by kernel_rfl) (by kernel_rfl) (by kernel_rfl) (by kernel_rfl) (fun _ _ _ h => h) hS ?hy18 (by rfl) ?rest18
              case hy18 =>
                intro w0 h0
                go_simp
                try with_reducible rfl
              simp only [Act.put, List.getElem_toArray, List.getElem_cons_zero, List.getElem_cons_succ, List.setIfInBounds_toArray, List.set_cons_zero, List.set_cons_succ]
              refine AnyG.take 2 (v := ?vv19) rfl (by kernel_rfl) (by kernel_rfl) (by kernel_rfl) (by kernel_rfl) (fun _ _ _ h => h) hS ?hy19 (by rfl) ?rest19
              case hy19 =>
                intro w0 h0
                have k0 := (h0.cell (p := ⟨gb, 0, none⟩) hgb2).trans b0
                go_simp
                try with_reducible rfl
              simp only [Act.put, List.getElem_toArray, List.getElem_cons_zero, List.getElem_cons_succ, List.setIfInBounds_toArray, List.set_cons_zero, List.set_cons_succ]
              refine AnyG.take 3 (v := ?vv20) rfl (by kernel_rfl) (by kernel_rfl) (by kernel_rfl) (by kernel_rfl) (fun _ _ _ h => h) hS ?hy20 (by rfl) ?rest20
              case hy20 =>
                intro w0 h0
                go_simp
                try with_reducible rfl
              simp only [Act.put, List.getElem_toArray, List.getElem_cons_zero, List.getElem_cons_succ, List.setIfInBounds_toArray, List.set_cons_zero, List.set_cons_succ]
              refine AnyG.take 4 (v := ?vv21) rfl (by kernel_rfl) (by kernel_rfl) (by kernel_rfl) (by kernel_rfl) (fun _ _ _ h => h) hS ?hy21 (by rfl) ?rest21
              case hy21 =>
                intro w0 h0
                go_simp
                try with_reducible rfl
              simp only [Act.put, List.getElem_toArray, List.getElem_cons_zero, List.getElem_cons_succ, List.setIfInBounds_toArray, List.set_cons_zero, List.set_cons_succ]
              refine AnyG.take 5 (v := ?vv22) rfl (by kernel_rfl) (by kernel_rfl) (by kernel_rfl) (by kernel_rfl) (fun _ _ _ h => h) hS ?hy22 (by rfl) ?rest22
              case hy22 =>
                intro w0 h0
                go_simp
                try with_reducible rfl
              simp only [Act.put, List.getElem_toArray, List.getElem_cons_zero, List.getElem_cons_succ, List.setIfInBounds_toArray, List.set_cons_zero, List.set_cons_succ]
              refine AnyG.take 6 (v := ?vv23) rfl (by kernel_rfl) (by kernel_rfl) (by kernel_rfl) (by kernel_rfl) (fun _ _ _ h => h) hS ?hy23 (by rfl) ?rest23
              case hy23 =>
                intro w0 h0
                have k0 := (h0.cell (p := ⟨gb, 0, none⟩) hgb2).trans b0
                go_simp
                try with_reducible rfl
              simp only [Act.put, List.getElem_toArray, List.getElem_cons_zero, List.getElem_cons_succ, List.setIfInBounds_toArray, List.set_cons_zero, List.set_cons_succ]
              refine AnyG.take 7 (v := ?vv24) rfl (by kernel_rfl) (by kernel_rfl) (by kernel_rfl) (by kernel_rfl) (fun _ _ _ h => h) hS ?hy24 (by rfl) ?rest24
              case hy24 =>
                intro w0 h0
                go_simp
                try with_reducible rfl
              simp only [Act.put, List.getElem_toArray, List.getElem_cons_zero, List.getElem_cons_succ, List.setIfInBounds_toArray, List.set_cons_zero, List.set_cons_succ]
              refine AnyG.take 8 (v := ?vv25) rfl (by kernel_rfl) (by kernel_rfl) (by kernel_rfl) (by kernel_rfl) (fun _ _ _ h => h) hS ?hy25 (by rfl) ?rest25
              case hy25 =>
                intro w0 h0
                go_simp
                try with_reducible rfl
              simp only [Act.put, List.getElem_toArray, List.getElem_cons_zero, List.getElem_cons_succ, List.setIfInBounds_toArray, List.set_cons_zero, List.set_cons_succ]
              refine AnyG.one 9 (by kernel_rfl) rfl ?_
              intro K hK
              go_simp
              refine (CT.out _ hS).mono ?_
              rintro e w5 ⟨rfl, hb5⟩
              refine hK.out _ _ (fun _ => hS.trans (hb5.mono hS.size)) ?_
              clear hK K
              try simp only [Act.put, List.getElem_toArray, List.getElem_cons_zero, List.getElem_cons_succ, List.setIfInBounds_toArray, List.set_cons_zero, List.set_cons_succ]
              replace hS := hS.trans (hb5.mono hS.size)
              refine AnyG.take 10 (v := ?vv26) rfl (by kernel_rfl) (by kernel_rfl) (by kernel_rfl) (by kernel_rfl) (fun _ _ _ h => h) hS ?hy26 (by rfl) ?rest26
              case hy26 =>
                intro w0 h0
                go_simp
                try with_reducible rfl
              simp only [Act.put, List.getElem_toArray, List.getElem_cons_zero, List.getElem_cons_succ, List.setIfInBounds_toArray, List.set_cons_zero, List.set_cons_succ]
              refine AnyG.take 11 (v := ?vv27) rfl (by kernel_rfl) (by kernel_rfl) (by kernel_rfl) (by kernel_rfl) (fun _ _ _ h => h) hS ?hy27 (by rfl) ?rest27
              case hy27 =>
                intro w0 h0
                go_simp
                try with_reducible rfl
              simp only [Act.put, List.getElem_toArray, List.getElem_cons_zero, List.getElem_cons_succ, List.setIfInBounds_toArray, List.set_cons_zero, List.set_cons_succ]
              refine AnyG.take 12 (v := ?vv28) rfl (by kernel_rfl) (by kernel_rfl) (by kernel_rfl) (by kernel_rfl) (fun _ _ _ h => h) hS ?hy28 (by rfl) ?rest28
              case hy28 =>
                intro w0 h0
                go_simp
                try with_reducible rfl
              simp only [Act.put, List.getElem_toArray, List.getElem_cons_zero, List.getElem_cons_succ, List.setIfInBounds_toArray, List.set_cons_zero, List.set_cons_succ]
              refine AnyG.one 13 (by kernel_rfl) rfl ?_
              intro K hK
              go_simp
              refine (jheads_c _).mono ?_
              rintro e w6 ⟨rfl, hb6⟩
              refine hK.out _ _ (fun _ => hS.trans (hb6.mono hS.size)) ?_
              clear hK K
              try simp only [Act.put, List.getElem_toArray, List.getElem_cons_zero, List.getElem_cons_succ, List.setIfInBounds_toArray, List.set_cons_zero, List.set_cons_succ]
              replace hS := hS.trans (hb6.mono hS.size)
              refine AnyG.takeW 14 (v := ?vv29) rfl (by kernel_rfl) (by kernel_rfl) (by kernel_rfl) (fun _ _ _ h => h) ?hy29 (by rfl) ?rest29
              case hy29 =>
                intro w0
                go_simp
                try with_reducible rfl
              simp only [Act.put, List.getElem_toArray, List.getElem_cons_zero, List.getElem_cons_succ, List.setIfInBounds_toArray, List.set_cons_zero, List.set_cons_succ]
              refine AnyG.takeW 15 (v := ?vv30) rfl (by kernel_rfl) (by kernel_rfl) (by kernel_rfl) (fun _ _ _ h => h) ?hy30 (by rfl) ?rest30
              case hy30 =>
                intro w0
                go_simp
                try with_reducible rfl
              simp only [Act.put, List.getElem_toArray, List.getElem_cons_zero, List.getElem_cons_succ, List.setIfInBounds_toArray, List.set_cons_zero, List.set_cons_succ]
              refine AnyG.done (by kernel_rfl) ?_ _
              go_wp2
              go_ret
              exact ⟨rfl, HB.out.trans (hS.mono HB.out.size)⟩

theorem lifted (os : Os) (started : os.Started) (H : Type) (enc : TypeId × Value → H) :
    ReturnsInHanded {} Try.checked os 6 .any (Rows.huffBackSpec.pre6 enc Try.prog Try.f6 Rows.huffBackRow.domain false) (Rows.huffBackSpec.post enc Try.prog Try.f6 false true false false) := by
  refine returnsInHanded_of_change (C := Try.checked) own started (by kernel_rfl) Try.func6
    (ChangeSpec.witness6 (enc := enc) (C := Try.checked) false ⟨#[], #[.slice none 0 0], []⟩ 8 (by kernel_rfl) (by kernel_rfl) (by kernel_rfl) (by kernel_rfl)) ?_
  intro W base args ds gs before hval0 hW hcnd _
  have hval : ∀ (j : Nat) t v, Try.f6.params[j]? = some t → args[j]? = some v → Value.okWide Try.prog W .any base t v := hval0
  have hW' := hW
  obtain ⟨p, q, hA0, hV, rfl, hfz, hnd⟩ := hW
  have hA : DataW.TrodAll enc Try.prog W 0 (fun _ => true) true Try.f6.params.toList args.toList ds p := hA0
  rw [Try.params6] at hA hval
  obtain ⟨v0, vs0, d0, ds0, p0, q0, hargs, rfl, rfl, h0, r0⟩ := trodAll_cons hA
  obtain ⟨rfl, rfl, rfl⟩ := trodAll_nil r0
  obtain rfl : args = #[v0] := by cases args; simp_all
  obtain ⟨rfl, rfl⟩ := trodVars_none hV
  have k0 := h0
  have lt0 : ∀ x ∈ p0, x.block < W.heap.size := by obtain ⟨m, hm⟩ := k0; exact DataW.trod_lt m _ _ _ hm
  obtain ⟨aT, T, cT, rfl, bT1, bT2, bT3⟩ := open_bytes (hval 0 42 v0 rfl rfl) h0
  clear hA0 hval0
  refine (walk W aT T cT bT1 bT2).mono fun e W' ⟨he, bel⟩ => ?_
  subst he
  exact ⟨_, rfl, _, _, _, [], _, [], hW', trodAll_mk1 (shut_bool Try.underlying4 _), (trodAll_cons_mk (Below.trod laidOut (by kernel_rfl) (of_decide_eq_true (by kernel_rfl)) k0 bel lt0) trodAll_mk0), rfl, bel.frame _, fun h => by cases h⟩

theorem over : Rows.huffBackRow.holds Try.pinned (OpenSpec.ofChange Rows.huffBackSpec) :=
  OpenClaim.holds_of_wide 6 Try.f6 rfl rfl rfl rfl rfl rfl rfl ⟨rfl, rfl, rfl, rfl, rfl⟩ rfl rfl rfl rfl rfl (by kernel_rfl) Try.func6 (by kernel_rfl)
    (of_decide_eq_true (by kernel_rfl)) (by unfold Func.isWrapper; first | (rw [if_pos (by decide +kernel)]; kernel_rfl) | (rw [if_neg (by decide +kernel)]; exact ⟨rfl, rfl⟩))
    (fun os started H enc _ => lifted os started H enc)

theorem proved : Rows.HuffBackSaid := over
end Go.Proofs.Ytcjhiolginpgoaa.huffBack
namespace Go.Proofs.Ytcjhiolginpgoaa
theorem huffBack_holds : Rows.HuffBackSaid := huffBack.proved
#print axioms huffBack_holds
end Go.Proofs.Ytcjhiolginpgoaa
