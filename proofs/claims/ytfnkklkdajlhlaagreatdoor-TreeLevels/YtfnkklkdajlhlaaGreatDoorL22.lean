/-
  Slices of structs of two cells; the contract of the program's parted. The contract of the program's marked. The contracts of the program's classesOf and offsetsOf.
-/
import Derived.Test.YtfnkklkdajlhlaaGreatDoorL21
import Derived.Test.YtfnkklkdajlhlaaGreatDoorL03
set_option linter.unusedVariables false
set_option linter.unusedSimpArgs false
set_option maxRecDepth 100000
set_option maxHeartbeats 16000000
namespace Go.Proofs.YtfnkklkdajlhlaaGreatDoor
open Go.RowKit Num Bit Bn
def blP (n : Nat) (c o : Nat → Nat) (q : Nat) : List Value := bl2 n (fun i => .int .i64 ((if i < q then c i else 0 : Nat) : Int)) (fun i => .int .u64 ((if i < q then o i else 0 : Nat) : Int))
theorem blP_zero (n : Nat) (c o : Nat → Nat) : blP n c o 0 = bl2 n (fun _ => .int .i64 0) (fun _ => .int .u64 0) := by unfold blP; simp
theorem blP_step (n : Nat) (c o : Nat → Nat) (q : Nat) (h : q < n) : ((blP n c o q).set (q * 2) (.int .i64 (c q : Nat))).set (q * 2 + 1) (.int .u64 (o q : Nat)) = blP n c o (q + 1) := by
 have e := bl2_set n (fun i => .int .i64 ((if i < q then c i else 0 : Nat) : Int)) (fun i => .int .u64 ((if i < q then o i else 0 : Nat) : Int)) (fun i => .int .i64 ((if i < q + 1 then c i else 0 : Nat) : Int)) (fun i => .int .u64 ((if i < q + 1 then o i else 0 : Nat) : Int)) q h
  (fun j hj => by by_cases d : j < q <;> simp [d, show (j < q + 1 ↔ j < q) by omega]) (fun j hj => by by_cases d : j < q <;> simp [d, show (j < q + 1 ↔ j < q) by omega])
 rw [if_pos (show q < q + 1 by omega), if_pos (show q < q + 1 by omega)] at e
 exact e
theorem slc_blv (m : Nat) (X : List Nat) (hk : chk (m : Int) X = true) (i : Nat) (hi : i < nb m) : slcE (m : Int) X ((15 * i : Nat) : Int) ((min 15 (m - 15 * i) : Nat) : Int) = 0 ∧ slcX (m : Int) X ((15 * i : Nat) : Int) ((min 15 (m - 15 * i) : Nat) : Int) = blv m (bitAt X) i := by
 have e : slcE (m : Int) X ((15 * i : Nat) : Int) ((min 15 (m - 15 * i) : Nat) : Int) = 0 := by
  unfold slcE
  unfold nb at hi
  rw [if_neg (by rw [hk]; simp; omega), if_neg (by omega)]
 refine ⟨e, ?_⟩
 unfold slcX
 rw [if_pos e, Int.toNat_natCast, Int.toNat_natCast]
 unfold blv
 refine (eq_numOf _ _ _ fun t => ?_).symm
 rw [testBit_numOf]
 by_cases c : t < min 15 (m - 15 * i)
 ·simp [c, show t < 15 by omega, show 15 * i + t < m by omega]
 ·by_cases d : t < 15
  ·simp [c, show ¬ 15 * i + t < m by omega]
  ·simp [c, d]
theorem qparted_c (m : Nat) (ao : Option Addr) (X : List Nat) (cap : Nat) (w : World) (hm : m ≤ 1048576) (hx : Wd w ao X) (hf : Fit X) (hk : chk (m : Int) X = true) :
  Calls Tryz.prog 97 #[.agg #[.int .i64 m, .slice ao X.length cap]] w fun e w' => ∃ g, e = .returned (.slice (some ⟨g, 0, none⟩) (nb m) (nb m)) ∧ Cel w' g (blP (nb m) (bcl m (bitAt X)) (bof m (bitAt X)) (nb m)) 165 ∧ w.heap.size ≤ g ∧ Below w.heap.size w w' := by
 obtain ⟨i0, hi, hz0, hz1, hz2⟩ := info_parts (show (Tryz.prog.info? 165).map (fun i => (i.zero, i.size, i.bytes)) = some (some (.agg #[.int .i64 0, .int .u64 0]), 2, 16) by kernel_rfl)
 have nbl := nb_le m hm
 have HN : Hid (∀ w0, Calls Tryz.prog 154 #[.int .i64 (m : Int)] w0 fun e w' => e = .returned (.int .i64 (nb m : Nat)) ∧ w' = w0) := fun w0 => qblocks_c m hm w0
 obtain ⟨W, hW⟩ : ∃ W, W = w.alloc (.cells #[.int .i64 (m : Nat), .slice ao X.length cap] 33) := ⟨_, rfl⟩
 have bW := yb1 hW
 have zW : W.heap.size = w.heap.size + 1 := by rw [hW]; simp
 have B1 := yc1 hW
 have HSl : Hid (∀ (i : Nat) w0, i < nb m → Below w.heap.size w w0 → Calls Tryz.prog 155 #[.agg #[.int .i64 (m : Int), .slice ao X.length cap], .int .i64 ((15 * i : Nat) : Int), .int .i64 ((min 15 (m - 15 * i) : Nat) : Int)] w0 fun e w' => e = .returned (.tuple #[.int .u64 (blv m (bitAt X) i : Nat), .int .i64 0]) ∧ Below w0.heap.size w0 w') := by
  intro i w0 hi hb
  have := slice_c (m : Int) ao X cap ((15 * i : Nat) : Int) ((min 15 (m - 15 * i) : Nat) : Int) w0 (hx.keep hb) hf (by omega) (by omega) (by omega) (by omega)
  obtain ⟨e1, e2⟩ := slc_blv m X hk i hi
  rw [e1, e2] at this
  exact this
 have HBo : Hid (∀ (i : Nat) w0, Calls Tryz.prog 156 #[.int .u64 (blv m (bitAt X) i : Nat)] w0 fun e w' => e = .returned (.agg #[.int .i64 (bcl m (bitAt X) i : Nat), .int .u64 (bof m (bitAt X) i : Nat)]) ∧ Below w0.heap.size w0 w') := fun i w0 => qblockOf_c _ (blv_lt64 _ _ _) w0
 have ST : Hid (∀ q, q < nb m → ((blP (nb m) (bcl m (bitAt X)) (bof m (bitAt X)) q).set (q * 2) (.int .i64 (bcl m (bitAt X) q : Nat))).set (q * 2 + 1) (.int .u64 (bof m (bitAt X) q : Nat)) = blP (nb m) (bcl m (bitAt X)) (bof m (bitAt X)) (q + 1)) := fun q hq => blP_step _ _ _ q hq
 have HNB : Hid (∀ q, q < nb m → 15 * q < m) := fun q hq => by unfold nb at hq; omega
 have HZ : Hid (∀ c o, bl2 (nb m) (fun _ => .int .i64 0) (fun _ => .int .u64 0) = blP (nb m) c o 0) := fun c o => (blP_zero _ c o).symm
 clear hx hf hk
 generalize nb m = n at *
 go_enter Tryz.func97, Tryz.ntmps97
 go_wp2_with fail
 rw [← hW]
 refine (HN.out _).mono ?_
 rintro e w1 ⟨rfl, rfl⟩
 clear HN hW
 go_wp2_with (at_make; refine wpList_make_full _ rfl _ _ 145 rfl w1.heap.size 165 i0 (.agg #[.int .i64 0, .int .u64 0]) 2 Tryz.underlying145 hi hz0 hz1 .i64 .i64 _ _ n rfl rfl rfl rfl ?b2 ?b3 ?b4 ?_)
 case b2 => rw [hz2]; omega
 case b3 => unfold maxLen; omega
 case b4 => simp
 intro w2 hown hgr
 have B2 := cel_made hown
 have hb2 : Below w1.heap.size w1 w2 := (Below.refl _ _).grown hgr (Nat.le_refl _) (fun k h => by cases h)
 have bw2 := bW.trans (hb2.mono bW.size)
 replace B1 := B1.kept hb2
 rw [HZ.out (bcl m (bitAt X)) (bof m (bitAt X))] at B2
 clear hown hgr hb2 hi hz0 hz1 hz2 HZ
 go_wp2
 go_loopw [13] (fun s wr => ∃ q : Nat, q ≤ n ∧ s = .int .i64 q ∧ Cel wr w.heap.size [.int .i64 (m : Nat), .slice ao X.length cap] 33 ∧ Cel wr (w.heap.size + 1) (blP n (bcl m (bitAt X)) (bof m (bitAt X)) q) 165 ∧ Below w.heap.size w wr) (fun s _ => n - (intOf s).toNat)
 case atStart => exact ⟨0, Nat.zero_le _, rfl, B1, B2, bw2⟩
 case round =>
  obtain ⟨q, hq, rfl, B1, B2, hb⟩ := hrel
  by_cases hqn : q < n
  ·have hqn2 : (q : Int) < (n : Int) := by omega
   have hqm := HNB.out q hqn
   have hqm2 : 15 * (q : Int) ≤ (m : Int) := by omega
   have q0 := B1.cell 0 rfl
   have q1 := B1.cell 1 rfl
   have HSx : Hid (∀ x y : Int, x = ((15 * q : Nat) : Int) → y = ((min 15 (m - 15 * q) : Nat) : Int) → Calls Tryz.prog 155 #[.agg #[.int .i64 (m : Int), .slice ao X.length cap], .int .i64 x, .int .i64 y] wr fun e w' => e = .returned (.tuple #[.int .u64 (blv m (bitAt X) q : Nat), .int .i64 0]) ∧ Below wr.heap.size wr w') := by
    intro x y hx hy
    rw [hx, hy]
    exact HSl.out q wr hqn hb
   have HBq := HBo.out q
   have HB : Hid (∀ w0, Calls Tryz.prog 156 #[.int .u64 (blv m (bitAt X) q : Nat)] w0 fun e w' => e = .returned (.agg #[.int .i64 (bcl m (bitAt X) q : Nat), .int .u64 (bof m (bitAt X) q : Nat)]) ∧ Below w0.heap.size w0 w') := HBq
   have ST2 := hide (ST.out q hqn)
   have e0 : (blP n (bcl m (bitAt X)) (bof m (bitAt X)) q)[q * 2]? = some (.int .i64 0) := by
    unfold blP
    rw [bl2_fst _ _ _ _ hqn, if_neg (by omega)]
    rfl
   have e1 : (blP n (bcl m (bitAt X)) (bof m (bitAt X)) q)[q * 2 + 1]? = some (.int .u64 0) := by
    unfold blP
    rw [bl2_snd _ _ _ _ hqn, if_neg (by omega)]
    rfl
   clear HBq HSl ST
   generalize bcl m (bitAt X) q = cq at *
   generalize bof m (bitAt X) q = oq at *
   generalize blv m (bitAt X) q = bq at *
   go_wp2_with fail
   all_goals
    refine (HSx.out _ _ (by omega) (by omega)).mono ?_
    rintro e w3 ⟨rfl, hb3⟩
    have bw3 := hb.trans (hb3.mono hb.size)
    replace B1 := B1.kept hb3
    replace B2 := B2.kept hb3
    clear hb3 hb q0 q1 HSx
    go_wp2_with fail
    refine (HB.out _).mono ?_
    rintro e w4 ⟨rfl, hb4⟩
    have bw4 := bw3.trans (hb4.mono bw3.size)
    replace B1 := B1.kept hb4
    replace B2 := B2.kept hb4
    have n0 := B2.cell (q * 2) e0
    have n1 := B2.cell (q * 2 + 1) e1
    have f0 := B2.frozen (q * 2)
    have f1 := B2.frozen (q * 2 + 1)
    clear hb4 bw3 HB
    go_wp2
    have C2 := (B2.set (q * 2) (.int .i64 (cq : Nat))).set (q * 2 + 1) (.int .u64 (oq : Nat))
    rw [ST2.out] at C2
    exact ⟨⟨q + 1, by omega, by go_num, (B1.other (by show w.heap.size ≠ w.heap.size + 1; omega) _).other (by show w.heap.size ≠ w.heap.size + 1; omega) _, C2, (bw4.setCell (by show w.heap.size ≤ w.heap.size + 1; omega) _).setCell (by show w.heap.size ≤ w.heap.size + 1; omega) _⟩, by simp only [intOf]; omega⟩
  ·obtain rfl : q = n := by omega
   go_wp2
   go_ret
   exact ⟨w.heap.size + 1, rfl, B2, by omega, hb⟩
theorem blP_fst (n : Nat) (c o : Nat → Nat) (i : Nat) (h : i < n) : (blP n c o n)[i * 2]? = some (.int .i64 (c i : Nat)) := by
 unfold blP
 rw [bl2_fst _ _ _ _ h, if_pos h]
theorem blP_snd (n : Nat) (c o : Nat → Nat) (i : Nat) (h : i < n) : (blP n c o n)[i * 2 + 1]? = some (.int .u64 (o i : Nat)) := by
 unfold blP
 rw [bl2_snd _ _ _ _ h, if_pos h]
def mkP (G : Nat) (s p : Nat → Nat) (q : Nat) : List Value := bl2 G (fun j => .int .i64 ((if 8 * j < q then s (8 * j) else 0 : Nat) : Int)) (fun j => .int .i64 ((if 8 * j < q then p (8 * j) else 0 : Nat) : Int))
theorem mkP_zero (G : Nat) (s p : Nat → Nat) : mkP G s p 0 = bl2 G (fun _ => .int .i64 0) (fun _ => .int .i64 0) := by unfold mkP; simp
theorem bl2_congr (n : Nat) (a b a' b' : Nat → Value) (ha : ∀ j, j < n → a' j = a j) (hb : ∀ j, j < n → b' j = b j) : bl2 n a b = bl2 n a' b' := by
 unfold bl2
 refine List.map_congr_left fun j hj => ?_
 have := List.mem_range.1 hj
 rw [ha (j / 2) (by omega), hb (j / 2) (by omega)]
theorem mkP_skip (G : Nat) (s p : Nat → Nat) (q : Nat) (h : q % 8 ≠ 0) : mkP G s p q = mkP G s p (q + 1) := by
 unfold mkP
 refine bl2_congr _ _ _ _ _ (fun j _ => ?_) (fun j _ => ?_)
 ·by_cases d : 8 * j < q <;> simp [d, show (8 * j < q + 1 ↔ 8 * j < q) by omega]
 ·by_cases d : 8 * j < q <;> simp [d, show (8 * j < q + 1 ↔ 8 * j < q) by omega]
theorem mkP_step (G : Nat) (s p : Nat → Nat) (q : Nat) (h : q % 8 = 0) (hG : q / 8 < G) : ((mkP G s p q).set (q / 8 * 2) (.int .i64 (s q : Nat))).set (q / 8 * 2 + 1) (.int .i64 (p q : Nat)) = mkP G s p (q + 1) := by
 have e := bl2_set G (fun j => .int .i64 ((if 8 * j < q then s (8 * j) else 0 : Nat) : Int)) (fun j => .int .i64 ((if 8 * j < q then p (8 * j) else 0 : Nat) : Int)) (fun j => .int .i64 ((if 8 * j < q + 1 then s (8 * j) else 0 : Nat) : Int)) (fun j => .int .i64 ((if 8 * j < q + 1 then p (8 * j) else 0 : Nat) : Int)) (q / 8) hG
  (fun j hj => by by_cases d : 8 * j < q <;> simp [d, show (8 * j < q + 1 ↔ 8 * j < q) by omega]) (fun j hj => by by_cases d : 8 * j < q <;> simp [d, show (8 * j < q + 1 ↔ 8 * j < q) by omega])
 rw [show 8 * (q / 8) = q by omega, if_pos (show q < q + 1 by omega), if_pos (show q < q + 1 by omega)] at e
 exact e
theorem mkP_fst (G : Nat) (s p : Nat → Nat) (q i : Nat) (h : i < G) : (mkP G s p q)[i * 2]? = some (.int .i64 ((if 8 * i < q then s (8 * i) else 0 : Nat) : Int)) := by unfold mkP; rw [bl2_fst _ _ _ _ h]
theorem mkP_snd (G : Nat) (s p : Nat → Nat) (q i : Nat) (h : i < G) : (mkP G s p q)[i * 2 + 1]? = some (.int .i64 ((if 8 * i < q then p (8 * i) else 0 : Nat) : Int)) := by unfold mkP; rw [bl2_snd _ _ _ _ h]
theorem result_tc {fn : Func} {p u : Tmp} {T : TypeId} {w : World} {tmps : Array Value} (h : fn.results = #[.tmp u, .cell p T]) (g : Nat) (cs : List Value) {fs : Array Field} (hp : tmps.getD p undef = .pointer (some ⟨g, 0, none⟩)) (hc : Cel w g cs T) (hu : Tryz.prog.underlying T = some (.struct fs)) (hi : (Tryz.prog.info? T).map (·.size) = some cs.length) :
  (results fn tmps).run Tryz.prog w = .ok (.tuple #[tmps.getD u undef, .agg cs.toArray]) w := by
 have hp' : tmps[p]?.getD undef = .pointer (some ⟨g, 0, none⟩) := by simpa using hp
 have hl := run_loadVar_row (P := Tryz.prog) w g T T cs.toArray (0, 0) _ hc hu rfl (by simpa using hi)
 simp [results, h, hp', asAddr, hl]
theorem qmarked_c (n G gl : Nat) (c o s p : Nat → Nat) (w : World) (hn : n ≤ 69906) (hG : G = (max 1 n + 7) / 8) (hl : Cel w gl (blP n c o n) 165) (hc : ∀ i, i < n → c i ≤ 15) (s0 : s 0 = 0) (p0 : p 0 = 0) (hs : ∀ i, i < n → s (i + 1) = s i + c i) (hp : ∀ i, i < n → p (i + 1) = p i + kwd (c i)) (hsb : ∀ i, i ≤ n → s i ≤ 15 * i) (hpb : ∀ i, i ≤ n → p i ≤ 13 * i) (HG : GV w) :
  Calls Tryz.prog 98 #[.slice (some ⟨gl, 0, none⟩) n n] w fun e w' => ∃ g, e = .returned (.tuple #[.slice (some ⟨g, 0, none⟩) G G, .agg #[.int .i64 (s n : Nat), .int .i64 (p n : Nat)]]) ∧ Cel w' g (mkP G s p n) 149 ∧ w.heap.size ≤ g ∧ Below w.heap.size w w' := by
 obtain ⟨i0, hi, hz0, hz1, hz2⟩ := info_parts (show (Tryz.prog.info? 149).map (fun i => (i.zero, i.size, i.bytes)) = some (some (.agg #[.int .i64 0, .int .i64 0]), 2, 16) by kernel_rfl)
 have HGr : Hid (∀ w0, Calls Tryz.prog 157 #[.int .i64 (n : Nat)] w0 fun e w' => e = .returned (.int .i64 (G : Nat)) ∧ w' = w0) := by
  intro w0
  rw [hG]
  exact qgroups_c n (by omega) w0
 have hGb : G ≤ 8739 := by omega
 have HQ8 : Hid (∀ q, q < n → q / 8 < G) := fun q hq => by omega
 have HC := hide hc
 have HSs := hide hs
 have HPs := hide hp
 have HSB := hide hsb
 have HPB := hide hpb
 have lgl := hl.lt
 have HS0 := hide s0
 have HP0 := hide p0
 clear hc hs hp hsb hpb hG s0 p0
 obtain ⟨W, hW⟩ : ∃ W, W = w.alloc (.cells #[.int .i64 0, .int .i64 0] 149) := ⟨_, rfl⟩
 have bW := yb1 hW
 have zW : W.heap.size = w.heap.size + 1 := by rw [hW]; simp
 have B1 : Tb W 1 (vI wdL) := HG.wd.kept bW
 have L0 := HG.two
 have B2 := yc1 hW
 replace hl := hl.kept bW
 go_enter Tryz.func98, Tryz.ntmps98
 go_wp2_with fail
 rw [← hW]
 refine (HGr.out _).mono ?_
 rintro e w1 ⟨rfl, rfl⟩
 clear HGr hW
 go_wp2_with (at_make; refine wpList_make_full _ rfl _ _ 147 rfl w1.heap.size 149 i0 (.agg #[.int .i64 0, .int .i64 0]) 2 Tryz.underlying147 hi hz0 hz1 .i64 .i64 _ _ G rfl rfl rfl rfl ?b2 ?b3 ?b4 ?_)
 case b2 => rw [hz2]; omega
 case b3 => unfold maxLen; omega
 case b4 => simp
 intro w2 hown hgr
 have B3 := cel_made hown
 have hb2 : Below w1.heap.size w1 w2 := (Below.refl _ _).grown hgr (Nat.le_refl _) (fun k h => by cases h)
 have bw2 := bW.trans (hb2.mono bW.size)
 have z2 := hb2.size
 replace B1 := B1.kept hb2
 replace B2 := B2.kept hb2
 replace hl := hl.kept hb2
 rw [← mkP_zero G s p] at B3
 have l3 := B3.lt
 clear hown hgr hb2 hi hz0 hz1 hz2 bW
 go_wp2
 generalize hg3 : w2.heap.size = g3 at *
 go_loopw [15] (fun t wr => ∃ q : Nat, q ≤ n ∧ t = .int .i64 q ∧ Tb wr 1 (vI wdL) ∧ Cel wr w.heap.size [.int .i64 0, .int .i64 0] 149 ∧ Cel wr (w.heap.size + 1) (mkP G s p q) 149 ∧ Cel wr g3 [.int .i64 (s q : Nat), .int .i64 (p q : Nat)] 149 ∧ Cel wr gl (blP n c o n) 165 ∧ Below w.heap.size w wr) (fun t _ => n - (intOf t).toNat)
 case atStart =>
  have hb3 := below_alloc w2 (.cells #[.int .i64 0, .int .i64 0] 149)
  refine ⟨0, Nat.zero_le _, rfl, B1.kept hb3, B2.kept hb3, B3.kept hb3, ?_, hl.kept hb3, bw2.trans (hb3.mono (by omega))⟩
  rw [HS0.out, HP0.out, ← hg3]
  exact Cel.new w2 _ _
 case round =>
  obtain ⟨q, hq, rfl, B1, B2, B3, B4, hl, hb⟩ := hrel
  by_cases hqn : q < n
  ·have hqn2 : (q : Int) < (n : Int) := by omega
   have cq15 := HC.out q hqn
   have sb := HSB.out q hq
   have pb := HPB.out q hq
   have kb := kwd_le13 (c q) cq15
   have h8 := HQ8.out q hqn
   have HBh : Hid (∀ w0, Calls Tryz.prog 158 #[.agg #[.int .i64 (s q : Nat), .int .i64 (p q : Nat)], .agg #[.int .i64 (c q : Nat), .int .u64 (o q : Nat)], .int .i64 (kwd (c q) : Nat)] w0 fun e w' => e = .returned (.agg #[.int .i64 (s (q + 1) : Nat), .int .i64 (p (q + 1) : Nat)]) ∧ Below w0.heap.size w0 w') := by
    intro w0
    rw [HSs.out q hqn, HPs.out q hqn]
    exact qbehind_c (s q) (p q) (c q) (kwd (c q)) (o q) (by omega) (by omega) cq15 (by omega) w0
   have HWd : Hid ((vI wdL)[c q]? = some (.int .i64 (kwd (c q) : Nat))) := by
    show (vI wdL)[c q]? = _
    rw [vI_get wdL (c q) (by rw [length_wdL]; omega), gt_wdL _ cq15]
   have x0 := hl.cell (q * 2) (blP_fst n c o q hqn)
   have x1 := hl.cell (q * 2 + 1) (blP_snd n c o q hqn)
   have SK := mkP_skip G s p q
   have ST := mkP_step G s p q
   have M1 := mkP_fst G s p q (q / 8) h8
   have M2 := mkP_snd G s p q (q / 8) h8
   have cli : ((c q : Nat) : Int) < 16 := by omega
   have i8G : (q : Int) / 8 < (G : Int) := by omega
   generalize hs1 : s (q + 1) = s1 at *
   generalize hp1 : p (q + 1) = p1 at *
   generalize hc0 : c q = cq at *
   generalize ho0 : o q = oq at *
   generalize hsq : s q = sq at *
   generalize hpq : p q = pq at *
   generalize kwd cq = kq at *
   have m0 := B4.cell 0 rfl
   have m1 := B4.cell 1 rfl
   have l4 := B4.lt
   have n0 := B3.cell _ M1
   have n1 := B3.cell _ M2
   have f0 := B3.frozen (q / 8 * 2)
   have f1 := B3.frozen (q / 8 * 2 + 1)
   have l3 := B3.lt
   have zr := hb.size
   by_cases e8 : q % 8 = 0
   ·have e82 : ((q : Int) % 8 == 0) = true := by simp; omega
    go_wp2
    have C3 := (B3.set (q / 8 * 2) (.int .i64 (sq : Nat))).set (q / 8 * 2 + 1) (.int .i64 (pq : Nat))
    rw [ST e8 h8] at C3
    have hO : Only (w.heap.size + 1) wr ((wr.setCell ⟨w.heap.size + 1, q / 8 * 2, none⟩ (.int .i64 (sq : Nat))).setCell ⟨w.heap.size + 1, q / 8 * 2 + 1, none⟩ (.int .i64 (pq : Nat))) := ((Only.refl _ wr).set _ _).set _ _
    generalize (wr.setCell ⟨w.heap.size + 1, q / 8 * 2, none⟩ (.int .i64 (sq : Nat))).setCell ⟨w.heap.size + 1, q / 8 * 2 + 1, none⟩ (.int .i64 (pq : Nat)) = V0 at *
    replace B1 := hO.tb B1 (by omega)
    replace B2 := hO.cel B2 (by omega)
    replace B4 := hO.cel B4 (by omega)
    replace hl := hO.cel hl (by omega)
    have hb5 := hb.trans (hO.below (base := w.heap.size) (by omega))
    have zO := hO.size
    clear hO B3 hb
    clear n0 n1 f0 f1 m0 m1 x0 x1 SK ST M1 M2
    have hbA := below_alloc V0 (.cells #[.int .i64 (cq : Nat), .int .u64 (oq : Nat)] 165)
    have B5 : Cel (V0.alloc (.cells #[.int .i64 (cq : Nat), .int .u64 (oq : Nat)] 165)) wr.heap.size [.int .i64 (cq : Nat), .int .u64 (oq : Nat)] 165 := by rw [← zO]; exact Cel.new V0 _ _
    replace B1 := B1.kept hbA
    replace B2 := B2.kept hbA
    replace B4 := B4.kept hbA
    replace hl := hl.kept hbA
    replace C3 := C3.kept hbA
    replace hb5 := hb5.trans (hbA.mono hb5.size)
    have zA := hbA.size
    clear hbA
    generalize V0.alloc (.cells #[.int .i64 (cq : Nat), .int .u64 (oq : Nat)] 165) = V at *
    refine region_g [7] (fun w' => Tb w' 1 (vI wdL) ∧ Cel w' g3 [.int .i64 (sq : Nat), .int .i64 (pq : Nat)] 149 ∧ Cel w' wr.heap.size [.int .i64 (cq : Nat), .int .u64 (oq : Nat)] 165) (by kernel_rfl) ?_
    have hS : Tb V.drew 1 (vI wdL) ∧ Cel V.drew g3 [.int .i64 (sq : Nat), .int .i64 (pq : Nat)] 149 ∧ Cel V.drew wr.heap.size [.int .i64 (cq : Nat), .int .u64 (oq : Nat)] 165 := ⟨B1, B4, B5⟩
    replace B2 : Cel V.drew w.heap.size [.int .i64 0, .int .i64 0] 149 := B2
    replace C3 : Cel V.drew (w.heap.size + 1) (mkP G s p (q + 1)) 149 := C3
    replace hl : Cel V.drew gl (blP n c o n) 165 := hl
    replace hb5 : Below w.heap.size w V.drew := hb5.drew
    generalize V.drew = Y at *
    clear B1 B4 B5
    refine AnyG.tf 0 hS rfl (fun w0 h0 => by have c0 := h0.2.1.cell 0 rfl; have c1 := h0.2.1.cell 1 rfl; go_simp; try with_reducible rfl) ?_
    refine AnyG.tf 1 hS rfl (fun w0 h0 => by have c0 := h0.2.2.cell 0 rfl; have c1 := h0.2.2.cell 1 rfl; go_simp; try with_reducible rfl) ?_
    refine AnyG.tk 2 hS ?_
    refine AnyG.tf 3 hS rfl (fun w0 h0 => by have c0 := h0.2.2.cell 0 rfl; go_simp; try with_reducible rfl) ?_
    refine AnyG.tk 4 hS ?_
    refine AnyG.tf 5 hS rfl (fun w0 h0 => by have c0 := h0.1.cell cq HWd.out; go_simp; try with_reducible rfl) ?_
    refine AnyG.o1 6 ?_
    intro K hK
    go_simp
    refine (HBh.out _).mono ?_
    rintro e w7 ⟨rfl, hb7⟩
    have hS7 := And.intro (hS.1.kept hb7) (And.intro (hS.2.1.kept hb7) (hS.2.2.kept hb7))
    replace B2 := B2.kept hb7
    replace C3 := C3.kept hb7
    replace hl := hl.kept hb7
    replace hb5 := hb5.trans (hb7.mono hb5.size)
    clear hb7 hS
    refine hK.out _ _ (fun _ => hS7) ?_
    clear hK K
    try simp only [Act.put, yq0, yq1, yq2, yq3, yq4, yq5]
    refine AnyG.o1 7 ?_
    intro K hK
    obtain ⟨B1, B4, B5⟩ := hS7
    have f0 := B4.frozen 0
    have f1 := B4.frozen 1
    have c0 := B4.cell 0 rfl
    have c1 := B4.cell 1 rfl
    have HQ : Hid (Tb w7 1 (vI wdL) ∧ Cel w7 w.heap.size [.int .i64 0, .int .i64 0] 149 ∧ Cel w7 (w.heap.size + 1) (mkP G s p (q + 1)) 149 ∧ Cel w7 g3 [.int .i64 (sq : Nat), .int .i64 (pq : Nat)] 149 ∧ Cel w7 gl (blP n c o n) 165 ∧ Below w.heap.size w w7) := ⟨B1, B2, C3, B4, hl, hb5⟩
    clear B1 B2 C3 B4 B5 hl hb5
    go_simp
    refine hK.out _ _ (fun h => absurd (by decide) h) ?_
    clear hK K
    try simp only [Act.put, yq0, yq1, yq2, yq3, yq4, yq5]
    refine AnyG.done (by kernel_rfl) ?_ _
    go_wp2
    obtain ⟨B1, B2, C3, B4, hl, hb5⟩ := HQ.out
    refine ⟨⟨q + 1, by omega, by go_num, (B1.other (by show (1 : Nat) ≠ g3; omega) _).other (by show (1 : Nat) ≠ g3; omega) _, (B2.other (by show w.heap.size ≠ g3; omega) _).other (by show w.heap.size ≠ g3; omega) _, (C3.other (by show w.heap.size + 1 ≠ g3; omega) _).other (by show w.heap.size + 1 ≠ g3; omega) _, ?_, (hl.other (by show gl ≠ g3; omega) _).other (by show gl ≠ g3; omega) _, (hb5.setCell (by show w.heap.size ≤ g3; omega) _).setCell (by show w.heap.size ≤ g3; omega) _⟩, by simp only [intOf]; omega⟩
    rw [hs1, hp1]
    exact (B4.set 0 _).set 1 _
   ·have e82 : ((q : Int) % 8 == 0) = false := by simp; omega
    go_wp2
    have C3 := B3
    rw [SK e8] at C3
    obtain ⟨V0, hV0⟩ : ∃ V0, V0 = wr := ⟨_, rfl⟩
    have hb5 := hb
    have zO : V0.heap.size = wr.heap.size := by rw [hV0]
    rw [← hV0] at B1 B2 B4 hl C3 hb5
    rw [show wr.alloc (.cells #[.int .i64 (cq : Nat), .int .u64 (oq : Nat)] 165) = V0.alloc (.cells #[.int .i64 (cq : Nat), .int .u64 (oq : Nat)] 165) by rw [hV0]]
    clear B3 hb hV0
    clear n0 n1 f0 f1 m0 m1 x0 x1 SK ST M1 M2
    have hbA := below_alloc V0 (.cells #[.int .i64 (cq : Nat), .int .u64 (oq : Nat)] 165)
    have B5 : Cel (V0.alloc (.cells #[.int .i64 (cq : Nat), .int .u64 (oq : Nat)] 165)) wr.heap.size [.int .i64 (cq : Nat), .int .u64 (oq : Nat)] 165 := by rw [← zO]; exact Cel.new V0 _ _
    replace B1 := B1.kept hbA
    replace B2 := B2.kept hbA
    replace B4 := B4.kept hbA
    replace hl := hl.kept hbA
    replace C3 := C3.kept hbA
    replace hb5 := hb5.trans (hbA.mono hb5.size)
    have zA := hbA.size
    clear hbA
    generalize V0.alloc (.cells #[.int .i64 (cq : Nat), .int .u64 (oq : Nat)] 165) = V at *
    refine region_g [7] (fun w' => Tb w' 1 (vI wdL) ∧ Cel w' g3 [.int .i64 (sq : Nat), .int .i64 (pq : Nat)] 149 ∧ Cel w' wr.heap.size [.int .i64 (cq : Nat), .int .u64 (oq : Nat)] 165) (by kernel_rfl) ?_
    have hS : Tb V.drew 1 (vI wdL) ∧ Cel V.drew g3 [.int .i64 (sq : Nat), .int .i64 (pq : Nat)] 149 ∧ Cel V.drew wr.heap.size [.int .i64 (cq : Nat), .int .u64 (oq : Nat)] 165 := ⟨B1, B4, B5⟩
    replace B2 : Cel V.drew w.heap.size [.int .i64 0, .int .i64 0] 149 := B2
    replace C3 : Cel V.drew (w.heap.size + 1) (mkP G s p (q + 1)) 149 := C3
    replace hl : Cel V.drew gl (blP n c o n) 165 := hl
    replace hb5 : Below w.heap.size w V.drew := hb5.drew
    generalize V.drew = Y at *
    clear B1 B4 B5
    refine AnyG.tf 0 hS rfl (fun w0 h0 => by have c0 := h0.2.1.cell 0 rfl; have c1 := h0.2.1.cell 1 rfl; go_simp; try with_reducible rfl) ?_
    refine AnyG.tf 1 hS rfl (fun w0 h0 => by have c0 := h0.2.2.cell 0 rfl; have c1 := h0.2.2.cell 1 rfl; go_simp; try with_reducible rfl) ?_
    refine AnyG.tk 2 hS ?_
    refine AnyG.tf 3 hS rfl (fun w0 h0 => by have c0 := h0.2.2.cell 0 rfl; go_simp; try with_reducible rfl) ?_
    refine AnyG.tk 4 hS ?_
    refine AnyG.tf 5 hS rfl (fun w0 h0 => by have c0 := h0.1.cell cq HWd.out; go_simp; try with_reducible rfl) ?_
    refine AnyG.o1 6 ?_
    intro K hK
    go_simp
    refine (HBh.out _).mono ?_
    rintro e w7 ⟨rfl, hb7⟩
    have hS7 := And.intro (hS.1.kept hb7) (And.intro (hS.2.1.kept hb7) (hS.2.2.kept hb7))
    replace B2 := B2.kept hb7
    replace C3 := C3.kept hb7
    replace hl := hl.kept hb7
    replace hb5 := hb5.trans (hb7.mono hb5.size)
    clear hb7 hS
    refine hK.out _ _ (fun _ => hS7) ?_
    clear hK K
    try simp only [Act.put, yq0, yq1, yq2, yq3, yq4, yq5]
    refine AnyG.o1 7 ?_
    intro K hK
    obtain ⟨B1, B4, B5⟩ := hS7
    have f0 := B4.frozen 0
    have f1 := B4.frozen 1
    have c0 := B4.cell 0 rfl
    have c1 := B4.cell 1 rfl
    have HQ : Hid (Tb w7 1 (vI wdL) ∧ Cel w7 w.heap.size [.int .i64 0, .int .i64 0] 149 ∧ Cel w7 (w.heap.size + 1) (mkP G s p (q + 1)) 149 ∧ Cel w7 g3 [.int .i64 (sq : Nat), .int .i64 (pq : Nat)] 149 ∧ Cel w7 gl (blP n c o n) 165 ∧ Below w.heap.size w w7) := ⟨B1, B2, C3, B4, hl, hb5⟩
    clear B1 B2 C3 B4 B5 hl hb5
    go_simp
    refine hK.out _ _ (fun h => absurd (by decide) h) ?_
    clear hK K
    try simp only [Act.put, yq0, yq1, yq2, yq3, yq4, yq5]
    refine AnyG.done (by kernel_rfl) ?_ _
    go_wp2
    obtain ⟨B1, B2, C3, B4, hl, hb5⟩ := HQ.out
    refine ⟨⟨q + 1, by omega, by go_num, (B1.other (by show (1 : Nat) ≠ g3; omega) _).other (by show (1 : Nat) ≠ g3; omega) _, (B2.other (by show w.heap.size ≠ g3; omega) _).other (by show w.heap.size ≠ g3; omega) _, (C3.other (by show w.heap.size + 1 ≠ g3; omega) _).other (by show w.heap.size + 1 ≠ g3; omega) _, ?_, (hl.other (by show gl ≠ g3; omega) _).other (by show gl ≠ g3; omega) _, (hb5.setCell (by show w.heap.size ≤ g3; omega) _).setCell (by show w.heap.size ≤ g3; omega) _⟩, by simp only [intOf]; omega⟩
    rw [hs1, hp1]
    exact (B4.set 0 _).set 1 _
  ·obtain rfl : q = n := by omega
   go_wp2
   refine region_g [3] (fun w' => Cel w' g3 [.int .i64 (s q : Nat), .int .i64 (p q : Nat)] 149) (by kernel_rfl) ?_
   have hS : Cel wr.drew g3 [.int .i64 (s q : Nat), .int .i64 (p q : Nat)] 149 := B4
   replace B2 : Cel wr.drew w.heap.size [.int .i64 0, .int .i64 0] 149 := B2
   replace B3 : Cel wr.drew (w.heap.size + 1) (mkP G s p q) 149 := B3
   replace hb : Below w.heap.size w wr.drew := hb.drew
   generalize wr.drew = Z at *
   clear B1 B4 hl
   refine AnyG.tk 0 hS ?_
   refine AnyG.tf 1 hS rfl (fun w0 h0 => by have c0 := h0.cell 0 rfl; have c1 := h0.cell 1 rfl; go_simp; try with_reducible rfl) ?_
   refine AnyG.tk 2 hS ?_
   refine AnyG.o1 3 ?_
   intro K hK
   have f0 := B2.frozen 0
   have f1 := B2.frozen 1
   have n0 := B2.cell 0 rfl
   have n1 := B2.cell 1 rfl
   go_simp
   refine hK.out _ _ (fun h => absurd (by decide) h) ?_
   clear hK K
   try simp only [Act.put, yq0, yq1, yq2, yq3, yq4, yq5]
   refine AnyG.done (by kernel_rfl) ?_ _
   clear f0 f1 n0 n1
   go_wp2
   refine bodyPost_ret (result_tc rfl w.heap.size [.int .i64 (s q : Nat), .int .i64 (p q : Nat)] rfl ((B2.set 0 _).set 1 _) Tryz.underlying149 info_mrk) rfl ⟨w.heap.size + 1, rfl, (B3.other (by show w.heap.size + 1 ≠ w.heap.size; omega) _).other (by show w.heap.size + 1 ≠ w.heap.size; omega) _, by omega, (hb.setCell (by show w.heap.size ≤ w.heap.size; omega) _).setCell (by show w.heap.size ≤ w.heap.size; omega) _⟩
theorem imE_cls (n : Nat) (c : Nat → Nat) (hn : n ≤ 69906) (hc : ∀ i, i < n → c i ≤ 15) : imE ((4 : Nat) : Int) ((List.range n).map c) = 0 := by
 unfold imE
 rw [if_neg]
 simp only [List.length_map, List.length_range]
 intro h
 rcases h with h | h | h | h
 ·omega
 ·omega
 ·omega
 ·refine h fun j hj => ?_
  rw [gt_map n c j hj]
  have := hc j hj
  exact (lenI_fit (c j) 4).2 (by omega)
theorem info_ints : (Tryz.prog.info? 39).map (·.size) = some 4 := by kernel_rfl
theorem qclassesOf_c (n gl k : Nat) (c o : Nat → Nat) (w : World) (hn : n ≤ 69906) (hl : Cel w gl (blP n c o n) 165) (hc : ∀ i, i < n → c i ≤ 15) (hk : k = (n * 4 + 63) / 64) :
  Calls Tryz.prog 99 #[.slice (some ⟨gl, 0, none⟩) n n] w fun e w' => ∃ g, e = .returned (.agg #[.int .i64 (n : Nat), .int .i64 4, .int .i64 ((n : Int) * 4), .slice (some ⟨g, 0, none⟩) k k]) ∧ w.heap.size ≤ g ∧ Own w' g (mkS ((List.range n).map c) 4 n) ∧ Below w.heap.size w w' := by
 obtain ⟨i0, hi, hz0, hz1, hz2⟩ := info_parts Tryz.info110
 have HM : Hid (∀ w0, Wd w0 (some ⟨w.heap.size + 1, 0, none⟩) ((List.range n).map c) → Calls Tryz.prog 159 #[.int .i64 4, .slice (some ⟨w.heap.size + 1, 0, none⟩) n n] w0 fun e w' => ∃ g, e = .returned (.tuple #[.agg #[.int .i64 (n : Nat), .int .i64 4, .int .i64 ((n : Int) * 4), .slice (some ⟨g, 0, none⟩) k k], .int .i64 0]) ∧ w0.heap.size ≤ g ∧ Own w' g (mkS ((List.range n).map c) 4 n) ∧ Below w0.heap.size w0 w') := by
  intro w0 hx
  have hf : Fit ((List.range n).map c) := by
   intro i
   by_cases d : i < n
   ·rw [gt_map n c i d]
    have := hc i d
    omega
   ·rw [gt_out _ _ (by simp; omega)]
    decide
  have := make_ok 4 (some ⟨w.heap.size + 1, 0, none⟩) ((List.range n).map c) n k w0 hx hf (imE_cls n c hn hc) (by simp only [List.length_map, List.length_range]; exact hk)
  simp only [List.length_map, List.length_range] at this
  exact this
 have HC := hide hc
 have lgl := hl.lt
 clear hc hk
 obtain ⟨W, hW⟩ : ∃ W, W = w.alloc (.cells #[.int .i64 0, .int .i64 0, .int .i64 0, .slice none 0 0] 39) := ⟨_, rfl⟩
 have bW := yb1 hW
 have zW : W.heap.size = w.heap.size + 1 := by rw [hW]; simp
 have B1 := yc1 hW
 replace hl := hl.kept bW
 go_enter Tryz.func99, Tryz.ntmps99
 go_wp2_with (at_make; refine wpList_make_full _ rfl _ _ 31 rfl (w.heap.size + 1) 110 i0 (.int .u64 0) 1 Tryz.underlying31 hi hz0 hz1 .i64 .i64 _ _ n rfl rfl rfl rfl ?b2 ?b3 ?b4 ?_)
 case b2 => rw [hz2]; omega
 case b3 => unfold maxLen; omega
 case b4 => simp
 intro w2 hown hgr
 rw [← hW] at hgr
 have B2 : Own w2 (w.heap.size + 1) (List.replicate n 0) := own_made (by simpa using hown)
 have hb2 : Below W.heap.size W w2 := (Below.refl _ _).grown hgr (Nat.le_refl _) (fun k h => by cases h)
 have bw2 := bW.trans (hb2.mono bW.size)
 replace B1 := B1.kept hb2
 replace hl := hl.kept hb2
 rw [lsS_zero n c] at B2
 have l2 := B2.lt
 clear hown hgr hb2 hi hz0 hz1 hz2 bW hW zW
 go_wp2
 go_loopw [13] (fun t wr => ∃ q : Nat, q ≤ n ∧ t = .int .i64 q ∧ Cel wr w.heap.size [.int .i64 0, .int .i64 0, .int .i64 0, .slice none 0 0] 39 ∧ Own wr (w.heap.size + 1) (lsS n c q) ∧ Cel wr gl (blP n c o n) 165 ∧ Below w.heap.size w wr) (fun t _ => n - (intOf t).toNat)
 case atStart => exact ⟨0, Nat.zero_le _, rfl, B1, B2, hl, bw2⟩
 case round =>
  obtain ⟨q, hq, rfl, B1, B2, hl, hb⟩ := hrel
  by_cases hqn : q < n
  ·have hqn2 : (q : Int) < (n : Int) := by omega
   have cq15 := HC.out q hqn
   have x0 := hl.cell (q * 2) (blP_fst n c o q hqn)
   have x1 := hl.cell (q * 2 + 1) (blP_snd n c o q hqn)
   have n0 := B2.cell q (by rw [length_lsS]; exact hqn)
   have f0 := B2.frozen q
   have l3 := B2.lt
   have ST := hide (lsS_step n c q hqn)
   generalize hc0 : c q = cq at *
   generalize ho0 : o q = oq at *
   have u1 : IntKind.u64.wrap (cq : Int) = (cq : Int) := by rw [IntKind.wrap_u64]; omega
   go_wp2
   have C2 := B2.set q cq
   rw [ST.out] at C2
   have zr := hb.size
   have hB3 : Below w.heap.size w ((wr.setCell ⟨w.heap.size + 1, q, none⟩ (.int .u64 (cq : Nat))).alloc (.cells #[.int .i64 (cq : Nat), .int .u64 (oq : Nat)] 165)) := (hb.setCell (by show w.heap.size ≤ w.heap.size + 1; omega) _).alloc (by simp; omega) _
   have hA := below_alloc (wr.setCell ⟨w.heap.size + 1, q, none⟩ (.int .u64 (cq : Nat))) (.cells #[.int .i64 (cq : Nat), .int .u64 (oq : Nat)] 165)
   exact ⟨⟨q + 1, by omega, by go_num, (B1.other (by show w.heap.size ≠ w.heap.size + 1; omega) _).kept hA, C2.keep hA, (hl.other (by show gl ≠ w.heap.size + 1; omega) _).kept hA, hB3⟩, by simp only [intOf]; omega⟩
  ·obtain rfl : q = n := by omega
   rw [lsS_all] at B2
   have HMw := HM.out wr B2.wd
   have HM2 := hide HMw
   clear HM HMw
   go_wp2_with fail
   refine HM2.out.mono ?_
   rintro e w5 ⟨g, rfl, hg, hO, hb5⟩
   have lw := B1.lt
   replace B1 := B1.kept hb5
   have bw5 := hb.trans (hb5.mono hb.size)
   have zr := hb.size
   have l5 := B1.lt
   have f0 := B1.frozen 0
   have f1 := B1.frozen 1
   have f2 := B1.frozen 2
   have f3 := B1.frozen 3
   have n0 := B1.cell 0 rfl
   have n1 := B1.cell 1 rfl
   have n2 := B1.cell 2 rfl
   have n3 := B1.cell 3 rfl
   have HO := hide hO
   have lO := hO.lt
   clear hO hb5 hl B2 HM2 hb
   go_wp2
   refine bodyPost_ret (result_cel1 rfl w.heap.size [.int .i64 (q : Nat), .int .i64 4, .int .i64 ((q : Int) * 4), .slice (some ⟨g, 0, none⟩) k k] rfl (((((B1.set 0 _).set 1 _).set 2 _).set 3 _).alloc _) Tryz.underlying39 info_ints) rfl ⟨g, rfl, by omega, ?_, ?_⟩
   ·refine Own.keep ((((HO.out.set_other ?_ _).set_other ?_ _).set_other ?_ _).set_other ?_ _) (below_alloc _ _)
    ·show g ≠ w.heap.size; omega
    ·show g ≠ w.heap.size; omega
    ·show g ≠ w.heap.size; omega
    ·show g ≠ w.heap.size; omega
   ·refine Below.alloc ((((bw5.setCell ?_ _).setCell ?_ _).setCell ?_ _).setCell ?_ _) ?_ _
    ·exact Nat.le_refl _
    ·exact Nat.le_refl _
    ·exact Nat.le_refl _
    ·exact Nat.le_refl _
    ·simp; omega
theorem qoffsetsOf_c (n gl L k : Nat) (c o p : Nat → Nat) (F : Nat → Bool) (w : World) (hn : n ≤ 69906) (hl : Cel w gl (blP n c o n) 165) (hc : ∀ i, i < n → c i ≤ 15) (p0 : p 0 = 0) (hp : ∀ i, i < n → p (i + 1) = p i + kwd (c i)) (hpL : ∀ i, i < n → p (i + 1) ≤ L) (hL : p n = L) (hLb : L ≤ 1048576) (ho : ∀ i, i < n → o i < 2 ^ kwd (c i)) (hF : ∀ i, i < n → ∀ t, t < kwd (c i) → (o i).testBit t = F (p i + t)) (hk : k = (L + 63) / 64) (HG : GV w) :
  Calls Tryz.prog 100 #[.slice (some ⟨gl, 0, none⟩) n n, .int .i64 (L : Nat)] w fun e w' => ∃ g, e = .returned (.agg #[.int .i64 (L : Nat), .slice (some ⟨g, 0, none⟩) k k]) ∧ w.heap.size ≤ g ∧ Own w' g (rowOf L F) ∧ Below w.heap.size w w' := by
 have HN : Hid (∀ w0, Calls Tryz.prog 147 #[.int .i64 (L : Nat)] w0 fun e w' => ∃ g, e = .returned (.agg #[.int .i64 (L : Nat), .slice (some ⟨g, 0, none⟩) k k]) ∧ w0.heap.size ≤ g ∧ Own w' g (rowP L F (p 0)) ∧ Below w0.heap.size w0 w') := by
  intro w0
  rw [p0, rowP_zero]
  exact qnoughts_c L k hLb hk w0
 have HLy : Hid (∀ (g q : Nat) w0, q < n → Own w0 g (rowP L F (p q)) → Calls Tryz.prog 149 #[.slice (some ⟨g, 0, none⟩) k k, .int .i64 (p q : Nat), .int .u64 (o q : Nat)] w0 fun e w' => e = .returned (.tuple #[]) ∧ Own w' g (rowP L F (p (q + 1))) ∧ Turned g w0 w') := by
  intro g q w0 hq h0
  have kb := kwd_le13 (c q) (hc q hq)
  have h1 := hp q hq
  have h2 := hpL q hq
  have o2 := ho q hq
  have o64 : o q < 18446744073709551616 := Nat.lt_of_lt_of_le o2 (Nat.pow_le_pow_right (n := 2) (j := 64) (by decide) (by omega))
  have := qlay_l (rowP L F (p q)) k g k (p q) (o q) w0 (by rw [length_rowP, hk]) h0 (by omega) (fit_rowP _ _ _) o64 (rowP_room L F (p q) (kwd (c q)) (o q) (by omega) (by omega) o2)
  rw [rowP_put L F (p q) (kwd (c q)) (o q) (by omega) (by omega) o2 (hF q hq), ← h1] at this
  exact this
 have HC := hide hc
 have HPs := hide hp
 have HPL : Hid (∀ i, i ≤ n → p i ≤ L) := fun i hi => by
  by_cases z : i = 0
  ·rw [z, p0]; omega
  ·have := hpL (i - 1) (by omega)
   rw [show i - 1 + 1 = i by omega] at this
   exact this
 have HLn : Hid (rowP L F (p n) = rowOf L F) := by
  show rowP L F (p n) = rowOf L F
  rw [hL, rowP_all]
 have HP0 := hide p0
 have lgl := hl.lt
 clear hc hp hpL hL ho hF hk p0
 obtain ⟨W, hW⟩ : ∃ W, W = w.alloc (.cells #[.int .i64 0, .slice none 0 0] 33) := ⟨_, rfl⟩
 have bW := yb1 hW
 have zW : W.heap.size = w.heap.size + 1 := by rw [hW]; simp
 have B1 : Tb W 1 (vI wdL) := HG.wd.kept bW
 have L0 := HG.two
 have B2 := yc1 hW
 replace hl := hl.kept bW
 go_enter Tryz.func100, Tryz.ntmps100
 go_wp2_with fail
 rw [← hW]
 refine (HN.out _).mono ?_
 rintro e w2 ⟨g, rfl, hg, hO, hb⟩
 have bw2 := bW.trans (hb.mono bW.size)
 have z2 := hb.size
 replace B1 := B1.kept hb
 replace B2 := B2.kept hb
 replace hl := hl.kept hb
 have lg := hO.lt
 have HO := hide hO
 clear hb hW bW HN hO
 go_wp2
 go_loopw [6, 13] (fun a t wr => ∃ q : Nat, q ≤ n ∧ t = .int .i64 q ∧ a = .int .i64 (p q : Nat) ∧ Tb wr 1 (vI wdL) ∧ Cel wr w.heap.size [.int .i64 0, .slice none 0 0] 33 ∧ Cel wr w2.heap.size [.int .i64 (L : Nat), .slice (some ⟨g, 0, none⟩) k k] 33 ∧ Own wr g (rowP L F (p q)) ∧ Cel wr gl (blP n c o n) 165 ∧ Below w.heap.size w wr) (fun _ t _ => n - (intOf t).toNat)
 case atStart =>
  have hA := below_alloc w2 (.cells #[.int .i64 (L : Nat), .slice (some ⟨g, 0, none⟩) k k] 33)
  exact ⟨0, Nat.zero_le _, rfl, by rw [HP0.out]; rfl, B1.kept hA, B2.kept hA, Cel.new w2 _ _, HO.out.keep hA, hl.kept hA, bw2.trans (hA.mono bw2.size)⟩
 case round =>
  obtain ⟨q, hq, rfl, rfl, B1, B2, B3, hO, hl, hb⟩ := hrel
  clear HO
  by_cases hqn : q < n
  ·have hqn2 : (q : Int) < (n : Int) := by omega
   have cq15 := HC.out q hqn
   have pq := HPL.out q hq
   have kb := kwd_le13 (c q) cq15
   have HLq : Hid (∀ w0, Own w0 g (rowP L F (p q)) → Calls Tryz.prog 149 #[.slice (some ⟨g, 0, none⟩) k k, .int .i64 (p q : Nat), .int .u64 (o q : Nat)] w0 fun e w' => e = .returned (.tuple #[]) ∧ Own w' g (rowP L F (p (q + 1))) ∧ Turned g w0 w') := fun w0 h0 => HLy.out g q w0 hqn h0
   have HWd : Hid ((vI wdL)[c q]? = some (.int .i64 (kwd (c q) : Nat))) := by
    show (vI wdL)[c q]? = _
    rw [vI_get wdL (c q) (by rw [length_wdL]; omega), gt_wdL _ cq15]
   have x0 := hl.cell (q * 2) (blP_fst n c o q hqn)
   have x1 := hl.cell (q * 2 + 1) (blP_snd n c o q hqn)
   have hps := hide (HPs.out q hqn)
   have cli : ((c q : Nat) : Int) < 16 := by omega
   generalize hp1 : p (q + 1) = p1 at *
   generalize hc0 : c q = cq at *
   generalize ho0 : o q = oq at *
   generalize hpq : p q = pq' at *
   generalize kwd cq = kq at *
   have r1 := B3.cell 1 rfl
   have l3 := B3.lt
   have lgr := hO.lt
   have zr := hb.size
   obtain ⟨U, hU⟩ : ∃ U, U = wr.alloc (.cells #[.int .i64 (cq : Nat), .int .u64 (oq : Nat)] 165) := ⟨_, rfl⟩
   have hbU : Below wr.heap.size wr U := by rw [hU]; exact below_alloc wr _
   have B5 : Cel U wr.heap.size [.int .i64 (cq : Nat), .int .u64 (oq : Nat)] 165 := by rw [hU]; exact Cel.new wr _ _
   replace B1 := B1.kept hbU
   replace B2 := B2.kept hbU
   replace B3 := B3.kept hbU
   replace hl := hl.kept hbU
   have hO2 := hO.keep hbU
   have bU := hb.trans (hbU.mono hb.size)
   clear HLy hbU hO
   go_wp2_with fail
   rw [← hU]
   refine (HLq.out _ hO2).mono ?_
   rintro e w4 ⟨rfl, hO4, hT⟩
   replace B1 := hT.tb B1 (by omega)
   replace B2 := hT.cel B2 (by omega)
   replace B3 := hT.cel B3 (by omega)
   replace B5 := hT.cel B5 (by omega)
   replace hl := hT.cel hl (by omega)
   have b4 := bU.trans (hT.below (B := w.heap.size) (by omega))
   have c0 := B5.cell 0 rfl
   have wd := B1.cell cq HWd.out
   clear hT hU HLq x0 x1 r1 hO2 bU
   go_wp2
   refine ⟨⟨q + 1, by omega, by go_num, ?_, B1, B2, B3, by rw [hp1]; exact hO4, hl, b4⟩, by simp only [intOf]; omega⟩
   rw [hp1, hps.out]
   exact congrArg (Value.int IntKind.i64) (by omega)
  ·obtain rfl : q = n := by omega
   have r0 := B3.cell 0 rfl
   have r1 := B3.cell 1 rfl
   have f0 := B2.frozen 0
   have f1 := B2.frozen 1
   have n0 := B2.cell 0 rfl
   have n1 := B2.cell 1 rfl
   rw [HLn.out] at hO
   clear HLy HLn
   go_wp2
   refine bodyPost_ret (result_cel1 rfl w.heap.size [.int .i64 (L : Nat), .slice (some ⟨g, 0, none⟩) k k] rfl ((B2.set 0 _).set 1 _) Tryz.underlying33 r8info_b) rfl ⟨g, rfl, by omega, (hO.set_other (by show g ≠ w.heap.size; omega) _).set_other (by show g ≠ w.heap.size; omega) _, (hb.setCell (by show w.heap.size ≤ w.heap.size; omega) _).setCell (by show w.heap.size ≤ w.heap.size; omega) _⟩
end Go.Proofs.YtfnkklkdajlhlaaGreatDoor
