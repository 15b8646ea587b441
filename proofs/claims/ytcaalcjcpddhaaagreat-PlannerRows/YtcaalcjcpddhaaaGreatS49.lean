/-
  What stays of a row of a kind where one other block is written; a part of a struct into its block. The contract of the program's Build. The contracts of the document's functions of plain rows, over objects. The contract of the document's row of layer 9: the places that one tells. The document's row of layer 9: the places that one tells, where its rows may be.
-/
import Derived.Test.YtcaalcjcpddhaaaGreatS48
set_option linter.unusedVariables false
set_option linter.unusedSimpArgs false
set_option maxRecDepth 100000
namespace Go.Proofs.YtcaalcjcpddhaaaGreat
open Go.RowKit Num Bit
theorem Only.nd {g base : Nat} {w w' : World} {ao : Option Addr} {l : List Int} (h : Only g w w') (hx : Nd w ao l) (hf : Fr base ao) (hg : g < base) : Nd w' ao l := by
 intro h0
 obtain ⟨b, off, rfl, hlt, hc⟩ := hx h0
 have hne : base ≤ b := hf _ rfl
 exact ⟨b, off, rfl, by rw [h.size]; exact hlt, fun i hi => (h.cell (p := ⟨b, off + i, none⟩) (show b ≠ g by omega)).trans (hc i hi)⟩
def Nou (cs : List Value) : Prop := ∀ v ∈ cs, ∀ n, v ≠ .int .u64 n
theorem Nou.app {a b : List Value} (h : Nou a) (g : Nou b) : Nou (a ++ b) := fun v hv n => by
 rcases List.mem_append.1 hv with e | e
 ·exact h v e n
 ·exact g v e n
theorem KArg7.nou {w : World} {cs : List Value} {a : RA7} (h : KArg7 w cs a) : Nou cs := by
 obtain ⟨ao, cap, so, sc, tO, tc, rfl, _⟩ := h
 intro v hv n
 simp at hv
 rcases hv with rfl | rfl | rfl | rfl <;> simp
theorem KArg8.nou {w : World} {cs : List Value} {a : RA8} (h : KArg8 w cs a) : Nou cs := by
 obtain ⟨ao, cap, qo, dap, so, sc, tO, tc, rfl, _⟩ := h
 intro v hv n
 simp at hv
 rcases hv with rfl | rfl | rfl | rfl | rfl | rfl | rfl | rfl | rfl <;> simp
theorem KArg9.nou {w : World} {cs : List Value} {a : RA9} (h : KArg9 w cs a) : Nou cs := by
 obtain ⟨ao, cap, qo, dap, rfl, _⟩ := h
 intro v hv n
 simp at hv
 rcases hv with rfl | rfl | rfl | rfl | rfl | rfl | rfl | rfl <;> simp
theorem KI7.only {w w2 : World} {g base : Nat} {cs gs : List Value} {a : RA7} {T : TypeId} (h : KI7 w cs a) (nf : NF base 2 cs) (hg : g < base) (hc : Cel w g gs T) (hn : Nou gs) (hO : Only g w w2) : KI7 w2 cs a := by
 obtain ⟨⟨ao, cap, so, sc, tO, tc, rfl, h⟩, xl, sl, tl⟩ := h
 exact ⟨⟨ao, cap, so, sc, tO, tc, rfl, ⟨h.n, hO.wd h.x (h.x.apart hc hn), h.f, h.c, hO.nd h.s (nf _ _ _ (.inl rfl)) hg, h.sf, h.sc, hO.nd h.t (nf _ _ _ (.inr rfl)) hg, h.tf, h.tc⟩⟩, xl, sl, tl⟩
theorem KI8.only {w w2 : World} {g base : Nat} {cs gs : List Value} {a : RA8} {T : TypeId} (h : KI8 w cs a) (nf : NF base 7 cs) (hg : g < base) (hc : Cel w g gs T) (hn : Nou gs) (hO : Only g w w2) (G2 : GV w2) : KI8 w2 cs a := by
 obtain ⟨⟨ao, cap, qo, dap, so, sc, tO, tc, rfl, r, a1, a2, a3, a4, a5, a6, a7, a8, a9, a10⟩, xl, yl, sl, tl, _⟩ := h
 exact ⟨⟨ao, cap, qo, dap, so, sc, tO, tc, rfl, r, hO.wd a1 (a1.apart hc hn), a2, a3, hO.wd a4 (a4.apart hc hn), a5, a6, hO.nd a7 (nf _ _ _ (.inl rfl)) hg, a8, hO.nd a9 (nf _ _ _ (.inr rfl)) hg, a10⟩, xl, yl, sl, tl, G2⟩
theorem KI9.only {w w2 : World} {g : Nat} {cs gs : List Value} {a : RA9} {T : TypeId} (h : KI9 w cs a) (hc : Cel w g gs T) (hn : Nou gs) (hO : Only g w w2) : KI9 w2 cs a := by
 obtain ⟨⟨ao, cap, qo, dap, rfl, r, a1, a2, a3, a4, a5, a6⟩, n3, xl, yl⟩ := h
 exact ⟨⟨ao, cap, qo, dap, rfl, r, hO.wd a1 (a1.apart hc hn), a2, a3, hO.wd a4 (a4.apart hc hn), a5, a6⟩, n3, xl, yl⟩
theorem i64_0 : I64 0 := ⟨by decide, by decide⟩
theorem z7arg (w : World) : KI7 w [Value.int .i64 0, .slice none 0 0, .slice none 0 0, .slice none 0 0] n7 := ⟨⟨none, 0, none, 0, none, 0, rfl, ⟨i64_0, wd0' _ _, fit_nil, Nat.le_refl _, nd0 _ _, fitI_nil, Nat.le_refl _, nd0 _ _, fitI_nil, Nat.le_refl _⟩⟩, Nat.zero_le _, Nat.zero_le _, Nat.zero_le _⟩
theorem z8a (w : World) : KArg8 w [Value.int .i64 0, .int .i64 0, .int .i64 0, .int .i64 0, .slice none 0 0, .int .i64 0, .slice none 0 0, .slice none 0 0, .slice none 0 0] n8 := ⟨none, 0, none, 0, none, 0, none, 0, rfl, ⟨i64_0, i64_0, i64_0, i64_0, i64_0, fitI_nil, fitI_nil⟩, wd0' _ _, fit_nil, Nat.le_refl _, wd0' _ _, fit_nil, Nat.le_refl _, nd0 _ _, Nat.le_refl _, nd0 _ _, Nat.le_refl _⟩
theorem z8arg (w : World) (G : GV w) : KI8 w [Value.int .i64 0, .int .i64 0, .int .i64 0, .int .i64 0, .slice none 0 0, .int .i64 0, .slice none 0 0, .slice none 0 0, .slice none 0 0] n8 := ⟨z8a w, Nat.zero_le _, Nat.zero_le _, Nat.zero_le _, Nat.zero_le _, G⟩
theorem z9arg (w : World) : KI9 w [Value.int .i64 0, .int .i64 0, .int .i64 0, .int .i64 0, .int .i64 0, .slice none 0 0, .int .i64 0, .slice none 0 0] n9 := ⟨⟨none, 0, none, 0, rfl, ⟨i64_0, i64_0, i64_0, i64_0, i64_0, i64_0⟩, wd0' _ _, fit_nil, Nat.le_refl _, wd0' _ _, fit_nil, Nat.le_refl _⟩, by decide, Nat.zero_le _, Nat.zero_le _⟩
theorem ki_mk {w : World} {cp cr cf : List Value} {K : Int} {p : RA7} {r : RA8} {f : RA9} (hK : I64 K) (h1 : KI7 w cp p) (h2 : KI8 w cr r) (h3 : KI9 w cf f) : KI w (.int .i64 K :: (cp ++ (cr ++ cf))) ⟨K, p, r, f⟩ :=
 ⟨⟨cp, cr, cf, rfl, hK, h1.arg, h2.arg, h3.arg⟩, ⟨h1.xl, h1.sl, h1.tl, h2.xl, h2.yl, h2.sl, h2.tl, h3.n3, h3.xl, h3.yl⟩, h2.gv⟩
theorem ka_mk {w : World} {cp cr cf : List Value} {K : Int} {p : RA7} {r : RA8} {f : RA9} (hK : I64 K) (h1 : KArg7 w cp p) (h2 : KArg8 w cr r) (h3 : KArg9 w cf f) : KArg w (.int .i64 K :: (cp ++ (cr ++ cf))) ⟨K, p, r, f⟩ := ⟨cp, cr, cf, rfl, hK, h1, h2, h3⟩
theorem nou_mk {cp cr cf : List Value} {K : Int} (h1 : Nou cp) (h2 : Nou cr) (h3 : Nou cf) : Nou (.int .i64 K :: (cp ++ (cr ++ cf))) := fun v hv n => by
 rcases List.mem_cons.1 hv with rfl | e
 ·simp
 ·exact (h1.app (h2.app h3)) v e n
theorem cel_cells {w : World} {g : Nat} {T : TypeId} : ∀ (cs pre old post : List Value), old.length = cs.length → Cel w g (pre ++ (old ++ post)) T → Cel (w.setCells g pre.length cs) g (pre ++ (cs ++ post)) T ∧ Only g w (w.setCells g pre.length cs) := by
 intro cs
 induction cs generalizing w with
 | nil =>
  intro pre old post hl h
  obtain rfl := List.eq_nil_of_length_eq_zero hl
  exact ⟨h, Only.refl _ _⟩
 | cons v r ih =>
  intro pre old post hl h
  match old, hl with
  | u :: o, hl =>
   have h2 : Cel (w.setCell ⟨g, pre.length, none⟩ v) g ((pre ++ [v]) ++ (o ++ post)) T := by
    have := h.set pre.length v
    have e : (pre ++ (u :: o ++ post)).set pre.length v = (pre ++ [v]) ++ (o ++ post) := by
     rw [List.set_append_right _ _ (Nat.le_refl _), Nat.sub_self]
     simp
    rw [e] at this
    exact this
   have k := ih (pre ++ [v]) o post (by simpa using hl) h2
   rw [List.length_append, List.length_singleton] at k
   refine ⟨?_, ((Only.refl g w).set pre.length v).trans k.2⟩
   have k1 := k.1
   rw [List.append_assoc] at k1
   exact k1
theorem store_part {ops : Array Oper} {rest : List Oper} {d : Option Tmp} {ty T TT : TypeId} {ps : String} {af : Array Edge} {a : Act} {w : World} {Q : Exit → Act → World → Prop} {x y : Operand}
  (g : Nat) (pre old post cs : List Value) (hx : a.eval x = .pointer (some ⟨g, pre.length, none⟩)) (hy : a.eval y = .agg cs.toArray) (hc : Cel w g (pre ++ (old ++ post)) TT) (lo : old.length = cs.length) (hi : (Tryz.prog.info? T).map (·.size) = some cs.length) (h1 : cs.toArray.all (·.oneCell') = true)
  (h : ∀ w1, Cel w1 g (pre ++ (cs ++ post)) TT → Only g w w1 → wpList Tryz.prog ops Q rest (a.put d undef) w1) :
  wpList Tryz.prog ops Q (⟨d, .store T x y, ty, ps, af, none⟩ :: rest) a w := by
 refine wpList_store_mid rfl T x y rfl g pre.length cs.toArray hx hy ?_ (by simpa using hi) h1 ?_
 ·intro j hj
  have hj : j < cs.length := by simpa using hj
  have hl : pre.length + j < (pre ++ (old ++ post)).length := by simp only [List.length_append]; omega
  exact ⟨by rw [hc.cell (pre.length + j) (List.getElem?_eq_getElem hl)]; rfl, hc.frozen _⟩
 ·have k := cel_cells cs pre old post lo hc
  exact h _ k.1 k.2
end Go.Proofs.YtcaalcjcpddhaaaGreat
namespace Go.Proofs.YtcaalcjcpddhaaaGreat
open Go.RowKit Num Bit
theorem NF.mono {base b0 i : Nat} {cs : List Value} (h : NF base i cs) (hl : b0 ≤ base) : NF b0 i cs := fun ao n c e a ha => Nat.le_trans hl (h ao n c e a ha)
theorem NF.mid {base i j : Nat} {pre cs post : List Value} (h : NF base i cs) (hl : i + 2 ≤ cs.length) (hj : j = pre.length + i) : NF base j (pre ++ (cs ++ post)) := fun ao n c e => by
 subst hj
 refine h ao n c ?_
 have k : ∀ q, q < cs.length → (pre ++ (cs ++ post))[pre.length + q]? = cs[q]? := fun q hq => by
  rw [List.getElem?_append_right (by omega), List.getElem?_append_left (by omega), show pre.length + q - pre.length = q by omega]
 rw [k i (by omega), show pre.length + i + 1 = pre.length + (i + 1) by omega, k (i + 1) (by omega)] at e
 exact e
def NFV (base : Nat) (cs : List Value) : Prop := NF base 3 cs ∧ NF base 12 cs
end Go.Proofs.YtcaalcjcpddhaaaGreat
namespace Go.Proofs.YtcaalcjcpddhaaaGreat
open Go.RowKit Num Bit
theorem p7whole_k (cs : List Value) (a : RA7) (w : World) (h : KI7 w cs a) :
  Calls Tryz.prog 69 #[.agg cs.toArray] w fun e w' => ∃ bo bc, e = .returned (.tuple #[.agg #[.int .i64 (kBN7 a), .slice bo (kBX7 a).length bc], .bool (kOk7 a)]) ∧ Wd w' bo (kBX7 a) ∧ (kBX7 a).length ≤ bc ∧ Below w.heap.size w w' := by
 obtain ⟨⟨ao, cap, so, sc, tO, tc, rfl, h⟩, xl, sl, tl⟩ := h
 refine (rwhole_c a.N ao a.xs cap so a.S sc tO a.T tc w h.x h.f h.c h.s sl h.t tl).mono ?_
 rintro e w' ⟨rfl, hb⟩
 exact ⟨_, _, rfl, (pi_wd a.N a.S a.T h.x).keep hb, pi_cap a.N a.xs a.S a.T cap h.c, hb⟩
theorem p7size_k (cs : List Value) (a : RA7) (w : World) (h : KI7 w cs a) :
  Calls Tryz.prog 16 #[.agg cs.toArray] w fun e w' => e = .returned (.int .i64 (kZ7 a)) ∧ Below w.heap.size w w' := by
 obtain ⟨⟨ao, cap, so, sc, tO, tc, rfl, h⟩, xl, sl, tl⟩ := h
 exact rsize_c a.N ao a.xs cap so a.S sc tO a.T tc w h.x h.f h.c h.s sl h.t tl
theorem p7build_k (N : Int) (ao : Option Addr) (xs : List Nat) (cap : Nat) (w : World) (hN : I64 N) (hx : Wd w ao xs) (hf : Fit xs) (hcap : xs.length ≤ cap) (hl : xs.length ≤ 1048576) :
  Calls Tryz.prog 12 #[.agg #[.int .i64 N, .slice ao xs.length cap]] w fun e w' => ∃ cs : List Value, e = .returned (.tuple #[.agg cs.toArray, .int .i64 (kE7 N xs)]) ∧ KI7 w' cs (kB7 N xs) ∧ NF w.heap.size 2 cs ∧ Below w.heap.size w w' := by
 refine (rbuild_c N ao xs cap w hx hf hcap).mono ?_
 rintro e w' ⟨bo, bc, so, sc, tO, tc, rfl, ho, hb⟩
 exact ⟨_, rfl, ho.ki N xs hN hf hl, nf_mk ho.sn ho.tn, hb⟩
end Go.Proofs.YtcaalcjcpddhaaaGreat
namespace Go.Proofs.YtcaalcjcpddhaaaGreat
open Go.RowKit Num Bit
def ROut (o : Option (List Nat)) (w : World) (e : Ending) (w' : World) : Prop :=
 match o with
 | none => e = .returned (.tuple #[.slice none 0 0, .bool false]) ∧ Below w.heap.size w w'
 | some l => ∃ so sc, e = .returned (.tuple #[.slice so l.length sc, .bool true]) ∧ Nd w' so (lz l) ∧ l.length ≤ sc ∧ Below w.heap.size w w'
theorem fRow_bad (a : FA) (h : ¬ ((0 ≤ a.N ∧ a.N ≤ 1048576 ∧ 0 ≤ a.M ∧ a.M ≤ a.N) ∧ ichk a.k a.V a.LM a.xs = true ∧ chk a.H a.ys = true ∧ ((plc (bitAt a.ys) a.H.toNat).length : Int) = a.M ∧ (wdF a.N.toNat a.M.toNat = 0 ∨ (((List.range a.k.toNat).map (numAt a.V.toNat a.xs)).length : Int) = a.M))) : fRow a = none := by
 unfold fRow
 exact if_neg h
set_option maxHeartbeats 8000000 in
theorem row9_bad (N M k V LM H : Int) (ao : Option Addr) (xs : List Nat) (cap : Nat) (qo : Option Addr) (ys : List Nat) (dap : Nat) (w : World) (hx : Wd w ao xs) (fx : Fit xs) (hy : Wd w qo ys) (fy : Fit ys) (h : ¬ ((0 ≤ N ∧ N ≤ 1048576 ∧ 0 ≤ M ∧ M ≤ N) ∧ ichk k V LM xs = true ∧ chk H ys = true)) :
  Calls Tryz.prog 92 #[.agg #[.int .i64 N, .int .i64 M, .int .i64 k, .int .i64 V, .int .i64 LM, .slice ao xs.length cap, .int .i64 H, .slice qo ys.length dap]] w (ROut none w) := by
 unfold ROut
 have C1 : Hid (∀ w0, Below w.heap.size w w0 → Calls Tryz.prog 89 #[.agg #[.int .i64 k, .int .i64 V, .int .i64 LM, .slice ao xs.length cap]] w0 fun e w' => e = .returned (.bool (ichk k V LM xs)) ∧ Below w0.heap.size w0 w') := fun w0 hb => irefcheck_c k V LM ao xs cap w0 (hx.keep hb) fx
 have C2 : Hid (∀ w0, Below w.heap.size w w0 → Calls Tryz.prog 21 #[.agg #[.int .i64 H, .slice qo ys.length dap]] w0 fun e w' => e = .returned (.bool (chk H ys)) ∧ Below w0.heap.size w0 w') := fun w0 hb => refcheck_c H qo ys dap w0 (hy.keep hb) fy
 obtain ⟨W, hW⟩ : ∃ W, W = w.alloc (.cells #[.int .i64 N, .int .i64 M, .int .i64 k, .int .i64 V, .int .i64 LM, .slice ao xs.length cap, .int .i64 H, .slice qo ys.length dap] 34) := ⟨_, rfl⟩
 have bW : Below w.heap.size w W := by rw [hW]; exact below_alloc w _
 have B1 : Cel W w.heap.size [.int .i64 N, .int .i64 M, .int .i64 k, .int .i64 V, .int .i64 LM, .slice ao xs.length cap, .int .i64 H, .slice qo ys.length dap] 34 := by rw [hW]; exact Cel.new w _ _
 clear hx hy fx fy
 by_cases n0 : N < 0
 ·clear C1 C2 h
  go_enter Tryz.func92, Tryz.ntmps92
  go_wp2
  go_ret2
  rw [← hW]
  exact ⟨rfl, bW⟩
 by_cases n1 : 1048576 < N
 ·clear C1 C2 h
  go_enter Tryz.func92, Tryz.ntmps92
  go_wp2
  go_ret2
  rw [← hW]
  exact ⟨rfl, bW⟩
 by_cases m0 : M < 0
 ·clear C1 C2 h
  go_enter Tryz.func92, Tryz.ntmps92
  go_wp2
  go_ret2
  rw [← hW]
  exact ⟨rfl, bW⟩
 by_cases m1 : N < M
 ·clear C1 C2 h
  go_enter Tryz.func92, Tryz.ntmps92
  go_wp2
  go_ret2
  rw [← hW]
  exact ⟨rfl, bW⟩
 cases hk : ichk k V LM xs with
 | false =>
  rw [hk] at C1
  clear C2 h hk
  go_enter Tryz.func92, Tryz.ntmps92
  go_wp2_with fail
  rw [← hW]
  refine (C1.out _ bW).mono ?_
  rintro e w1 ⟨rfl, hb⟩
  have bw1 := bW.trans (hb.mono bW.size)
  clear hW hb
  go_wp2
  go_ret2
  exact ⟨rfl, bw1⟩
 | true =>
  have hc : chk H ys = false := by
   cases hc : chk H ys with
   | false => rfl
   | true => exact absurd ⟨by omega, hk, hc⟩ h
  rw [hk] at C1
  rw [hc] at C2
  clear h hk hc
  go_enter Tryz.func92, Tryz.ntmps92
  go_wp2_with fail
  rw [← hW]
  refine (C1.out _ bW).mono ?_
  rintro e w1 ⟨rfl, hb⟩
  have bw1 := bW.trans (hb.mono bW.size)
  replace B1 := B1.kept hb
  have q6 := B1.cell 6 rfl
  have q7 := B1.cell 7 rfl
  clear hW hb
  go_wp2_with fail
  refine (C2.out _ bw1).mono ?_
  rintro e w2 ⟨rfl, hb⟩
  have bw2 := bw1.trans (hb.mono bw1.size)
  clear hb
  go_wp2
  go_ret2
  exact ⟨rfl, bw2⟩
end Go.Proofs.YtcaalcjcpddhaaaGreat
namespace Go.Proofs.YtcaalcjcpddhaaaGreat
open Go.RowKit Num Bit
theorem hide9 {p : Prop} (h : p) : Hid p := h
theorem sum9 (DD y p : Nat) (h : p = DD + y) : (DD : Int) + (y : Int) = (p : Int) := by omega
theorem le9 (DD y p : Nat) (h : p = DD + y) (h1 : DD ≤ 1099511627776) (h2 : y < 1048576) : p ≤ 1099512676352 := by omega
set_option maxHeartbeats 8000000 in
theorem row9_main (n mm kn vn hh : Nat) (LM : Int) (ao : Option Addr) (xs : List Nat) (cap : Nat) (qo : Option Addr) (ys : List Nat) (dap : Nat) (w : World) (hx : Wd w ao xs) (fx : Fit xs) (hy : Wd w qo ys) (fy : Fit ys) (hn : n ≤ 1048576) (hmn : mm ≤ n) (ik : ichk (kn : Int) (vn : Int) LM xs = true) (ck : chk (hh : Int) ys = true) :
  Calls Tryz.prog 92 #[.agg #[.int .i64 (n : Nat), .int .i64 (mm : Nat), .int .i64 (kn : Nat), .int .i64 (vn : Nat), .int .i64 LM, .slice ao xs.length cap, .int .i64 (hh : Nat), .slice qo ys.length dap]] w (ROut (fRow ⟨n, mm, kn, vn, LM, xs, hh, ys⟩) w) := by
 obtain ⟨i3, hi3, za3, zb3, zc3⟩ := info_parts info3_9
 obtain ⟨_, _, _, _, _, _, lm1, knl⟩ := ichk_out _ _ _ _ ik
 obtain ⟨_, hhl, _, _⟩ := chk_out _ _ ck
 have C1 : Hid (∀ w0, Below w.heap.size w w0 → Calls Tryz.prog 89 #[.agg #[.int .i64 (kn : Nat), .int .i64 (vn : Nat), .int .i64 LM, .slice ao xs.length cap]] w0 fun e w' => e = .returned (.bool true) ∧ Below w0.heap.size w0 w') := fun w0 hb => by
  have := irefcheck_c kn vn LM ao xs cap w0 (hx.keep hb) fx
  rw [ik] at this
  exact this
 have C2 : Hid (∀ w0, Below w.heap.size w w0 → Calls Tryz.prog 21 #[.agg #[.int .i64 (hh : Nat), .slice qo ys.length dap]] w0 fun e w' => e = .returned (.bool true) ∧ Below w0.heap.size w0 w') := fun w0 hb => by
  have := refcheck_c hh qo ys dap w0 (hy.keep hb) fy
  rw [ck] at this
  exact this
 have C3 : Hid (∀ w0, Calls Tryz.prog 67 #[.int .i64 (n : Nat), .int .i64 (mm : Nat)] w0 fun e w' => e = .returned (.int .i64 (wdF n mm : Nat)) ∧ Below w0.heap.size w0 w') := fun w0 => f9width_c n mm hn hmn w0
 have C4 : Hid (∀ w0, Below w.heap.size w w0 → Calls Tryz.prog 103 #[.agg #[.int .i64 (kn : Nat), .int .i64 (vn : Nat), .int .i64 LM, .slice ao xs.length cap]] w0 fun e w' => ∃ lo' lc, e = .returned (.slice lo' kn lc) ∧ Wd w' lo' ((List.range kn).map (numAt vn xs)) ∧ Below w0.heap.size w0 w') := fun w0 hb => by
  refine (reflist_ok LM kn vn ao xs cap w0 (hx.keep hb) fx ik).mono ?_
  rintro e w' ⟨v, rfl, ho, hb2⟩
  obtain ⟨lo', lc, rfl, _, _⟩ := Ap.owns_shape ho
  exact ⟨lo', lc, rfl, wd_own9 ho, hb2⟩
 have C5 : Hid (∀ w0, Below w.heap.size w w0 → Calls Tryz.prog 39 #[.agg #[.int .i64 (hh : Nat), .slice qo ys.length dap]] w0 fun e w' => ∃ ho' hc, e = .returned (.slice ho' (plc (bitAt ys) hh).length hc) ∧ Nd w' ho' (lz (plc (bitAt ys) hh)) ∧ Below w0.heap.size w0 w') := fun w0 hb => by
  refine (places_c hh qo ys dap w0 (hy.keep hb) ck).mono ?_
  rintro e w' ⟨v, rfl, ho, hb2⟩
  obtain ⟨ho', hc, rfl, _, _⟩ := Ap.owns_shape ho
  exact ⟨ho', hc, rfl, nd_own9 ho, hb2⟩
 have HR : Hid (fRow ⟨n, mm, kn, vn, LM, xs, hh, ys⟩ = if ((plc (bitAt ys) hh).length = mm) ∧ (wdF n mm = 0 ∨ kn = mm) then fdec n (wdF n mm) ((List.range kn).map (numAt vn xs)) (plc (bitAt ys) hh) (plc (bitAt ys) hh).length else none) := by
  show fRow _ = _
  unfold fRow
  simp only [Int.toNat_natCast, List.length_map, List.length_range]
  by_cases c : (plc (bitAt ys) hh).length = mm ∧ (wdF n mm = 0 ∨ kn = mm)
  ·rw [if_pos c, if_pos ⟨⟨by omega, by omega, by omega, by omega⟩, ik, ck, by omega, by omega⟩]
  ·rw [if_neg c, if_neg (fun h => c ⟨by omega, by omega⟩)]
 have RS := plc_rise (bitAt ys) hh
 have w20 : wdF n mm ≤ 20 := wdF_le n mm (by omega)
 have fL : Fit ((List.range kn).map (numAt vn xs)) := by
  obtain ⟨_, v64, _⟩ := ichk_out _ _ _ _ ik
  exact fit_map _ _ fun i => numAt_lt vn (by omega) xs i
 have lL : ((List.range kn).map (numAt vn xs)).length = kn := by simp
 rw [HR.out]
 obtain ⟨OO, hOO⟩ : ∃ OO, Hid (OO = if ((plc (bitAt ys) hh).length = mm) ∧ (wdF n mm = 0 ∨ kn = mm) then fdec n (wdF n mm) ((List.range kn).map (numAt vn xs)) (plc (bitAt ys) hh) (plc (bitAt ys) hh).length else none) := ⟨_, rfl⟩
 rw [← hOO.out]
 obtain ⟨W, hW⟩ : ∃ W, W = w.alloc (.cells #[.int .i64 (n : Nat), .int .i64 (mm : Nat), .int .i64 (kn : Nat), .int .i64 (vn : Nat), .int .i64 LM, .slice ao xs.length cap, .int .i64 (hh : Nat), .slice qo ys.length dap] 34) := ⟨_, rfl⟩
 have bW : Below w.heap.size w W := by rw [hW]; exact below_alloc w _
 have B1 : Cel W w.heap.size [.int .i64 (n : Nat), .int .i64 (mm : Nat), .int .i64 (kn : Nat), .int .i64 (vn : Nat), .int .i64 LM, .slice ao xs.length cap, .int .i64 (hh : Nat), .slice qo ys.length dap] 34 := by rw [hW]; exact Cel.new w _ _
 have i1 : ¬ (n : Int) < 0 := by omega
 have i2 : ¬ (1048576 : Int) < (n : Int) := by omega
 have i4 : ¬ (mm : Int) < 0 := by omega
 have i5 : ¬ (n : Int) < (mm : Int) := by omega
 clear hx hy fx fy ik ck HR
 generalize (List.range kn).map (numAt vn xs) = lo at *
 generalize plc (bitAt ys) hh = hi at *
 generalize wdF n mm = v at *
 go_enter Tryz.func92, Tryz.ntmps92
 go_wp2_with fail
 rw [← hW]
 refine (C1.out _ bW).mono ?_
 rintro e w1 ⟨rfl, hb⟩
 have bw1 := bW.trans (hb.mono bW.size)
 replace B1 := B1.kept hb
 have q0 := B1.cell 0 rfl
 have q1 := B1.cell 1 rfl
 have q2 := B1.cell 2 rfl
 have q3 := B1.cell 3 rfl
 have q4 := B1.cell 4 rfl
 have q5 := B1.cell 5 rfl
 have q6 := B1.cell 6 rfl
 have q7 := B1.cell 7 rfl
 clear hb hW bW C1
 go_wp2_with fail
 refine (C2.out _ bw1).mono ?_
 rintro e w2 ⟨rfl, hb⟩
 have bw2 := bw1.trans (hb.mono bw1.size)
 replace B1 := B1.kept hb
 clear hb bw1 C2 q0 q1 q2 q3 q4 q5 q6 q7
 have q0 := B1.cell 0 rfl
 have q1 := B1.cell 1 rfl
 have q2 := B1.cell 2 rfl
 have q3 := B1.cell 3 rfl
 have q4 := B1.cell 4 rfl
 have q5 := B1.cell 5 rfl
 have q6 := B1.cell 6 rfl
 have q7 := B1.cell 7 rfl
 go_wp2_with fail
 refine (C3.out _).mono ?_
 rintro e w3 ⟨rfl, hb⟩
 have bw3 := bw2.trans (hb.mono bw2.size)
 replace B1 := B1.kept hb
 clear hb bw2 C3 q0 q1 q2 q3 q4 q5 q6 q7
 have q0 := B1.cell 0 rfl
 have q1 := B1.cell 1 rfl
 have q2 := B1.cell 2 rfl
 have q3 := B1.cell 3 rfl
 have q4 := B1.cell 4 rfl
 have q5 := B1.cell 5 rfl
 have q6 := B1.cell 6 rfl
 have q7 := B1.cell 7 rfl
 go_wp2_with fail
 refine (C4.out _ bw3).mono ?_
 rintro e w4 ⟨lo', lc, rfl, hLo, hb⟩
 have bw4 := bw3.trans (hb.mono bw3.size)
 replace B1 := B1.kept hb
 clear hb bw3 C4 q0 q1 q2 q3 q4 q5 q6 q7
 have q0 := B1.cell 0 rfl
 have q1 := B1.cell 1 rfl
 have q2 := B1.cell 2 rfl
 have q3 := B1.cell 3 rfl
 have q4 := B1.cell 4 rfl
 have q5 := B1.cell 5 rfl
 have q6 := B1.cell 6 rfl
 have q7 := B1.cell 7 rfl
 go_wp2_with fail
 refine (C5.out _ bw4).mono ?_
 rintro e w5 ⟨ho', hc, rfl, hHi, hb⟩
 have bw5 := bw4.trans (hb.mono bw4.size)
 replace B1 := B1.kept hb
 replace hLo := hLo.keep hb
 clear hb bw4 C5 q0 q1 q2 q3 q4 q5 q6 q7
 have q1 := B1.cell 1 rfl
 by_cases e1 : hi.length = mm
 ·have e12 : ((hi.length : Int) != (mm : Int)) = false := by simp [e1]
  by_cases e2 : v = 0 ∨ kn = mm
  ·have HO : Hid (OO = fdec n v lo hi hi.length) := by
    show OO = _
    rw [hOO.out, if_pos ⟨e1, e2⟩]
   clear hOO
   have z5 := bw5.size
   subst e1
   have vv : (v : Int) < 64 := by omega
   by_cases hv0 : v = 0
   ·have nv1 : ¬ (0 : Int) < (v : Int) := by omega
    have PV : Hid (∀ q, fpl v lo hi q = gt hi q - q) := fun q => by unfold fpl; rw [hv0]; simp
    go_wp2
    go_loopw [7, 8] (fun t i wr => ∃ (q : Nat) (out : List Nat) (so : Option Addr) (sc : Nat), q ≤ hi.length ∧ i = .int .i64 q ∧ t = .slice so q sc ∧ q ≤ sc ∧ Hid (fdec n v lo hi q = some out) ∧ wr.ownsRow w5.heap.size 3 1 (.slice so q sc) q (lv out) ∧ Below w5.heap.size w5 wr) (fun _ i _ => hi.length - (intOf i).toNat)
    case atStart => exact ⟨0, [], none, 0, Nat.zero_le _, rfl, rfl, Nat.le_refl _, rfl, World.ownsRow_nil _ _ _ _, Below.refl _ _⟩
    case round =>
     obtain ⟨q, out, so, sc, hq, rfl, rfl, hsc, HD, hown, hwr⟩ := hrel
     obtain ⟨lo_, hrise⟩ := fdec_len n v lo hi q out HD.out
     by_cases hlt : q < hi.length
     ·have hlt2 : (q : Int) < (hi.length : Int) := by omega
      obtain ⟨b, off, rfl, hbl, hcel⟩ := hHi (by rw [length_lz]; omega)
      have cq := (hwr.cell (p := ⟨b, off + q, none⟩) hbl).trans (hcel q (by rw [length_lz]; exact hlt))
      rw [gi_lz] at cq
      have hge := RS.step q 0 (by omega)
      rw [Nat.zero_add] at hge
      have hll := RS.1 q hlt
      obtain ⟨d, hd⟩ : ∃ d, Hid (d = gt hi q - q) := ⟨_, rfl⟩
      have hd2 : (gt hi q : Int) - (q : Int) = (d : Int) := by rw [hd.out]; omega
      have dl : d ≤ 1048576 := by rw [hd.out]; omega
      have n0 := (B1.kept hwr).cell 0 rfl
      have PQ := PV.out q
      obtain ⟨p, hp⟩ : ∃ p, Hid (p = fpl v lo hi q) := ⟨_, rfl⟩
      have hpd : p = d := by rw [hp.out, PQ, hd.out]
      have FS : Hid (fdec n v lo hi (q + 1) = if n ≤ p ∨ (0 < q ∧ p ≤ gt out (q - 1)) then none else some (out ++ [p])) := by
       show fdec n v lo hi (q + 1) = _
       rw [fdec, HD.out, hp.out]
      have FN : Hid (fdec n v lo hi (q + 1) = none → OO = none) := fun h => by
       rw [HO.out]
       have := fdec_none n v lo hi (q + 1) h (hi.length - (q + 1))
       rwa [show q + 1 + (hi.length - (q + 1)) = hi.length by omega] at this
      have bwr := bw5.trans (hwr.mono z5)
      subst hpd
      clear hd PQ
      by_cases a1 : n ≤ p
      ·obtain rfl : OO = none := FN.out (by rw [FS.out, if_pos (.inl a1)])
       have a12 : (n : Int) ≤ (p : Int) := by omega
       go_wp2
       go_ret2
       exact (show ROut none w _ _ from ⟨rfl, bwr⟩)
      ·have a12 : ¬ (n : Int) ≤ (p : Int) := by omega
       by_cases a2 : 0 < q
       ·have a22 : (0 : Int) < (q : Int) := by omega
        have nd := nd_own9 hown
        obtain ⟨b2, off2, rfl, hbl2, hcel2⟩ := nd (by rw [length_lz]; omega)
        have co := hcel2 (q - 1) (by rw [length_lz]; omega)
        rw [gi_lz] at co
        have q11 : (q : Int) - 1 = ((q - 1 : Nat) : Int) := by omega
        have q12 : (((q - 1 : Nat) : Nat) : Int) < (q : Int) := by omega
        by_cases a3 : p ≤ gt out (q - 1)
        ·obtain rfl : OO = none := FN.out (by rw [FS.out, if_pos (.inr ⟨a2, a3⟩)])
         have a32 : (p : Int) ≤ (gt out (q - 1) : Int) := by omega
         go_wp2
         go_ret2
         exact (show ROut none w _ _ from ⟨rfl, bwr⟩)
        ·have a32 : ¬ (p : Int) ≤ (gt out (q - 1) : Int) := by omega
         have HD2 : Hid (fdec n v lo hi (q + 1) = some (out ++ [p])) := by
          show fdec n v lo hi (q + 1) = _
          rw [FS.out, if_neg (by omega)]
         have hq5 := hwr.size
         go_wp2_with (at_builtin; refine Ap.wpList_append_x (by rfl) _ _ _ (by rfl) w5.heap.size 3 i3 (.int .i64 0) 8 Tryz.underlying26 hi3 za3 zb3 zc3 rfl (.slice (some ⟨b2, off2, none⟩) q sc) q (lv out) (by rfl) (hown.alloc _) (some ⟨wr.heap.size, 0, none⟩) 1 1 [.int .i64 (p : Nat)] (by rfl) rfl ?c1_11 ?c2_11 ?c3_11 ?c4_11 ?c5_11 ?_)
         case c2_11 => first | rfl | (intro u hu; simp at hu; subst hu; rfl)
         case c3_11 => unfold maxLen; omega
         case c4_11 => omega
         case c5_11 => first | omega | (simp; omega)
         intro so2 sc2 w9 own9 hle9 hB9 hblk9 hkeep9 hsz9
         rw [lv_snoc] at own9
         have hw9 : Below w5.heap.size w5 w9 := (hwr.trans ((below_alloc wr _).mono hwr.size)).trans hB9
         have HX := hide9 own9
         clear own9 hB9 hblk9 hkeep9 hown FS FN HO hcel B1 bwr
         go_wp2
         exact ⟨⟨q + 1, out ++ [p], so2, sc2, by omega, by go_num, rfl, hle9, HD2, HX.out, hw9⟩, by simp only [intOf]; omega⟩
       ·have a22 : ¬ (0 : Int) < (q : Int) := by omega
        have HD2 : Hid (fdec n v lo hi (q + 1) = some (out ++ [p])) := by
         show fdec n v lo hi (q + 1) = _
         rw [FS.out, if_neg (by omega)]
        have hq5 := hwr.size
        go_wp2_with (at_builtin; refine Ap.wpList_append_x (by rfl) _ _ _ (by rfl) w5.heap.size 3 i3 (.int .i64 0) 8 Tryz.underlying26 hi3 za3 zb3 zc3 rfl (.slice so q sc) q (lv out) (by rfl) (hown.alloc _) (some ⟨wr.heap.size, 0, none⟩) 1 1 [.int .i64 (p : Nat)] (by rfl) rfl ?c1_21 ?c2_21 ?c3_21 ?c4_21 ?c5_21 ?_)
        case c2_21 => first | rfl | (intro u hu; simp at hu; subst hu; rfl)
        case c3_21 => unfold maxLen; omega
        case c4_21 => omega
        case c5_21 => first | omega | (simp; omega)
        intro so2 sc2 w9 own9 hle9 hB9 hblk9 hkeep9 hsz9
        rw [lv_snoc] at own9
        have hw9 : Below w5.heap.size w5 w9 := (hwr.trans ((below_alloc wr _).mono hwr.size)).trans hB9
        have HX := hide9 own9
        clear own9 hB9 hblk9 hkeep9 hown FS FN HO hcel B1 bwr
        go_wp2
        exact ⟨⟨q + 1, out ++ [p], so2, sc2, by omega, by go_num, rfl, hle9, HD2, HX.out, hw9⟩, by simp only [intOf]; omega⟩
     ·obtain rfl : q = hi.length := by omega
      have HO2 : OO = some out := HO.out.trans HD.out
      subst HO2
      have nd := nd_own9 hown
      have bwr := bw5.trans (hwr.mono z5)
      go_wp2
      go_ret2
      exact (show ROut (some out) w _ _ from ⟨so, sc, by rw [lo_]; rfl, nd, by omega, bwr⟩)
   ·have nv1 : (0 : Int) < (v : Int) := by omega
    have e4 : ((kn : Int) != (hi.length : Int)) = false := by simp; omega
    have hkn : kn = hi.length := by omega
    have PV : Hid (∀ q, fpl v lo hi q = (gt hi q - q) * 2 ^ v + gt lo q % 2 ^ v) := fun q => by unfold fpl; rw [if_neg hv0]
    go_wp2
    go_loopw [7, 8] (fun t i wr => ∃ (q : Nat) (out : List Nat) (so : Option Addr) (sc : Nat), q ≤ hi.length ∧ i = .int .i64 q ∧ t = .slice so q sc ∧ q ≤ sc ∧ Hid (fdec n v lo hi q = some out) ∧ wr.ownsRow w5.heap.size 3 1 (.slice so q sc) q (lv out) ∧ Below w5.heap.size w5 wr) (fun _ i _ => hi.length - (intOf i).toNat)
    case atStart => exact ⟨0, [], none, 0, Nat.zero_le _, rfl, rfl, Nat.le_refl _, rfl, World.ownsRow_nil _ _ _ _, Below.refl _ _⟩
    case round =>
     obtain ⟨q, out, so, sc, hq, rfl, rfl, hsc, HD, hown, hwr⟩ := hrel
     obtain ⟨lo_, hrise⟩ := fdec_len n v lo hi q out HD.out
     by_cases hlt : q < hi.length
     ·have hlt2 : (q : Int) < (hi.length : Int) := by omega
      obtain ⟨b, off, rfl, hbl, hcel⟩ := hHi (by rw [length_lz]; omega)
      have cq := (hwr.cell (p := ⟨b, off + q, none⟩) hbl).trans (hcel q (by rw [length_lz]; exact hlt))
      rw [gi_lz] at cq
      have hge := RS.step q 0 (by omega)
      rw [Nat.zero_add] at hge
      have hll := RS.1 q hlt
      obtain ⟨d, hd⟩ : ∃ d, Hid (d = gt hi q - q) := ⟨_, rfl⟩
      have hd2 : (gt hi q : Int) - (q : Int) = (d : Int) := by rw [hd.out]; omega
      have dl : d ≤ 1048576 := by rw [hd.out]; omega
      have n0 := (B1.kept hwr).cell 0 rfl
      have PQ := hide9 (PV.out q)
      obtain ⟨p, hp⟩ : ∃ p, Hid (p = fpl v lo hi q) := ⟨_, rfl⟩
      obtain ⟨b3, off3, rfl, hbl3, hcel3⟩ := hLo (by omega)
      have cl := (hwr.cell (p := ⟨b3, off3 + q, none⟩) hbl3).trans (hcel3 q (by omega))
      have xl := fL q
      obtain ⟨x, hx⟩ : ∃ x, Hid (x = gt lo q) := ⟨_, rfl⟩
      rw [← hx.out] at cl xl
      obtain ⟨P2, hP2⟩ : ∃ P2 : Nat, Hid ((2 : Nat) ^ v = P2) := ⟨2 ^ v, (rfl : (2 : Nat) ^ v = 2 ^ v)⟩
      have p20 : P2 ≤ 1048576 := by rw [← hP2.out]; exact Nat.pow_le_pow_right (show 0 < 2 by decide) w20
      have p00 : 0 < P2 := by rw [← hP2.out]; exact Nat.two_pow_pos v
      have pw : IntKind.u64.wrap ((2 : Int) ^ v) = (P2 : Int) := by rw [Bit.shl_one v (by omega), hP2.out]
      have p0 : ((P2 : Int) == 0) = false := by simp; omega
      obtain ⟨y, hy_⟩ : ∃ y, Hid (y = x % P2) := ⟨_, rfl⟩
      have yl : y < 1048576 := by rw [hy_.out]; exact Nat.lt_of_lt_of_le (Nat.mod_lt _ p00) p20
      have ym : (x : Int) % (P2 : Int) = (y : Int) := by rw [hy_.out]; omega
      have yt : (x : Int).tmod (P2 : Int) = (y : Int) := by rw [Int.tmod_eq_emod_of_nonneg (by omega)]; exact ym
      obtain ⟨DD, hDD⟩ : ∃ DD, Hid (DD = d * P2) := ⟨_, rfl⟩
      have dl2 : DD ≤ 1099511627776 := by rw [hDD.out]; exact Nat.le_trans (Nat.mul_le_mul dl p20) (by decide)
      have dw : (d : Int) * 2 ^ v = (DD : Int) := by rw [hDD.out, ← hP2.out, Int.natCast_mul, Int.natCast_pow]; rfl
      have hpn : Hid (p = DD + y) := by
       show p = DD + y
       rw [hDD.out, hy_.out, hp.out, PQ.out, hP2.out, hd.out, hx.out]
      have hps := sum9 DD y p hpn.out
      have pl2 := le9 DD y p hpn.out dl2 yl
      clear hcel3
      have FS : Hid (fdec n v lo hi (q + 1) = if n ≤ p ∨ (0 < q ∧ p ≤ gt out (q - 1)) then none else some (out ++ [p])) := by
       show fdec n v lo hi (q + 1) = _
       rw [fdec, HD.out, hp.out]
      have FN : Hid (fdec n v lo hi (q + 1) = none → OO = none) := fun h => by
       rw [HO.out]
       have := fdec_none n v lo hi (q + 1) h (hi.length - (q + 1))
       rwa [show q + 1 + (hi.length - (q + 1)) = hi.length by omega] at this
      have bwr := bw5.trans (hwr.mono z5)
      clear hd PQ
      by_cases a1 : n ≤ p
      ·obtain rfl : OO = none := FN.out (by rw [FS.out, if_pos (.inl a1)])
       have a12 : (n : Int) ≤ (p : Int) := by omega
       go_wp2
       go_ret2
       exact (show ROut none w _ _ from ⟨rfl, bwr⟩)
      ·have a12 : ¬ (n : Int) ≤ (p : Int) := by omega
       by_cases a2 : 0 < q
       ·have a22 : (0 : Int) < (q : Int) := by omega
        have nd := nd_own9 hown
        obtain ⟨b2, off2, rfl, hbl2, hcel2⟩ := nd (by rw [length_lz]; omega)
        have co := hcel2 (q - 1) (by rw [length_lz]; omega)
        rw [gi_lz] at co
        have q11 : (q : Int) - 1 = ((q - 1 : Nat) : Int) := by omega
        have q12 : (((q - 1 : Nat) : Nat) : Int) < (q : Int) := by omega
        by_cases a3 : p ≤ gt out (q - 1)
        ·obtain rfl : OO = none := FN.out (by rw [FS.out, if_pos (.inr ⟨a2, a3⟩)])
         have a32 : (p : Int) ≤ (gt out (q - 1) : Int) := by omega
         go_wp2
         go_ret2
         exact (show ROut none w _ _ from ⟨rfl, bwr⟩)
        ·have a32 : ¬ (p : Int) ≤ (gt out (q - 1) : Int) := by omega
         have HD2 : Hid (fdec n v lo hi (q + 1) = some (out ++ [p])) := by
          show fdec n v lo hi (q + 1) = _
          rw [FS.out, if_neg (by omega)]
         have hq5 := hwr.size
         go_wp2_with (at_builtin; refine Ap.wpList_append_x (by rfl) _ _ _ (by rfl) w5.heap.size 3 i3 (.int .i64 0) 8 Tryz.underlying26 hi3 za3 zb3 zc3 rfl (.slice (some ⟨b2, off2, none⟩) q sc) q (lv out) (by rfl) (hown.alloc _) (some ⟨wr.heap.size, 0, none⟩) 1 1 [.int .i64 (p : Nat)] (by rfl) rfl ?c1_11v ?c2_11v ?c3_11v ?c4_11v ?c5_11v ?_)
         case c2_11v => first | rfl | (intro u hu; simp at hu; subst hu; rfl)
         case c3_11v => unfold maxLen; omega
         case c4_11v => omega
         case c5_11v => first | omega | (simp; omega)
         intro so2 sc2 w9 own9 hle9 hB9 hblk9 hkeep9 hsz9
         rw [lv_snoc] at own9
         have hw9 : Below w5.heap.size w5 w9 := (hwr.trans ((below_alloc wr _).mono hwr.size)).trans hB9
         have HX := hide9 own9
         clear own9 hB9 hblk9 hkeep9 hown FS FN HO hcel B1 bwr
         go_wp2
         exact ⟨⟨q + 1, out ++ [p], so2, sc2, by omega, by go_num, rfl, hle9, HD2, HX.out, hw9⟩, by simp only [intOf]; omega⟩
       ·have a22 : ¬ (0 : Int) < (q : Int) := by omega
        have HD2 : Hid (fdec n v lo hi (q + 1) = some (out ++ [p])) := by
         show fdec n v lo hi (q + 1) = _
         rw [FS.out, if_neg (by omega)]
        have hq5 := hwr.size
        go_wp2_with (at_builtin; refine Ap.wpList_append_x (by rfl) _ _ _ (by rfl) w5.heap.size 3 i3 (.int .i64 0) 8 Tryz.underlying26 hi3 za3 zb3 zc3 rfl (.slice so q sc) q (lv out) (by rfl) (hown.alloc _) (some ⟨wr.heap.size, 0, none⟩) 1 1 [.int .i64 (p : Nat)] (by rfl) rfl ?c1_21v ?c2_21v ?c3_21v ?c4_21v ?c5_21v ?_)
        case c2_21v => first | rfl | (intro u hu; simp at hu; subst hu; rfl)
        case c3_21v => unfold maxLen; omega
        case c4_21v => omega
        case c5_21v => first | omega | (simp; omega)
        intro so2 sc2 w9 own9 hle9 hB9 hblk9 hkeep9 hsz9
        rw [lv_snoc] at own9
        have hw9 : Below w5.heap.size w5 w9 := (hwr.trans ((below_alloc wr _).mono hwr.size)).trans hB9
        have HX := hide9 own9
        clear own9 hB9 hblk9 hkeep9 hown FS FN HO hcel B1 bwr
        go_wp2
        exact ⟨⟨q + 1, out ++ [p], so2, sc2, by omega, by go_num, rfl, hle9, HD2, HX.out, hw9⟩, by simp only [intOf]; omega⟩
     ·obtain rfl : q = hi.length := by omega
      have HO2 : OO = some out := HO.out.trans HD.out
      subst HO2
      have nd := nd_own9 hown
      have bwr := bw5.trans (hwr.mono z5)
      go_wp2
      go_ret2
      exact (show ROut (some out) w _ _ from ⟨so, sc, by rw [lo_]; rfl, nd, by omega, bwr⟩)
  ·obtain rfl : OO = none := by rw [hOO.out, if_neg (fun c => e2 c.2)]
   have e3 : (0 : Int) < (v : Int) := by omega
   have e4 : ((kn : Int) != (mm : Int)) = true := by simp; omega
   clear hOO
   go_wp2
   go_ret2
   exact (show ROut none w _ _ from ⟨rfl, bw5⟩)
 ·obtain rfl : OO = none := by rw [hOO.out, if_neg (fun c => e1 c.1)]
  have e12 : ((hi.length : Int) != (mm : Int)) = true := by simp; omega
  clear hOO
  go_wp2
  go_ret2
  exact (show ROut none w _ _ from ⟨rfl, bw5⟩)
end Go.Proofs.YtcaalcjcpddhaaaGreat
