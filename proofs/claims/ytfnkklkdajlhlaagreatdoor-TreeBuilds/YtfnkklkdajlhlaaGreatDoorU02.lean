import Derived.Test.YtfnkklkdajlhlaaGreatDoorU01
import Derived.LaidEql
import Derived.Stop.Asserts
import Derived.RowKitTokens
import Derived.Laws.CopyOwn
set_option linter.unusedVariables false
set_option linter.unusedSimpArgs false
set_option maxRecDepth 100000
set_option maxHeartbeats 16000000
namespace Go.Proofs.YtfnkklkdajlhlaaGreatDoor
open Go.RowKit Num Bit
structure PlOut (base:Nat) (w:World) (bo:Option Addr) (X:List Nat) (bc:Nat) (so:Option Addr) (S:List Int) (sc:Nat) (tO:Option Addr) (T:List Int) (tc:Nat):Prop where
 x:Wd w bo X
 xc:X.length≤bc
 s:Nd w so S
 sc:S.length≤sc
 t:Nd w tO T
 tc:T.length≤tc
 sn:Fr base so
 tn:Fr base tO
theorem rbuild_bad(N:Int)(ao:Option Addr)(xs:List Nat)(cap:Nat)(w:World)(hx:Wd w ao xs)(hf:Fit xs)(hk:chk N xs=false):
  Calls Tryz.prog 69 #[.agg #[.int .i64 N,.slice ao xs.length cap]] w fun e w'=>e=.returned (.tuple #[.agg #[.int .i64 0,.slice none 0 0,.slice none 0 0,.slice none 0 0],.int .i64 2])∧Below w.heap.size w w':=by
 obtain⟨W,hW⟩:∃W,W=(w.alloc (.cells #[.int .i64 N,.slice ao xs.length cap] 33)).alloc (.cells #[.int .i64 0,.slice none 0 0,.slice none 0 0,.slice none 0 0] 37):=⟨_,rfl⟩;have bW:=yb2 hW;have B2:=yc2 hW
 have C1:Hid (∀w0,w0=W→Calls Tryz.prog 30 #[.agg #[.int .i64 N,.slice ao xs.length cap]] w0 fun e w'=>e=.returned (.bool false)∧Below w0.heap.size w0 w'):=fun w0 h=>by
  subst h;have:=refcheck_c N ao xs cap w0 (hx.keep bW) hf;rw[hk]at this;exact this
 go_enter Tryz.func69,Tryz.ntmps69;go_wp2_with fail;rw[←hW];refine(C1.out _ rfl).mono ?_;rintro e w1 ⟨rfl,hb⟩;have bw1:=bW.trans (hb.mono bW.size);replace B2:=B2.kept hb;clear hb C1 hW bW W;have y0:=B2.cell 0 rfl
 have y1:=B2.cell 1 rfl;have y2:=B2.cell 2 rfl;have y3:=B2.cell 3 rfl;have f0:=B2.frozen 0;have f1:=B2.frozen 1;have f2:=B2.frozen 2;have f3:=B2.frozen 3
 have hC:=(((B2.set 0 (.int .i64 0)).set 1 (.slice none 0 0)).set 2 (.slice none 0 0)).set 3 (.slice none 0 0)
 have HB:=below_set (below_set (below_set (below_set bw1 (w.heap.size+1) 0 (.int .i64 0) (Nat.le_succ _)) (w.heap.size+1) 1 (.slice none 0 0) (Nat.le_succ _)) (w.heap.size+1) 2 (.slice none 0 0) (Nat.le_succ _)) (w.heap.size+1) 3 (.slice none 0 0) (Nat.le_succ _)
 have k0:=hC.cell 0 rfl;have k1:=hC.cell 1 rfl;have k2:=hC.cell 2 rfl;have k3:=hC.cell 3 rfl;go_wp2
 exact bodyPost_ret (v:=.tuple #[.agg #[.int .i64 0,.slice none 0 0,.slice none 0 0,.slice none 0 0],.int .i64 2]) (by simp[results,Tryz.results69,go_sem,k0,k1,k2,k3]) rfl ⟨rfl,HB⟩
theorem rbuild_c(N:Int)(ao:Option Addr)(xs:List Nat)(cap:Nat)(w:World)(hx:Wd w ao xs)(hf:Fit xs)(hcap:xs.length≤cap):
  Calls Tryz.prog 69 #[.agg #[.int .i64 N,.slice ao xs.length cap]] w fun e w'=>∃bo bc so sc tO tc,e=.returned (.tuple #[.agg #[.int .i64 (pbN N xs),.slice bo (pbX N xs).length bc,.slice so (pbS N xs).length sc,.slice tO (pbT N xs).length tc],.int .i64 (pbE N xs)])∧PlOut w.heap.size w' bo (pbX N xs) bc so (pbS N xs) sc tO (pbT N xs) tc∧Below w.heap.size w w':=by
 unfold pbN pbX pbS pbT pbE;cases hk:chk N xs with
 | false=>
  refine(rbuild_bad N ao xs cap w hx hf hk).mono ?_;rintro e w' ⟨rfl,hb⟩;exact⟨none,0,none,0,none,0,rfl,⟨wd0' _ _,Nat.le_refl _,nd0 _ _,Nat.le_refl _,nd0 _ _,Nat.le_refl _,fr0 _,fr0 _⟩,hb⟩
 | true=>
  refine(rbuild_ok N ao xs cap w hx hf hk).mono ?_;rintro e w' ⟨so,sc,tO,tc,rfl,h1,h2,h3,h4,hb,f1,f2⟩;exact⟨ao,cap,so,sc,tO,tc,rfl,⟨hx.keep hb,hcap,h1,h2,h3,h4,f1,f2⟩,hb⟩
theorem pchk_eq(N:Int)(xs:List Nat)(su sb:List Int)(hk:chk N xs=true):((decide (N=N)&&decide (xs=xs))&&(decide (su=supL N xs)&&decide (sb=subL N xs)))=pchk N xs su sb:=by
 unfold pchk;rw[hk];simp
theorem rcheckp_c(N:Int)(ao:Option Addr)(xs:List Nat)(cap:Nat)(so:Option Addr)(su:List Int)(sc:Nat)(tO:Option Addr)(sb:List Int)(tc:Nat)(w:World)
  (hx:Wd w ao xs) (hf:Fit xs) (hcap:xs.length≤cap) (s1:Nd w so su) (sl:su.length≤1048576) (t1:Nd w tO sb) (tl:sb.length≤1048576):
  Calls Tryz.prog 107 #[.agg #[.int .i64 N,.slice ao xs.length cap,.slice so su.length sc,.slice tO sb.length tc]] w fun e w'=>e=.returned (.bool (pchk N xs su sb))∧Below w.heap.size w w':=by
 obtain⟨W,hW⟩:∃W,W=w.alloc (.cells #[.int .i64 N,.slice ao xs.length cap,.slice so su.length sc,.slice tO sb.length tc] 37):=⟨_,rfl⟩;have bW:=yb1 hW;have B1:=yc1 hW;cases hk:chk N xs with
 | false=>
  have R:Hid (pchk N xs su sb=false):=by show pchk N xs su sb=false;unfold pchk;rw[hk];rfl
  have C1:Hid (∀w0,w0=W→Calls Tryz.prog 69 #[.agg #[.int .i64 N,.slice ao xs.length cap]] w0 fun e w'=>e=.returned (.tuple #[.agg #[.int .i64 0,.slice none 0 0,.slice none 0 0,.slice none 0 0],.int .i64 2])∧Below w0.heap.size w0 w'):=fun w0 h=>by subst h;exact rbuild_bad N ao xs cap w0 (hx.keep bW) hf hk
  go_enter Tryz.func107,Tryz.ntmps107;go_wp2_with fail;rw[←hW];refine(C1.out _ rfl).mono ?_;rintro e w1 ⟨rfl,hb⟩;have bw1:=bW.trans (hb.mono bW.size);go_wp2;go_ret;rw[R.out]
  exact⟨rfl,bw1.alloc (Nat.le_trans (Nat.le_refl _) bw1.size) _⟩
 | true=>
  obtain⟨h0,h1,h2,_⟩:=chk_out N xs hk;have hlx:xs.length≤1048576:=by omega
  have C1:Hid (∀w0,w0=W→Calls Tryz.prog 69 #[.agg #[.int .i64 N,.slice ao xs.length cap]] w0 fun e w'=>∃po pc qo qc,e=.returned (.tuple #[.agg #[.int .i64 N,.slice ao xs.length cap,.slice po (supL N xs).length pc,.slice qo (subL N xs).length qc],.int .i64 0])∧Nd w' po (supL N xs)∧(supL N xs).length≤pc∧Nd w' qo (subL N xs)∧(subL N xs).length≤qc∧Below w0.heap.size w0 w'∧Fr w0.heap.size po∧Fr w0.heap.size qo):=fun w0 h=>by subst h;exact rbuild_ok N ao xs cap w0 (hx.keep bW) hf hk
  clear h2;go_enter Tryz.func107,Tryz.ntmps107;go_wp2_with fail;rw[←hW];refine(C1.out _ rfl).mono ?_;rintro e w1 ⟨po,pc,qo,qc,rfl,n1,n2,n3,n4,hb, -, -⟩;have bw1:=bW.trans (hb.mono bW.size);replace B1:=B1.kept hb
  have hlt:=B1.lt;obtain⟨V,hV⟩:∃V,V=w1.alloc (.cells #[.int .i64 N,.slice ao xs.length cap,.slice po (supL N xs).length pc,.slice qo (subL N xs).length qc] 37):=⟨_,rfl⟩
  have bV:Below w1.heap.size w1 V:=by rw[hV];exact below_alloc w1 _
  have bwV:=bw1.trans (bV.mono bw1.size)
  have C2:Hid (∀w0,w0=V→Calls Tryz.prog 129 #[.agg #[.int .i64 N,.slice ao xs.length cap,.slice so su.length sc,.slice tO sb.length tc],.agg #[.int .i64 N,.slice ao xs.length cap,.slice po (supL N xs).length pc,.slice qo (subL N xs).length qc]] w0 fun e w'=>e=.returned (.bool (pchk N xs su sb))∧Below w0.heap.size w0 w'):=fun w0 h=>by
   subst h;have:=rsame_c N ao xs cap so su sc tO sb tc N ao xs cap po (supL N xs) pc qo (subL N xs) qc w0 (hx.keep bwV) (hx.keep bwV) hlx (s1.keep bwV) (n1.keep bV) sl (t1.keep bwV) (n3.keep bV) tl
   rw[pchk_eq N xs su sb hk]at this;exact this
  have r0:=B1.cell 0 rfl;have r1:=B1.cell 1 rfl;have r2:=B1.cell 2 rfl;have r3:=B1.cell 3 rfl;clear hb C1 hW bW W;go_wp2_with fail;rw[←hV];refine(C2.out _ rfl).mono ?_;rintro e w2 ⟨rfl,hb2⟩
  have bw2:=bwV.trans (hb2.mono bwV.size);go_wp2;go_ret;exact⟨rfl,bw2⟩
def piA(N:Int)(xs:List Nat)(su sb:List Int)(ao:Option Addr):Option Addr:=if pchk N xs su sb then ao else none
def piC(N:Int)(xs:List Nat)(su sb:List Int)(cap:Nat):Nat:=if pchk N xs su sb then cap else 0
theorem pi_wd{w:World}{ao:Option Addr}{xs:List Nat}(N:Int)(su sb:List Int)(hx:Wd w ao xs):Wd w (piA N xs su sb ao) (piX N xs su sb):=by
 unfold piA piX;cases pchk N xs su sb with
 | false=>exact wd0' _ _
 | true=>exact hx
theorem pi_cap(N:Int)(xs:List Nat)(su sb:List Int)(cap:Nat)(h:xs.length≤cap):(piX N xs su sb).length≤piC N xs su sb cap:=by
 unfold piC piX;cases pchk N xs su sb with
 | false=>exact Nat.le_refl _
 | true=>exact h
theorem pi_fit(N:Int)(xs:List Nat)(su sb:List Int)(h:Fit xs):Fit (piX N xs su sb):=by
 unfold piX;cases pchk N xs su sb with
 | false=>intro i;unfold gt;simp
 | true=>exact h
theorem rwhole_c(N:Int)(ao:Option Addr)(xs:List Nat)(cap:Nat)(so:Option Addr)(su:List Int)(sc:Nat)(tO:Option Addr)(sb:List Int)(tc:Nat)(w:World)
  (hx:Wd w ao xs) (hf:Fit xs) (hcap:xs.length≤cap) (s1:Nd w so su) (sl:su.length≤1048576) (t1:Nd w tO sb) (tl:sb.length≤1048576):
  Calls Tryz.prog 57 #[.agg #[.int .i64 N,.slice ao xs.length cap,.slice so su.length sc,.slice tO sb.length tc]] w fun e w'=>e=.returned (.tuple #[.agg #[.int .i64 (piN N xs su sb),.slice (piA N xs su sb ao) (piX N xs su sb).length (piC N xs su sb cap)],.bool (pchk N xs su sb)])∧Below w.heap.size w w':=by
 obtain⟨W,hW⟩:∃W,W=(w.alloc (.cells #[.int .i64 N,.slice ao xs.length cap,.slice so su.length sc,.slice tO sb.length tc] 37)).alloc (.cells #[.int .i64 0,.slice none 0 0] 33):=⟨_,rfl⟩;have bW:=yb2 hW
 have B1:=yc3 hW;have B2:=yc2 hW
 have C1:Hid (∀w0,w0=W→Calls Tryz.prog 107 #[.agg #[.int .i64 N,.slice ao xs.length cap,.slice so su.length sc,.slice tO sb.length tc]] w0 fun e w'=>e=.returned (.bool (pchk N xs su sb))∧Below w0.heap.size w0 w'):=fun w0 h=>by
  subst h;exact rcheckp_c N ao xs cap so su sc tO sb tc w0 (hx.keep bW) hf hcap (s1.keep bW) sl (t1.keep bW) tl
 unfold piN piX piA piC;cases hk:pchk N xs su sb with
 | false=>
  rw[hk]at C1;go_enter Tryz.func57,Tryz.ntmps57;go_wp2_with fail;rw[←hW];refine(C1.out _ rfl).mono ?_;rintro e w1 ⟨rfl,hb⟩;have bw1:=bW.trans (hb.mono bW.size);replace B2:=B2.kept hb;have y0:=B2.cell 0 rfl
  have y1:=B2.cell 1 rfl;have f0:=B2.frozen 0;have f1:=B2.frozen 1;have hC:=(B2.set 0 (.int .i64 0)).set 1 (.slice none 0 0)
  have HB:=below_set (below_set bw1 (w.heap.size+1) 0 (.int .i64 0) (Nat.le_succ _)) (w.heap.size+1) 1 (.slice none 0 0) (Nat.le_succ _);have k0:=hC.cell 0 rfl;have k1:=hC.cell 1 rfl;go_wp2
  exact bodyPost_ret (v:=.tuple #[.agg #[.int .i64 0,.slice none 0 0],.bool false]) (by simp[results,Tryz.results57,go_sem,k0,k1]) rfl ⟨rfl,HB⟩
 | true=>
  rw[hk]at C1;go_enter Tryz.func57,Tryz.ntmps57;go_wp2_with fail;rw[←hW];refine(C1.out _ rfl).mono ?_;rintro e w1 ⟨rfl,hb⟩;have bw1:=bW.trans (hb.mono bW.size);replace B2:=B2.kept hb;replace B1:=B1.kept hb
  have r0:=B1.cell 0 rfl;have r1:=B1.cell 1 rfl;have y0:=B2.cell 0 rfl;have y1:=B2.cell 1 rfl;have f0:=B2.frozen 0;have f1:=B2.frozen 1;have hC:=(B2.set 0 (.int .i64 N)).set 1 (.slice ao xs.length cap)
  have HB:=below_set (below_set bw1 (w.heap.size+1) 0 (.int .i64 N) (Nat.le_succ _)) (w.heap.size+1) 1 (.slice ao xs.length cap) (Nat.le_succ _);have k0:=hC.cell 0 rfl;have k1:=hC.cell 1 rfl;go_wp2
  exact bodyPost_ret (v:=.tuple #[.agg #[.int .i64 N,.slice ao xs.length cap],.bool true]) (by simp[results,Tryz.results57,go_sem,k0,k1]) rfl ⟨rfl,HB⟩
theorem rsize_c(N:Int)(ao:Option Addr)(xs:List Nat)(cap:Nat)(so:Option Addr)(su:List Int)(sc:Nat)(tO:Option Addr)(sb:List Int)(tc:Nat)(w:World)
  (hx:Wd w ao xs) (hf:Fit xs) (hcap:xs.length≤cap) (s1:Nd w so su) (sl:su.length≤1048576) (t1:Nd w tO sb) (tl:sb.length≤1048576):
  Calls Tryz.prog 77 #[.agg #[.int .i64 N,.slice ao xs.length cap,.slice so su.length sc,.slice tO sb.length tc]] w fun e w'=>e=.returned (.int .i64 (pzN N xs su sb))∧Below w.heap.size w w':=by
 obtain⟨W,hW⟩:∃W,W=w.alloc (.cells #[.int .i64 N,.slice ao xs.length cap,.slice so su.length sc,.slice tO sb.length tc] 37):=⟨_,rfl⟩;have bW:=yb1 hW;have B1:=yc1 hW
 have C1:Hid (∀w0,w0=W→Calls Tryz.prog 107 #[.agg #[.int .i64 N,.slice ao xs.length cap,.slice so su.length sc,.slice tO sb.length tc]] w0 fun e w'=>e=.returned (.bool (pchk N xs su sb))∧Below w0.heap.size w0 w'):=fun w0 h=>by
  subst h;exact rcheckp_c N ao xs cap so su sc tO sb tc w0 (hx.keep bW) hf hcap (s1.keep bW) sl (t1.keep bW) tl
 unfold pzN;cases hk:pchk N xs su sb with
 | false=>
  rw[hk]at C1;go_enter Tryz.func77,Tryz.ntmps77;go_wp2_with fail;rw[←hW];refine(C1.out _ rfl).mono ?_;rintro e w1 ⟨rfl,hb⟩;have bw1:=bW.trans (hb.mono bW.size);go_wp2;go_ret;exact⟨rfl,bw1⟩
 | true=>
  obtain⟨h1, -, -⟩:=pchk_out N xs su sb hk;obtain⟨h2,h3, -, -⟩:=chk_out N xs h1;rw[hk]at C1;go_enter Tryz.func77,Tryz.ntmps77;go_wp2_with fail;rw[←hW];refine(C1.out _ rfl).mono ?_;rintro e w1 ⟨rfl,hb⟩
  have bw1:=bW.trans (hb.mono bW.size);replace B1:=B1.kept hb;have r0:=B1.cell 0 rfl;have r1:=B1.cell 1 rfl;have r2:=B1.cell 2 rfl;have r3:=B1.cell 3 rfl;go_wp2;go_ret;exact⟨rfl,bw1⟩
structure PlIn (w:World) (N:Int) (ao:Option Addr) (xs:List Nat) (cap:Nat) (so:Option Addr) (su:List Int) (sc:Nat) (tO:Option Addr) (sb:List Int) (tc:Nat):Prop where
 n: -9223372036854775808≤N∧N≤9223372036854775807
 x:Wd w ao xs
 f:Fit xs
 c:xs.length≤cap
 l:xs.length≤1048576
 s:Nd w so su
 sf:FitI su
 sc:su.length≤sc
 sl:su.length≤1048576
 t:Nd w tO sb
 tf:FitI sb
 tc:sb.length≤tc
 tl:sb.length≤1048576
theorem PlIn.keep{w w':World}{N:Int}{ao:Option Addr}{xs:List Nat}{cap:Nat}{so:Option Addr}{su:List Int}{sc:Nat}{tO:Option Addr}{sb:List Int}{tc:Nat}(h:PlIn w N ao xs cap so su sc tO sb tc)(hb:Below w.heap.size w w'):PlIn w' N ao xs cap so su sc tO sb tc:=
 ⟨h.n,h.x.keep hb,h.f,h.c,h.l,h.s.keep hb,h.sf,h.sc,h.sl,h.t.keep hb,h.tf,h.tc,h.tl⟩
structure PlArg (w:World) (N:Int) (ao:Option Addr) (xs:List Nat) (cap:Nat) (so:Option Addr) (su:List Int) (sc:Nat) (tO:Option Addr) (sb:List Int) (tc:Nat):Prop where
 n: -9223372036854775808≤N∧N≤9223372036854775807
 x:Wd w ao xs
 f:Fit xs
 c:xs.length≤cap
 s:Nd w so su
 sf:FitI su
 sc:su.length≤sc
 t:Nd w tO sb
 tf:FitI sb
 tc:sb.length≤tc
theorem PlArg.plin{w:World}{N:Int}{ao:Option Addr}{xs:List Nat}{cap:Nat}{so:Option Addr}{su:List Int}{sc:Nat}{tO:Option Addr}{sb:List Int}{tc:Nat}(h:PlArg w N ao xs cap so su sc tO sb tc)(h1:xs.length≤1048576)(h2:su.length≤1048576)(h3:sb.length≤1048576):PlIn w N ao xs cap so su sc tO sb tc:=
 ⟨h.n,h.x,h.f,h.c,h1,h.s,h.sf,h.sc,h2,h.t,h.tf,h.tc,h3⟩
theorem fit_sup(N:Int)(xs:List Nat):FitI (supL N xs):=by
 intro i;by_cases c:i<(supL N xs).length
 ·unfold supL at c⊢;rw[length_supP]at c;rw[gi_supP _ _ _ _ c];have:=supI_bound N xs i;omega
 ·unfold gi;rw[List.getD_eq_getElem?_getD,List.getElem?_eq_none (by omega)];decide
theorem fit_sub(N:Int)(xs:List Nat):FitI (subL N xs):=by
 intro i;by_cases c:i<(subL N xs).length
 ·unfold subL at c⊢;rw[length_subP]at c;rw[gi_subP _ _ _ _ c];have:=subI_bound N xs i;omega
 ·unfold gi;rw[List.getD_eq_getElem?_getD,List.getElem?_eq_none (by omega)];decide
theorem PlOut.plin{base:Nat}{w:World}{bo:Option Addr}{bc:Nat}{so:Option Addr}{sc:Nat}{tO:Option Addr}{tc:Nat}(N:Int)(xs:List Nat)(hn: -9223372036854775808≤N∧N≤9223372036854775807)(hf:Fit xs)(hl:xs.length≤1048576)(h:PlOut base w bo (pbX N xs) bc so (pbS N xs) sc tO (pbT N xs) tc):
  PlIn w (pbN N xs) bo (pbX N xs) bc so (pbS N xs) sc tO (pbT N xs) tc:=by
 have e1: -9223372036854775808≤pbN N xs∧pbN N xs≤9223372036854775807:=by unfold pbN;split<;>omega
 have e2:Fit (pbX N xs):=by
  unfold pbX;split
  ·exact hf
  ·intro i;unfold gt;simp
 have e3:(pbX N xs).length≤1048576:=by
  unfold pbX;split
  ·exact hl
  ·simp
 have e4:FitI (pbS N xs):=by
  unfold pbS;split
  ·exact fit_sup N xs
  ·intro i;unfold gi;simp
 have e5:(pbS N xs).length≤1048576:=by
  unfold pbS;split
  ·rename_i hk;obtain⟨h0,h1,_,_⟩:=chk_out N xs hk;rw[length_supL];omega
  ·simp
 have e6:FitI (pbT N xs):=by
  unfold pbT;split
  ·exact fit_sub N xs
  ·intro i;unfold gi;simp
 have e7:(pbT N xs).length≤1048576:=by
  unfold pbT;split
  ·rw[length_subL];omega
  ·simp
 exact⟨e1,h.x,e2,h.xc,e3,h.s,e4,h.sc,e5,h.t,e6,h.tc,e7⟩
end Go.Proofs.YtfnkklkdajlhlaaGreatDoor
namespace Go.Proofs.YtfnkklkdajlhlaaGreatDoor
open Go.RowKit Go.Extern.Stop Go.Stop Go.Extern
def ET(w:World):Prop:=w.cell? ⟨0,0,none⟩=some (.iface 256 (.agg #[.pointer (some ⟨1,223,none⟩)]))
end Go.Proofs.YtfnkklkdajlhlaaGreatDoor
namespace Go.Proofs.YtfnkklkdajlhlaaGreatDoor
open Num
namespace Bit
def cp(xs:List Nat)(n:Nat):List Nat:=xs.take n++List.replicate (n-xs.length) 0
def putL(ys:List Nat)(p x:Nat):List Nat:=
 let a:=if x*2^(p%64)%18446744073709551616=0 then ys else ys.set (p/64) (gt ys (p/64)|||x*2^(p%64)%18446744073709551616)
 if x/2^(64-p%64)=0 then a else a.set (p/64+1) (gt a (p/64+1)|||x/2^(64-p%64))
theorem length_putL(ys:List Nat)(p x:Nat):(putL ys p x).length=ys.length:=by
 unfold putL;simp only;split<;>split<;>simp
def Room(ys:List Nat)(p x:Nat):Prop:=(x*2^(p%64)%18446744073709551616≠0→p/64<ys.length)∧(x/2^(64-p%64)≠0→p/64+1<ys.length)
theorem gt_putL(ys:List Nat)(p x:Nat)(h:Room ys p x)(j:Nat):
  gt (putL ys p x) j=gt ys j|||(if j=p/64 then x*2^(p%64)%18446744073709551616 else if j=p/64+1 then x/2^(64-p%64)else 0):=by
 obtain⟨h1,h2⟩:=h;unfold putL;simp only;by_cases c1:x*2^(p%64)%18446744073709551616=0
 ·rw[if_pos c1];by_cases c2:x/2^(64-p%64)=0
  ·rw[if_pos c2,c1,c2];split<;>(try split)<;>simp
  ·rw[if_neg c2,gt_set _ _ _ _ (h2 c2),c1];by_cases e:j=p/64
   ·rw[if_pos e,if_neg (by omega)];simp
   ·rw[if_neg e];by_cases e2:j=p/64+1
    ·rw[if_pos e2,if_pos e2.symm,e2]
    ·rw[if_neg e2,if_neg (fun q=>e2 q.symm)];simp
 ·rw[if_neg c1];have hl:=h1 c1;by_cases c2:x/2^(64-p%64)=0
  ·rw[if_pos c2,gt_set _ _ _ _ hl,c2];by_cases e:j=p/64
   ·rw[if_pos e,if_pos e.symm,e]
   ·rw[if_neg e,if_neg (fun q=>e q.symm)];split<;>simp
  ·rw[if_neg c2,gt_set _ _ _ _ (by rw[List.length_set];exact h2 c2),gt_set _ _ _ _ hl,gt_set _ _ _ _ hl];by_cases e:j=p/64
   ·rw[if_pos e,if_neg (by omega),if_pos e.symm,e]
   ·rw[if_neg e,if_neg (show ¬p/64=j from fun q=>e q.symm),if_neg (show ¬p/64=p/64+1 by omega)];by_cases e2:j=p/64+1
    ·rw[if_pos e2,if_pos e2.symm,e2]
    ·rw[if_neg e2,if_neg (fun q=>e2 q.symm)];simp
theorem fit_putL(ys:List Nat)(hf:Fit ys)(p x:Nat)(hx:x<18446744073709551616)(h:Room ys p x):Fit (putL ys p x):=by
 intro j;rw[gt_putL ys p x h j];refine or_lt _ _ (hf j) ?_;split
 ·exact Nat.mod_lt _ (by decide)
 ·split
  ·exact Nat.lt_of_le_of_lt (Nat.div_le_self _ _) hx
  ·decide
theorem bitAt_putL(ys:List Nat)(p x:Nat)(hx:x<18446744073709551616)(h:Room ys p x)(i:Nat):bitAt (putL ys p x) i=(bitAt ys i||(decide (p≤i)&&x.testBit (i-p))):=by
 unfold bitAt;rw[gt_putL ys p x h,Nat.testBit_or];congr 1;have hm:i%64<64:=Nat.mod_lt _ (by decide);by_cases e:i/64=p/64
 ·rw[if_pos e,test_shl _ _ _ hm];by_cases c:p≤i
  ·rw[show decide (p%64≤i%64)=true by simp;omega,show decide (p≤i)=true by simpa using c,show i%64-p%64=i-p by omega]
  ·rw[show decide (p%64≤i%64)=false by simp;omega,show decide (p≤i)=false by simpa using c];rfl
 ·rw[if_neg e];by_cases e2:i/64=p/64+1
  ·rw[if_pos e2,test_shr,show decide (p≤i)=true by simp;omega,show 64-p%64+i%64=i-p by omega];rfl
  ·rw[if_neg e2,Nat.zero_testBit];by_cases c:p≤i
   ·rw[test_big x _ hx (by omega)];simp
   ·simp[c]
theorem room_of(ys:List Nat)(p x m:Nat)(hx:x<2^m)(hm:m≤64)(hl:p+m≤64*ys.length):Room ys p x:=by
 have hp:0<2^(64-p%64):=Nat.pow_pos (by decide);constructor
 ·intro h;by_cases c:m=0
  ·subst c;have:x=0:=by simpa using hx
   subst this;simp at h
  ·omega
 ·intro h;by_cases c:m≤64-p%64
  ·have:x<2^(64-p%64):=Nat.lt_of_lt_of_le hx (Nat.pow_le_pow_right (by decide) c);exact absurd (Nat.div_eq_of_lt this) h
  ·omega
end Bit
namespace Bit
theorem len_fit(x m:Nat):Go.bitLen x≤m↔x<2^m:=by
 constructor
 ·intro h;by_cases hx:x=0
  ·subst hx;exact Nat.two_pow_pos m
  ·refine Nat.lt_of_not_le fun hc=>?_
   have h1:¬x<2^Go.bitLen x:=fun h2=>by
    have:=Nat.pow_le_pow_right (n:=2) (by decide) h;omega
   have key:∀d,x<2^(Go.bitLen x+d)→False:=by
    intro d;induction d with
    | zero=>exact h1
    | succ d ih=>
     intro h2;by_cases hb:x/2^(Go.bitLen x+d)%2=1
     ·have:=len_eq x (Go.bitLen x+d) h2 hb;omega
     ·exact ih (len_down x _ h2 hb)
   refine key x ?_;exact Nat.lt_of_lt_of_le (Nat.lt_two_pow_self (n:=x)) (Nat.pow_le_pow_right (by decide) (by omega))
 ·exact len_le x m
theorem lenI_fit(x m:Nat):lenI (x:Int)≤(m:Int)↔x<2^m:=by
 unfold lenI;rw[Int.toNat_natCast,←len_fit];omega
def ichk(N W M:Int)(xs:List Nat):Bool:=decide (1≤W∧W≤64∧0≤N∧N*W=M)&&chk M xs
theorem ichk_out(N W M:Int)(xs:List Nat)(h:ichk N W M xs=true):1≤W∧W≤64∧0≤N∧N*W=M∧chk M xs=true∧0≤M∧M≤1048576∧N≤M:=by
 unfold ichk at h;rw[Bool.and_eq_true,decide_eq_true_eq]at h;obtain⟨⟨a,b,c,d⟩,e⟩:=h;obtain⟨f,g,_,_⟩:=chk_out M xs e;refine⟨a,b,c,d,e,f,g,?_⟩;have:=Int.mul_le_mul_of_nonneg_left a c;omega
def numAt(W:Nat)(xs:List Nat)(i:Nat):Nat:=numOf W (fun k=>bitAt xs (i*W+k))
def igE(N W M:Int)(xs:List Nat)(i:Int):Int:=if ichk N W M xs=false then 2 else if i<0∨N≤i then 3 else 0
def igX(N W M:Int)(xs:List Nat)(i:Int):Nat:=if igE N W M xs i=0 then numAt W.toNat xs i.toNat else 0
def imE(W:Int)(l:List Nat):Int:=if W<1∨64<W∨1048576<(l.length:Int)*W∨¬(∀j,j<l.length→lenI (gt l j)≤W)then 2 else 0
def imN(W:Int)(l:List Nat):Int:=if imE W l=0 then (l.length:Int)else 0
def imW(W:Int)(l:List Nat):Int:=if imE W l=0 then W else 0
def imM(W:Int)(l:List Nat):Int:=if imE W l=0 then (l.length:Int)*W else 0
def mkS(l:List Nat)(W k:Nat):List Nat:=rowOf (l.length*W) (fun j=>decide (j<k*W)&&(gt l (j/W)).testBit (j%W))
def imL(W:Int)(l:List Nat):List Nat:=if imE W l=0 then mkS l W.toNat l.length else []
theorem igE_zero(N W M:Int)(xs:List Nat)(i:Int)(hE:igE N W M xs i=0):ichk N W M xs=true∧0≤i∧i<N:=by
 unfold igE at hE;cases h:ichk N W M xs with
 | false=>rw[if_pos h]at hE;omega
 | true=>
  rw[if_neg (by simp[h])]at hE;by_cases c:i<0∨N≤i
  ·rw[if_pos c]at hE;omega
  ·exact⟨rfl,by omega,by omega⟩
theorem igE_of(N W M:Int)(xs:List Nat)(i:Int)(hk:ichk N W M xs=true)(h0:0≤i)(h1:i<N):igE N W M xs i=0:=by
 unfold igE;rw[if_neg (by simp[hk]),if_neg (by omega)]
theorem get_place(N W M i:Int)(a1:1≤W)(a2:W≤64)(a3:0≤N)(a4:N*W=M)(a7:M≤1048576)(i0:0≤i)(i1:i<N):0≤i*W∧i*W+W≤M∧i*W≤M-W∧i*W≤1048576:=by
 have h1:=Int.mul_nonneg i0 (show 0≤W by omega);have h2:=Int.mul_le_mul_of_nonneg_right (show i+1≤N by omega) (show 0≤W by omega);rw[Int.add_mul,Int.one_mul]at h2;omega
theorem get_slice(N W M:Int)(xs:List Nat)(i:Int)(hk:ichk N W M xs=true)(i0:0≤i)(i1:i<N):slcX M xs (i*W) W=igX N W M xs i∧slcE M xs (i*W) W=igE N W M xs i:=by
 obtain⟨a1,a2,a3,a4,a5,a6,a7,a8⟩:=ichk_out N W M xs hk;obtain⟨q1,q2,q3,q4⟩:=get_place N W M i a1 a2 a3 a4 a7 i0 i1;have e:=igE_of N W M xs i hk i0 i1
 have e2:slcE M xs (i*W) W=0:=by
  unfold slcE;rw[if_neg (by simp[a5];omega),if_neg (by omega)]
 refine⟨?_,by rw[e,e2]⟩;unfold slcX igX numAt;rw[if_pos e,if_pos e2,Int.toNat_mul i0 (by omega)]
/-! What lay makes of the words. -/
theorem test_not(m r:Nat)(hm:m<18446744073709551616)(hr:r<64):(18446744073709551615-m).testBit r=!m.testBit r:=by
 have h:=Nat.testBit_two_pow_sub_succ (n:=64) (x:=m) (by rw[show(2:Nat)^64=18446744073709551616 from rfl];exact hm) r
 rw[show(2:Nat)^64-(m+1)=18446744073709551615-m by rw[show(2:Nat)^64=18446744073709551616 from rfl];omega]at h;rw[h];simp[hr]
def lay1(ys:List Nat)(p W v:Nat):List Nat:=ys.set (p/64) ((gt ys (p/64)&&&(18446744073709551615-(2^W-1)*2^(p%64)%18446744073709551616))|||v*2^(p%64)%18446744073709551616)
def layL(ys:List Nat)(p W v:Nat):List Nat:=
 if 64-p%64<W then (lay1 ys p W v).set (p/64+1) ((gt ys (p/64+1)&&&(18446744073709551615-(2^W-1)/2^(64-p%64)))|||v/2^(64-p%64))else lay1 ys p W v
theorem length_lay1(ys:List Nat)(p W v:Nat):(lay1 ys p W v).length=ys.length:=by simp[lay1]
theorem length_layL(ys:List Nat)(p W v:Nat):(layL ys p W v).length=ys.length:=by
 unfold layL;split<;>simp[lay1]
theorem bitAt_layL(ys:List Nat)(p W v:Nat)(hW:1≤W)(hW2:W≤64)(hv:v<2^W)(hl:p+W≤64*ys.length)(i:Nat):
  bitAt (layL ys p W v) i=if p≤i∧i<p+W then v.testBit (i-p)else bitAt ys i:=by
 have hp:p/64<ys.length:=by omega
 have hm:(2:Nat)^W-1<18446744073709551616:=by
  have:=Nat.pow_le_pow_right (n:=2) (j:=64) (by decide) hW2;rw[show(2:Nat)^64=18446744073709551616 from rfl]at this;omega
 have hv0:∀j,W≤j→v.testBit j=false:=fun j hj=>Nat.testBit_lt_two_pow (Nat.lt_of_lt_of_le hv (Nat.pow_le_pow_right (by decide) hj))
 have first:∀r,r<64→((gt ys (p/64)&&&(18446744073709551615-(2^W-1)*2^(p%64)%18446744073709551616))|||v*2^(p%64)%18446744073709551616).testBit r=if p%64≤r∧r<p%64+W then v.testBit (r-p%64)else (gt ys (p/64)).testBit r:=by
  intro r hr;rw[Nat.testBit_or,Nat.testBit_and,test_not _ _ (Nat.mod_lt _ (by decide)) hr,test_shl _ _ _ hr,test_shl _ _ _ hr,Nat.testBit_two_pow_sub_one];by_cases c:p%64≤r
  ·by_cases c2:r<p%64+W
   ·rw[if_pos ⟨c,c2⟩];simp[c,show r-p%64<W by omega]
   ·rw[if_neg (by omega),hv0 (r-p%64) (by omega)];simp[show ¬r-p%64<W by omega]
  ·rw[if_neg (by omega)];simp[c]
 have second:∀r,r<64→((gt ys (p/64+1)&&&(18446744073709551615-(2^W-1)/2^(64-p%64)))|||v/2^(64-p%64)).testBit r=if r+(64-p%64)<W then v.testBit (r+(64-p%64))else (gt ys (p/64+1)).testBit r:=by
  intro r hr;rw[Nat.testBit_or,Nat.testBit_and,test_not _ _ (Nat.lt_of_le_of_lt (Nat.div_le_self _ _) hm) hr,test_shr,test_shr,Nat.testBit_two_pow_sub_one];by_cases c:r+(64-p%64)<W
  ·rw[if_pos c,Nat.add_comm r (64-p%64)];simp[show 64-p%64+r<W by omega]
  ·rw[if_neg c,hv0 (64-p%64+r) (by omega)];simp[show ¬64-p%64+r<W by omega]
 have at1:∀zs:List Nat,(∀j,j≠p/64→gt zs j=gt ys j)→gt zs (p/64)=((gt ys (p/64)&&&(18446744073709551615-(2^W-1)*2^(p%64)%18446744073709551616))|||v*2^(p%64)%18446744073709551616)→(p%64+W≤64∨i/64≠p/64+1)→bitAt zs i=if p≤i∧i<p+W then v.testBit (i-p)else bitAt ys i:=by
  intro zs h1 h2 h3;unfold bitAt;by_cases e:i/64=p/64
  ·rw[e,h2,first _ (by omega)];by_cases c:p≤i∧i<p+W
   ·rw[if_pos (by omega),if_pos c];congr 1;omega
   ·rw[if_neg (by omega),if_neg c]
  ·rw[h1 _ e,if_neg (by omega)]
 have g1:∀j,gt (lay1 ys p W v) j=if p/64=j then ((gt ys (p/64)&&&(18446744073709551615-(2^W-1)*2^(p%64)%18446744073709551616))|||v*2^(p%64)%18446744073709551616)else gt ys j:=fun j=>gt_set ys _ _ _ hp
 unfold layL;by_cases c:64-p%64<W
 ·rw[if_pos c];have hp1:p/64+1<ys.length:=by omega
  have g2:∀j,gt ((lay1 ys p W v).set (p/64+1) ((gt ys (p/64+1)&&&(18446744073709551615-(2^W-1)/2^(64-p%64)))|||v/2^(64-p%64))) j=if p/64+1=j then ((gt ys (p/64+1)&&&(18446744073709551615-(2^W-1)/2^(64-p%64)))|||v/2^(64-p%64))else gt (lay1 ys p W v) j:=fun j=>gt_set _ _ _ _ (by rw[length_lay1];exact hp1)
  by_cases e:i/64=p/64+1
  ·unfold bitAt;rw[g2,if_pos e.symm,second _ (by omega)];by_cases d:p≤i∧i<p+W
   ·rw[if_pos (by omega),if_pos d];congr 1;omega
   ·rw[if_neg (by omega),if_neg d,e]
  ·refine Eq.trans ?_ (at1 (lay1 ys p W v) (fun j hj=>by rw[g1,if_neg (by omega)]) (by rw[g1,if_pos rfl]) (.inr e));unfold bitAt;rw[g2,if_neg (by omega)]
 ·rw[if_neg c];exact at1 (lay1 ys p W v) (fun j hj=>by rw[g1,if_neg (by omega)]) (by rw[g1,if_pos rfl]) (.inl (by omega))
theorem fit_layL(ys:List Nat)(hf:Fit ys)(p W v:Nat)(hv:v<18446744073709551616):Fit (layL ys p W v):=by
 have h1:Fit (lay1 ys p W v):=fit_set ys hf _ _ (or_lt _ _ (Nat.lt_of_le_of_lt Nat.and_le_left (hf _)) (Nat.mod_lt _ (by decide)));unfold layL;split
 ·exact fit_set _ h1 _ _ (or_lt _ _ (Nat.lt_of_le_of_lt Nat.and_le_left (hf _)) (Nat.lt_of_le_of_lt (Nat.div_le_self _ _) hv))
 ·exact h1
theorem length_mkS(l:List Nat)(W k:Nat):(mkS l W k).length=(l.length*W+63)/64:=length_rowOf _ _
theorem fit_mkS(l:List Nat)(W k:Nat):Fit (mkS l W k):=fit_rowOf _ _
theorem mkS_zero(l:List Nat)(W:Nat):rowOf (l.length*W) (fun _=>false)=mkS l W 0:=rowOf_congr _ _ _ fun i _=>by simp
theorem mul_next(n W k:Nat)(h:k<n):k*W+W≤n*W:=by
 have:=Nat.mul_le_mul_right W (show k+1≤n by omega);rw[Nat.add_mul,Nat.one_mul]at this;exact this
theorem mkS_step(l:List Nat)(W k:Nat)(hW:1≤W)(hW2:W≤64)(hk:k<l.length)(hv:gt l k<2^W)(hv2:gt l k<18446744073709551616):layL (mkS l W k) (k*W) W (gt l k)=mkS l W (k+1):=by
 have hn:=mul_next l.length W k hk;refine eq_rowOf _ _ _ (fit_layL _ (fit_mkS _ _ _) _ _ _ hv2) (by rw[length_layL,length_mkS]) fun i _=>?_;rw[bitAt_layL _ _ _ _ hW hW2 hv (by rw[length_mkS];omega) i];unfold mkS
 rw[bitAt_rowOf,Nat.add_mul,Nat.one_mul];by_cases c:k*W≤i∧i<k*W+W
 ·rw[if_pos c]
  have e1:i/W=k:=by
   rw[Nat.div_eq_iff (by omega)];rw[Nat.mul_comm]at c;constructor<;>(try rw[Nat.mul_comm])<;>omega
  have e2:i%W=i-k*W:=by
   have:=Nat.div_add_mod i W;rw[e1,Nat.mul_comm]at this;omega
  rw[e1,e2];simp[c.2,show i<l.length*W by omega]
 ·rw[if_neg c];by_cases d:i<k*W
  ·simp[d,show i<k*W+W by omega]
  ·simp[d,show ¬i<k*W+W by omega]
end Bit
end Go.Proofs.YtfnkklkdajlhlaaGreatDoor
namespace Go.Proofs.YtfnkklkdajlhlaaGreatDoor
open Go.RowKit Num Bit
theorem wide_ok(W:Int)(h0:1≤W)(h1:W≤64)(w:World):
  Calls Tryz.prog 205 #[.int .i64 W] w fun e w'=>e=.returned .nilIface∧w'=w:=by
 go_enter Tryz.func205,Tryz.ntmps205;go_wp2;go_ret;exact⟨rfl,rfl⟩
theorem wide_bad(W:Int)(h:W<1∨64<W)(w:World):
  Calls Tryz.prog 205 #[.int .i64 W] w fun e w'=>(∃s,e=.returned (.iface 238 (.agg #[.int .i64 2,.string s])))∧w'=w:=by
 rcases h with h | h
 ·go_enter Tryz.func205,Tryz.ntmps205;go_wp2;go_ret;exact⟨⟨_,rfl⟩,rfl⟩
 ·have h':¬W<1:=by omega
  go_enter Tryz.func205,Tryz.ntmps205;go_wp2;go_ret;exact⟨⟨_,rfl⟩,rfl⟩
theorem narrow_ok(v W:Int)(h0:0≤v)(h1:v<18446744073709551616)(h:lenI v≤W)(w:World):
  Calls Tryz.prog 206 #[.int .u64 v,.int .i64 W] w fun e w'=>e=.returned .nilIface∧w'=w:=by
 go_enter Tryz.func206,Tryz.ntmps206;go_wp2_with (go_at_call 196;refine(len_c _ ?_ ?_ _).mono ?_;exact h0;exact h1;rintro e w' ⟨rfl,rfl⟩);go_ret;exact⟨rfl,rfl⟩
def Box4(w:World)(b:Nat)(p q r s:Value):Prop:=b<w.heap.size∧w.cell? ⟨b,0,none⟩=some p∧w.cell? ⟨b,1,none⟩=some q∧w.cell? ⟨b,2,none⟩=some r∧w.cell? ⟨b,3,none⟩=some s
theorem Box4.keep{w w':World}{b:Nat}{p q r s:Value}(h:Box4 w b p q r s)(hb:Below w.heap.size w w'):Box4 w' b p q r s:=
 ⟨Nat.lt_of_lt_of_le h.1 hb.size,(hb.cell (p:=⟨b,0,none⟩) h.1).trans h.2.1,(hb.cell (p:=⟨b,1,none⟩) h.1).trans h.2.2.1,(hb.cell (p:=⟨b,2,none⟩) h.1).trans h.2.2.2.1,(hb.cell (p:=⟨b,3,none⟩) h.1).trans h.2.2.2.2⟩
theorem Box4.new{w w':World}{p q r s:Value}{T:TypeId}(hb:Below (w.alloc (.cells #[p,q,r,s] T)).heap.size (w.alloc (.cells #[p,q,r,s] T)) w'):Box4 w' w.heap.size p q r s∧Below w.heap.size w w':=by
 have hz:(w.alloc (.cells #[p,q,r,s] T)).heap.size=w.heap.size+1:=by simp
 refine⟨⟨?_,?_,?_,?_,?_⟩,?_⟩
 ·have:=hb.size;omega
 ·rw[hb.cell (p:=⟨w.heap.size,0,none⟩) (by simp)];simp
 ·rw[hb.cell (p:=⟨w.heap.size,1,none⟩) (by simp)];simp
 ·rw[hb.cell (p:=⟨w.heap.size,2,none⟩) (by simp)];simp
 ·rw[hb.cell (p:=⟨w.heap.size,3,none⟩) (by simp)];simp
 ·exact(below_alloc w _).trans (hb.mono (by omega))
theorem mayBe_ok(N W M:Int)(ao:Option Addr)(xs:List Nat)(cap:Nat)(w:World)(hx:Wd w ao xs)(hk:ichk N W M xs=true):
  Calls Tryz.prog 200 #[.agg #[.int .i64 N,.int .i64 W,.int .i64 M,.slice ao xs.length cap]] w fun e w'=>e=.returned .nilIface∧Below w.heap.size w w':=by
 have K:∀o,Wd (w.alloc o) ao xs:=fun o=>hx.keep (below_alloc w o);obtain⟨a1,a2,a3,a4,a5,a6,a7,a8⟩:=ichk_out N W M xs hk;have d1:(N*W != M)=false:=by simpa using a4
 have hm:0≤N*W:=by omega
 have hm2:N*W≤1048576:=by omega
 clear a4 hk;go_enter Tryz.func200,Tryz.ntmps200
 go_wp2_with (first | (go_at_call 205;refine(wide_ok _ ?_ ?_ _).mono ?_;exact a1;exact a2;rintro e w' ⟨rfl,rfl⟩) | (go_at_call 92;refine(check_c _ _ _ _ _ (K _)).mono ?_;rintro e w' ⟨rfl,hb⟩;have KK:=Box4.new hb;clear hb;obtain⟨⟨hz,c0,c1,c2,c3⟩,hw⟩:=KK))
 go_ret;exact⟨rfl,by assumption⟩
theorem mayBe_bad(N W M:Int)(ao:Option Addr)(xs:List Nat)(cap:Nat)(w:World)(hx:Wd w ao xs)(hk:ichk N W M xs=false):
  Calls Tryz.prog 200 #[.agg #[.int .i64 N,.int .i64 W,.int .i64 M,.slice ao xs.length cap]] w fun e w'=>(∃s,e=.returned (.iface 238 (.agg #[.int .i64 2,.string s])))∧Below w.heap.size w w':=by
 have K:∀o,Wd (w.alloc o) ao xs:=fun o=>hx.keep (below_alloc w o);by_cases c:W<1∨64<W
 ·clear hk;go_enter Tryz.func200,Tryz.ntmps200;go_wp2_with (go_at_call 205;refine(wide_bad _ ?_ _).mono ?_;exact c;rintro e w' ⟨⟨s,rfl⟩,rfl⟩);go_ret;exact⟨⟨_,rfl⟩,below_alloc w _⟩
 have a1:1≤W:=by omega
 have a2:W≤64:=by omega
 clear c;cases hc:chk M xs with
 | false=>
  clear hk;go_enter Tryz.func200,Tryz.ntmps200
  go_wp2_with (first | (go_at_call 205;refine(wide_ok _ ?_ ?_ _).mono ?_;exact a1;exact a2;rintro e w' ⟨rfl,rfl⟩) | (go_at_call 92;refine(check_c _ _ _ _ _ (K _)).mono ?_;rintro e w' ⟨rfl,hb⟩;have KK:=Box4.new hb;clear hb;obtain⟨⟨hz,c0,c1,c2,c3⟩,hw⟩:=KK))
  go_ret;exact⟨⟨_,rfl⟩,by assumption⟩
 | true=>
  obtain⟨m0,m1,_,_⟩:=chk_out M xs hc;by_cases n0:N<0
  ·clear hk;go_enter Tryz.func200,Tryz.ntmps200
   go_wp2_with (first | (go_at_call 205;refine(wide_ok _ ?_ ?_ _).mono ?_;exact a1;exact a2;rintro e w' ⟨rfl,rfl⟩) | (go_at_call 92;refine(check_c _ _ _ _ _ (K _)).mono ?_;rintro e w' ⟨rfl,hb⟩;have KK:=Box4.new hb;clear hb;obtain⟨⟨hz,c0,c1,c2,c3⟩,hw⟩:=KK))
   go_ret;exact⟨⟨_,rfl⟩,by assumption⟩
  have n0':0≤N:=by omega
  by_cases n1:M<N
  ·clear hk n0;go_enter Tryz.func200,Tryz.ntmps200
   go_wp2_with (first | (go_at_call 205;refine(wide_ok _ ?_ ?_ _).mono ?_;exact a1;exact a2;rintro e w' ⟨rfl,rfl⟩) | (go_at_call 92;refine(check_c _ _ _ _ _ (K _)).mono ?_;rintro e w' ⟨rfl,hb⟩;have KK:=Box4.new hb;clear hb;obtain⟨⟨hz,c0,c1,c2,c3⟩,hw⟩:=KK))
   go_ret;exact⟨⟨_,rfl⟩,by assumption⟩
  have n2:¬N*W=M:=fun e=>by unfold ichk at hk;rw[hc,show decide (1≤W∧W≤64∧0≤N∧N*W=M)=true by simp;omega]at hk;cases hk
  have n3:(N*W != M)=true:=by simpa using n2
  have b1:0≤N*W:=Int.mul_nonneg n0' (by omega);have b2:N*W≤1048576*64:=Int.mul_le_mul (by omega) a2 (by omega) (by omega);clear hk n0 n2;go_enter Tryz.func200,Tryz.ntmps200
  go_wp2_with (first | (go_at_call 205;refine(wide_ok _ ?_ ?_ _).mono ?_;exact a1;exact a2;rintro e w' ⟨rfl,rfl⟩) | (go_at_call 92;refine(check_c _ _ _ _ _ (K _)).mono ?_;rintro e w' ⟨rfl,hb⟩;have KK:=Box4.new hb;clear hb;obtain⟨⟨hz,c0,c1,c2,c3⟩,hw⟩:=KK))
  go_ret;exact⟨⟨_,rfl⟩,by assumption⟩
theorem icheck_c(N W M:Int)(ao:Option Addr)(xs:List Nat)(cap:Nat)(w:World)(hx:Wd w ao xs):
  Calls Tryz.prog 187 #[.agg #[.int .i64 N,.int .i64 W,.int .i64 M,.slice ao xs.length cap]] w fun e w'=>e=.returned (.bool (ichk N W M xs))∧Below w.heap.size w w':=by
 have K:∀o,Wd (w.alloc o) ao xs:=fun o=>hx.keep (below_alloc w o);cases hk:ichk N W M xs with
 | true=>
  go_enter Tryz.func187,Tryz.ntmps187;go_wp2_with (go_at_call 200;refine(mayBe_ok _ _ _ _ _ _ _ (K _) hk).mono ?_;rintro e w' ⟨rfl,hb⟩;have KK:=Box4.new hb;clear hb;obtain⟨⟨hz,c0,c1,c2,c3⟩,hw⟩:=KK);go_ret
  exact⟨rfl,by assumption⟩
 | false=>
  go_enter Tryz.func187,Tryz.ntmps187;go_wp2_with (go_at_call 200;refine(mayBe_bad _ _ _ _ _ _ _ (K _) hk).mono ?_;rintro e w' ⟨⟨s,rfl⟩,hb⟩;have KK:=Box4.new hb;clear hb;obtain⟨⟨hz,c0,c1,c2,c3⟩,hw⟩:=KK);go_ret
  exact⟨rfl,by assumption⟩
theorem place_ok(N W M:Int)(ao:Option Addr)(xs:List Nat)(cap:Nat)(i:Int)(w:World)(hx:Wd w ao xs)(hE:igE N W M xs i=0):
  Calls Tryz.prog 201 #[.agg #[.int .i64 N,.int .i64 W,.int .i64 M,.slice ao xs.length cap],.int .i64 i] w fun e w'=>e=.returned .nilIface∧Below w.heap.size w w':=by
 have K:∀o,Wd (w.alloc o) ao xs:=fun o=>hx.keep (below_alloc w o);obtain⟨hk,i0,i1⟩:=igE_zero N W M xs i hE;clear hE;go_enter Tryz.func201,Tryz.ntmps201
 go_wp2_with (go_at_call 200;refine(mayBe_ok _ _ _ _ _ _ _ (K _) hk).mono ?_;rintro e w' ⟨rfl,hb⟩;have KK:=Box4.new hb;clear hb;obtain⟨⟨hz,c0,c1,c2,c3⟩,hw⟩:=KK);go_ret;exact⟨rfl,by assumption⟩
theorem iget_ok(N W M:Int)(ao:Option Addr)(xs:List Nat)(cap:Nat)(i:Int)(w:World)(hx:Wd w ao xs)(hf:Fit xs)(hE:igE N W M xs i=0):
  Calls Tryz.prog 188 #[.agg #[.int .i64 N,.int .i64 W,.int .i64 M,.slice ao xs.length cap],.int .i64 i] w fun e w'=>e=.returned (.tuple #[.int .u64 (igX N W M xs i),.int .i64 (igE N W M xs i)])∧Below w.heap.size w w':=by
 have K:∀o,Wd (w.alloc o) ao xs:=fun o=>hx.keep (below_alloc w o);obtain⟨hk,i0,i1⟩:=igE_zero N W M xs i hE;obtain⟨a1,a2,a3,a4,a5,a6,a7,a8⟩:=ichk_out N W M xs hk
 obtain⟨q1,q2,q3,q4⟩:=get_place N W M i a1 a2 a3 a4 a7 i0 i1;have R:Hid (slcX M xs (i*W) W=igX N W M xs i∧slcE M xs (i*W) W=igE N W M xs i):=get_slice N W M xs i hk i0 i1;clear a4 q3
 go_enter Tryz.func188,Tryz.ntmps188;go_wp2_with fail;refine(place_ok _ _ _ _ _ _ _ _ (K _) hE).mono ?_;rintro e w1 ⟨rfl,hb⟩;have KK:=Box4.new hb;clear hb K;obtain⟨⟨hz,c0,c1,c2,c3⟩,hw⟩:=KK;go_wp2_with fail
 refine(slice_c _ _ _ _ _ _ _ (hx.keep hw) hf (by omega) (by omega) (by omega) (by omega)).mono ?_;rintro e w2 ⟨rfl,hb⟩;have hw2:=hw.trans (hb.mono hw.size);clear hb;go_wp2;go_ret2
 exact⟨ret_pair (congrArg (Value.int IntKind.u64) (congrArg Int.ofNat R.out.1)) (congrArg (Value.int IntKind.i64) R.out.2),hw2⟩
theorem reffits_c(v W:Int)(h0:0≤v)(h1:v<18446744073709551616)(w:World):
  Calls Tryz.prog 180 #[.int .u64 v,.int .i64 W] w fun e w'=>e=.returned (.bool (decide (lenI v≤W)))∧w'=w:=by
 go_enter Tryz.func180,Tryz.ntmps180;go_wp2_with (go_at_call 179;refine(reflen_c _ ?_ ?_ _).mono ?_;exact h0;exact h1;rintro e w' ⟨rfl,rfl⟩);go_ret;exact⟨rfl,rfl⟩
theorem irefcheck_c(N W M:Int)(ao:Option Addr)(xs:List Nat)(cap:Nat)(w:World)(hx:Wd w ao xs)(hf:Fit xs):
  Calls Tryz.prog 108 #[.agg #[.int .i64 N,.int .i64 W,.int .i64 M,.slice ao xs.length cap]] w fun e w'=>e=.returned (.bool (ichk N W M xs))∧Below w.heap.size w w':=by
 have K:∀o,Wd (w.alloc o) ao xs:=fun o=>hx.keep (below_alloc w o);by_cases a1:1≤W
 case neg=>
  have d1:decide (1≤W)=false:=by simpa using a1
  have R:Hid (false=ichk N W M xs):=by unfold Hid ichk;rw[show decide (1≤W∧W≤64∧0≤N∧N*W=M)=false by simp;omega];rfl
  go_enter Tryz.func108,Tryz.ntmps108;go_wp2;go_ret;exact⟨ret_bool R.out,below_alloc w _⟩
 by_cases a2:W≤64
 case neg=>
  have d2:decide (W≤64)=false:=by simpa using a2
  have R:Hid (false=ichk N W M xs):=by unfold Hid ichk;rw[show decide (1≤W∧W≤64∧0≤N∧N*W=M)=false by simp;omega];rfl
  go_enter Tryz.func108,Tryz.ntmps108;go_wp2;go_ret;exact⟨ret_bool R.out,below_alloc w _⟩
 by_cases a3:0≤N
 case neg=>
  have d3:decide (0≤N)=false:=by simpa using a3
  have R:Hid (false=ichk N W M xs):=by unfold Hid ichk;rw[show decide (1≤W∧W≤64∧0≤N∧N*W=M)=false by simp;omega];rfl
  go_enter Tryz.func108,Tryz.ntmps108;go_wp2;go_ret;exact⟨ret_bool R.out,below_alloc w _⟩
 by_cases a4:N≤1048576
 case neg=>
  have d4:decide (N≤1048576)=false:=by simpa using a4
  have R:Hid (false=ichk N W M xs):=by
   unfold Hid;cases h:ichk N W M xs with
   | false=>rfl
   | true=>obtain⟨_,_,_,_,_,_,b7,b8⟩:=ichk_out N W M xs h;omega
  go_enter Tryz.func108,Tryz.ntmps108;go_wp2;go_ret;exact⟨ret_bool R.out,below_alloc w _⟩
 have b1:0≤N*W:=Int.mul_nonneg a3 (by omega);have b2:N*W≤1048576*64:=Int.mul_le_mul a4 a2 (by omega) (by omega);cases hc:chk M xs with
 | false=>
  have R:Hid (false=ichk N W M xs):=by unfold Hid ichk;rw[hc,Bool.and_false]
  go_enter Tryz.func108,Tryz.ntmps108;go_wp2_with (go_at_call 30;refine(refcheck_c _ _ _ _ _ (K _) hf).mono ?_;rintro e w' ⟨rfl,hb⟩;have KK:=Box4.new hb;clear hb;obtain⟨⟨hz,c0,c1,c2,c3⟩,hw⟩:=KK);go_ret
  exact⟨ret_bool R.out,by assumption⟩
 | true=>
  have R:Hid ((M==N*W)=ichk N W M xs):=by
   unfold Hid ichk;rw[hc,Bool.and_true,Bool.eq_iff_iff,beq_iff_eq,decide_eq_true_eq];omega
  go_enter Tryz.func108,Tryz.ntmps108;go_wp2_with (go_at_call 30;refine(refcheck_c _ _ _ _ _ (K _) hf).mono ?_;rintro e w' ⟨rfl,hb⟩;have KK:=Box4.new hb;clear hb;obtain⟨⟨hz,c0,c1,c2,c3⟩,hw⟩:=KK);go_ret
  exact⟨ret_bool R.out,by assumption⟩
theorem irefget_c(N W M:Int)(ao:Option Addr)(xs:List Nat)(cap:Nat)(i:Int)(w:World)(hx:Wd w ao xs)(hf:Fit xs):
  Calls Tryz.prog 197 #[.agg #[.int .i64 N,.int .i64 W,.int .i64 M,.slice ao xs.length cap],.int .i64 i] w fun e w'=>e=.returned (.tuple #[.int .u64 (igX N W M xs i),.int .i64 (igE N W M xs i)])∧Below w.heap.size w w':=by
 have K:∀o,Wd (w.alloc o) ao xs:=fun o=>hx.keep (below_alloc w o);by_cases hE:igE N W M xs i=0
 ·obtain⟨hk,i0,i1⟩:=igE_zero N W M xs i hE;obtain⟨a1,a2,a3,a4,a5,a6,a7,a8⟩:=ichk_out N W M xs hk;obtain⟨q1,q2,q3,q4⟩:=get_place N W M i a1 a2 a3 a4 a7 i0 i1
  have R:Hid (slcX M xs (i*W) W=igX N W M xs i∧slcE M xs (i*W) W=igE N W M xs i):=get_slice N W M xs i hk i0 i1;clear a4 q3 hE;go_enter Tryz.func197,Tryz.ntmps197;go_wp2_with fail
  refine(irefcheck_c _ _ _ _ _ _ _ (K _) hf).mono ?_;rintro e w1 ⟨rfl,hb⟩;have KK:=Box4.new hb;clear hb K;obtain⟨⟨hz,c0,c1,c2,c3⟩,hw⟩:=KK;go_wp2_with fail
  refine(refslice_c _ _ _ _ _ _ _ (hx.keep hw) hf (by omega) (by omega) (by omega) (by omega)).mono ?_;rintro e w2 ⟨rfl,hb⟩;have hw2:=hw.trans (hb.mono hw.size);clear hb;go_wp2;go_ret2
  exact⟨ret_pair (congrArg (Value.int IntKind.u64) (congrArg Int.ofNat R.out.1)) (congrArg (Value.int IntKind.i64) R.out.2),hw2⟩
 ·have R:Hid (0=((igX N W M xs i:Nat):Int)):=by unfold igX Hid;rw[if_neg hE];rfl
  cases hk:ichk N W M xs with
  | false=>
   have RE:Hid (2=igE N W M xs i):=by unfold igE Hid;rw[if_pos hk]
   clear hE;go_enter Tryz.func197,Tryz.ntmps197;go_wp2_with (go_at_call 108;refine(irefcheck_c _ _ _ _ _ _ _ (K _) hf).mono ?_;rintro e w' ⟨rfl,hb⟩;have KK:=Box4.new hb;clear hb;obtain⟨⟨hz,c0,c1,c2,c3⟩,hw⟩:=KK)
   go_ret2;exact⟨ret_pair (congrArg (Value.int IntKind.u64) R.out) (congrArg (Value.int IntKind.i64) RE.out),by assumption⟩
  | true=>
   have hc:i<0∨N≤i:=by
    unfold igE at hE;rw[if_neg (by simp[hk])]at hE;by_cases h:i<0∨N≤i
    ·exact h
    ·rw[if_neg h]at hE;exact absurd rfl hE
   have RE:Hid (3=igE N W M xs i):=by unfold igE Hid;rw[if_neg (by simp[hk]),if_pos hc]
   clear hE;by_cases i0:i<0
   ·clear hc;go_enter Tryz.func197,Tryz.ntmps197
    go_wp2_with (go_at_call 108;refine(irefcheck_c _ _ _ _ _ _ _ (K _) hf).mono ?_;rintro e w' ⟨rfl,hb⟩;have KK:=Box4.new hb;clear hb;obtain⟨⟨hz,c0,c1,c2,c3⟩,hw⟩:=KK);go_ret2
    exact⟨ret_pair (congrArg (Value.int IntKind.u64) R.out) (congrArg (Value.int IntKind.i64) RE.out),by assumption⟩
   ·have i1:N≤i:=by omega
    clear hc;go_enter Tryz.func197,Tryz.ntmps197
    go_wp2_with (go_at_call 108;refine(irefcheck_c _ _ _ _ _ _ _ (K _) hf).mono ?_;rintro e w' ⟨rfl,hb⟩;have KK:=Box4.new hb;clear hb;obtain⟨⟨hz,c0,c1,c2,c3⟩,hw⟩:=KK);go_ret2
    exact⟨ret_pair (congrArg (Value.int IntKind.u64) R.out) (congrArg (Value.int IntKind.i64) RE.out),by assumption⟩
theorem Tryz.info110:(Tryz.prog.info? 110).map (fun i=>(i.zero,i.size,i.bytes))=some (some (.int .u64 0),1,8):=by kernel_rfl
def wv(ys:List Nat):List Value:=ys.map fun y=>Value.int .u64 (y:Nat)
def Own(w:World)(g:Nat)(ys:List Nat):Prop:=w.heap[g]?=some (.cells (wv ys).toArray 110 (0,0))
theorem own_made{w:World}{base g n:Nat}(h:w.ownsRow base 110 1 (.slice (some ⟨g,0,none⟩) n n) n (madeCells #[.int .u64 0] n).toList):w.heap[g]?=some (.cells (wv (List.replicate n 0)).toArray 110 (0,0)):=by
 obtain⟨_,h | ⟨g',cap,cur,e,_,hh,_,_,hs,ht⟩⟩:=h
 ·simp at h
 ·simp only[Value.slice.injEq,Option.some.injEq,Addr.mk.injEq]at e;obtain⟨⟨rfl,_,_⟩,_,rfl⟩:=e;rw[hh]
  have e2:(madeCells #[.int .u64 0] n).toList=wv (List.replicate n 0):=by
   rw[toList_madeCells_one (.int .u64 0) n,wv,List.map_replicate];rfl
  rw[e2]at ht;have e3:cur.toList.take (n*1)=cur.toList:=List.take_of_length_le (by simp;omega);rw[e3]at ht;rw[←ht]
theorem Own.set_other{w:World}{g:Nat}{ys:List Nat}(h:Own w g ys){a:Addr}(ha:g≠a.block)(v:Value):Own (w.setCell a v) g ys:=
 (Below.heap_setCell w a v g ha).trans h
theorem size_set(w:World)(a:Addr)(v:Value):(w.setCell a v).heap.size=w.heap.size:=by simp[World.setCell]
structure Turned (g:Nat) (w w':World):Prop where
 os:w'.os=w.os
 tape:w'.tape=w.tape
 output:w'.output=w.output
 size:w'.heap.size=w.heap.size
 block:∀k,k≠g→w'.heap[k]?=w.heap[k]?
theorem Turned.refl(g:Nat)(w:World):Turned g w w:=⟨rfl,rfl,rfl,rfl,fun _ _=>rfl⟩
theorem Turned.set{g:Nat}{a w:World}(h:Turned g a w)(off:Nat)(v:Value):Turned g a (w.setCell ⟨g,off,none⟩ v):=
 ⟨h.os,h.tape,h.output,(size_set _ _ _).trans h.size,fun k hk=>(Below.heap_setCell _ _ _ _ hk).trans (h.block k hk)⟩
theorem Turned.cell{g:Nat}{w w':World}(h:Turned g w w'){p:Addr}(hp:p.block≠g):w'.cell? p=w.cell? p:=World.cell?_of_block (w:=w) (h.block p.block hp)
theorem Turned.frozen{g:Nat}{w w':World}(h:Turned g w w'){p:Addr}(hp:p.block≠g):w'.frozen? p=w.frozen? p:=World.frozen?_of_block (w:=w) (h.block p.block hp)
theorem Turned.below{g B:Nat}{w w':World}(h:Turned g w w')(hB:B≤g):Below B w w':=
 ⟨h.os,h.tape,h.output,by rw[h.size];exact Nat.le_refl _,fun k hk=>h.block k (by omega)⟩
theorem length_wv(ys:List Nat):(wv ys).length=ys.length:=by simp[wv]
theorem Own.cell{w:World}{g:Nat}{ys:List Nat}(h:Own w g ys)(j:Nat)(hj:j<ys.length):w.cell? ⟨g,j,none⟩=some (.int .u64 (gt ys j)):=by
 unfold World.cell?;rw[show w.heap[({ block:=g,off:=j,spot:=none }:Addr).block]?=_ from h];show(wv ys).toArray[j]?=_;rw[List.getElem?_toArray,wv,List.getElem?_map,gt_get ys j hj];rfl
theorem Own.frozen{w:World}{g:Nat}{ys:List Nat}(h:Own w g ys)(j:Nat):w.frozen? ⟨g,j,none⟩=false:=by
 unfold World.frozen?;rw[show w.heap[({ block:=g,off:=j,spot:=none }:Addr).block]?=_ from h];simp
theorem Own.lt{w:World}{g:Nat}{ys:List Nat}(h:Own w g ys):g<w.heap.size:=(Array.getElem?_eq_some_iff.1 h).1
theorem Own.set{w:World}{g:Nat}{ys:List Nat}(h:Own w g ys)(j v:Nat):Own (w.setCell ⟨g,j,none⟩ (.int .u64 v)) g (ys.set j v):=by
 unfold Own at *;simp only[World.setCell,Array.getElem?_modify];rw[if_pos trivial,h];simp[wv,List.map_set]
theorem Own.wd{w:World}{g:Nat}{ys:List Nat}(h:Own w g ys):Wd w (some ⟨g,0,none⟩) ys:=
 fun _=>⟨g,0,rfl,h.lt,fun i hi=>by rw[Nat.zero_add];exact h.cell i hi⟩
theorem Own.keep{w w':World}{g:Nat}{ys:List Nat}(h:Own w g ys)(hb:Below w.heap.size w w'):Own w' g ys:=(hb.block g h.lt).trans h
theorem bne0(a:Nat):((a:Int) != 0)=decide (a≠0):=by
 rw[Bool.eq_iff_iff,bne_iff_ne,decide_eq_true_eq];omega
theorem box_frozen{w w':World}{a b:Value}{T:TypeId}(hb:Below (w.alloc (.cells #[a,b] T)).heap.size (w.alloc (.cells #[a,b] T)) w'):
  w'.frozen? ⟨w.heap.size,0,none⟩=false∧w'.frozen? ⟨w.heap.size,1,none⟩=false:=by
 refine⟨?_,?_⟩
 ·rw[hb.frozen (p:=⟨w.heap.size,0,none⟩) (by simp)];simp
 ·rw[hb.frozen (p:=⟨w.heap.size,1,none⟩) (by simp)];simp
theorem new_ok(n:Int)(k:Nat)(w:World)(h0:0≤n)(h1:n≤1048576)(hk:(n+63)/64=(k:Int)):
  Calls Tryz.prog 104 #[.int .i64 n] w fun e w'=>∃g,e=.returned (.tuple #[.agg #[.int .i64 n,.slice (some ⟨g,0,none⟩) k k],.int .i64 0])∧w.heap.size≤g∧g<w'.heap.size∧Own w' g (List.replicate k 0)∧Below w.heap.size w w':=by
 obtain⟨i0,hi,hz0,hz1,hz2⟩:=info_parts Tryz.info110;have hk2:k≤1048576:=by omega
 go_enter Tryz.func104,Tryz.ntmps104
 go_wp2_with (first | (go_at_call 151;refine(need_c _ ?_ ?_ _).mono ?_;(omega);(omega);rintro e w' ⟨rfl,rfl⟩) | (at_make;refine wpList_make_full _ rfl _ _ 31 rfl (w.heap.size+1) 110 i0 (.int .u64 0) 1 Tryz.underlying31 hi hz0 hz1 .i64 .i64 _ _ k rfl rfl rfl rfl ?b2 ?b3 ?b4 ?_))
 case b2=>rw[hz2];omega
 case b3=>unfold maxLen;omega
 case b4=>simp
 intro w1 hown hgr;have hb1:Below (w.alloc (.cells #[.int .i64 0,.slice none 0 0] 33)).heap.size (w.alloc (.cells #[.int .i64 0,.slice none 0 0] 33)) w1:=(Below.refl _ _).grown hgr (Nat.le_refl _) (fun k h=>by cases h)
 have hO:Own w1 (w.heap.size+1) (List.replicate k 0):=own_made hown;obtain⟨k0,k1,hz,hw⟩:=box_cells hb1;obtain⟨k2,k3⟩:=box_frozen hb1;have hlt:=hO.lt;clear hown hgr hi hz0 hz1 hz2 hb1;go_wp2
 refine bodyPost_ret (v:=.tuple #[.agg #[.int .i64 n,.slice (some ⟨w.heap.size+1,0,none⟩) k k],.int .i64 0]) (by simp[results,Tryz.results104,go_sem,k0,k1]) rfl ⟨w.heap.size+1,rfl,by omega,?_,?_,?_⟩
 ·rw[size_set,size_set];exact hlt
 ·exact(hO.set_other (by simp) _).set_other (by simp) _
 ·exact(hw.setCell (by simp) _).setCell (by simp) _
def Out(w w':World)(ao:Option Addr)(ys:List Nat)(cap:Nat):Prop:=Wd w' ao ys∧Fit ys∧ys.length≤cap∧Below w.heap.size w w'
theorem rep_row(n k:Nat)(hk:k=(n+63)/64):List.replicate k 0=rowOf n (fun _=>false):=by
 refine eq_rowOf n _ _ ?_ (by simp;exact hk) ?_
 ·intro i;unfold gt;rw[List.getD_eq_getElem?_getD,List.getElem?_replicate];split<;>simp
 ·intro i _;unfold bitAt gt;rw[List.getD_eq_getElem?_getD,List.getElem?_replicate];split<;>simp
end Go.Proofs.YtfnkklkdajlhlaaGreatDoor
namespace Go.Proofs.YtfnkklkdajlhlaaGreatDoor
open Num
namespace Bit
end Bit
end Go.Proofs.YtfnkklkdajlhlaaGreatDoor
namespace Go.Proofs.YtfnkklkdajlhlaaGreatDoor
open Go.RowKit Num Bit
def bt(l:List Bool)(i:Nat):Bool:=l.getD i false
def Bl(w:World)(ao:Option Addr)(l:List Bool):Prop:=
 0<l.length→∃b off,ao=some ⟨b,off,none⟩∧b<w.heap.size∧∀i,i<l.length→w.cell? ⟨b,off+i,none⟩=some (.bool (bt l i))
def fromS(l:List Bool)(q:Nat):List Nat:=rowOf l.length (fun j=>decide (j<q)&&bt l j)
theorem length_fromS(l:List Bool)(q:Nat):(fromS l q).length=(l.length+63)/64:=length_rowOf _ _
theorem fit_fromS(l:List Bool)(q:Nat):Fit (fromS l q):=fit_rowOf _ _
theorem from_step(l:List Bool)(q:Nat)(hq:q<l.length)(hl:l.length≤1048576)(hb:bt l q=true):(fromS l q).set (q/64) (gt (fromS l q) (q/64)|||2^(q%64))=fromS l (q+1):=by
 have e:=set_row_true l.length (fromS l q) (fit_rowOf _ _) (chk_rowOf _ _ hl) q (by omega);rw[e,Int.toNat_natCast];refine rowOf_congr _ _ _ fun i hi=>?_;unfold fromS;rw[bitAt_rowOf];by_cases c:i=q
 ·subst c;simp[hb]
 ·rw[if_neg c];by_cases c2:i<q
  ·simp[hi,c2,show i<q+1 by omega]
  ·simp[c2,show ¬i<q+1 by omega]
theorem from_skip(l:List Bool)(q:Nat)(hb:bt l q=false):fromS l q=fromS l (q+1):=by
 refine rowOf_congr _ _ _ fun i _=>?_;by_cases c:i=q
 ·subst c;simp[hb]
 ·by_cases c2:i<q
  ·simp[c2,show i<q+1 by omega]
  ·simp[c2,show ¬i<q+1 by omega]
theorem from_ok(ao:Option Addr)(l:List Bool)(cap k:Nat)(w:World)(hx:Bl w ao l)(hl:l.length≤1048576)(hk:k=(l.length+63)/64):
  Calls Tryz.prog 55 #[.slice ao l.length cap] w fun e w'=>∃g,e=.returned (.tuple #[.agg #[.int .i64 l.length,.slice (some ⟨g,0,none⟩) k k],.int .i64 0])∧Own w' g (fromS l l.length)∧Below w.heap.size w w':=by
 have HK:Hid (k=(l.length+63)/64):=hk;have hk1:((l.length:Int)+63)/64=(k:Int):=by omega
 have HK1:Hid (((l.length:Int)+63)/64=(k:Int)):=hk1;clear hk hk1;go_enter Tryz.func55,Tryz.ntmps55;go_wp2_with fail;refine(new_ok _ k _ (Int.natCast_nonneg _) (by omega) HK1.out).mono ?_
 rintro e w1 ⟨g,rfl,hg1,hg2,hO,hb⟩;have KK:=box_cells hb;have KF:=box_frozen hb;have hg0:w.heap.size+1≤g:=by simpa using hg1
 clear hb hg1;obtain⟨k0,k1,hz,hw⟩:=KK;obtain⟨k2,k3⟩:=KF;go_wp2
 go_loopw [20] (fun i wr=>∃q:Nat,q≤l.length∧i=.int .i64 q∧Own wr g (fromS l q)∧(wr.cell? ⟨w1.heap.size,0,none⟩=some (.int .i64 l.length)∧wr.cell? ⟨w1.heap.size,1,none⟩=some (.slice (some ⟨g,0,none⟩) k k))∧(wr.cell? ⟨w.heap.size,0,none⟩=some (.int .i64 0)∧wr.cell? ⟨w.heap.size,1,none⟩=some (.slice none 0 0)∧wr.frozen? ⟨w.heap.size,0,none⟩=false∧wr.frozen? ⟨w.heap.size,1,none⟩=false)∧Below w.heap.size w wr) (fun i _=>l.length-(intOf i).toNat)
 case atStart=>
  have hb:=below_alloc w1 (.cells #[.int .i64 l.length,.slice (some ⟨g,0,none⟩) k k] 33)
  refine⟨0,Nat.zero_le _,rfl,?_,⟨by simp,by simp⟩,⟨(hb.cell (p:=⟨w.heap.size,0,none⟩) hz).trans k0,(hb.cell (p:=⟨w.heap.size,1,none⟩) hz).trans k1,(hb.frozen (p:=⟨w.heap.size,0,none⟩) hz).trans k2,(hb.frozen (p:=⟨w.heap.size,1,none⟩) hz).trans k3⟩,hw.trans (hb.mono (by omega))⟩
  have e1:fromS l 0=List.replicate k 0:=by
   rw[rep_row l.length k HK.out];exact rowOf_congr _ _ _ fun i _=>by simp
  rw[e1];exact hO.keep hb
 case round=>
  obtain⟨q,hq,rfl,hOr,⟨r0,r1⟩,⟨r3,r4,r5,r6⟩,hwr⟩:=hrel;by_cases hlt:q<l.length
  ·obtain⟨b,off,rfl,hb,hc⟩:=hx (by omega);have e1:=(hwr.cell (p:=⟨b,off+q,none⟩) hb).trans (hc q hlt);have hlt3:(q:Int)<(l.length:Int):=by omega
   have hq2:q/64<k:=by have:=HK.out;omega
   have hq3:(q:Int)/64<(k:Int):=by omega
   have c1:=hOr.cell (q/64) (by rw[length_fromS,←HK.out];exact hq2);have c2:=hOr.frozen (q/64);have n1:¬w1.heap.size=g:=by omega
   clear hc;cases hbt:bt l q with
   | true=>
    rw[hbt]at e1;have SO:Hid (IntKind.u64.wrap ((2:Int)^(q%64))=((2^(q%64):Nat):Int)):=shl_one _ (by omega);have SP:Hid (2^(q%64)<18446744073709551616):=two_pow_lt _ (by omega)
    have FS:Hid ((fromS l q).set (q/64) (gt (fromS l q) (q/64)|||2^(q%64))=fromS l (q+1)):=from_step l q hlt hl hbt;go_wp2;go_region;go_wp2
    refine⟨⟨q+1,by omega,by go_num,?_,⟨?_,?_⟩,⟨?_,?_,?_,?_⟩,?_⟩,by simp only[intOf];omega⟩
    ·rw[SO.out,u64_or_nat _ _ (fit_fromS l q _) SP.out,←FS.out];exact hOr.set _ _
    ·exact(((Turned.refl g wr).set (q/64) _).cell (p:=⟨w1.heap.size,0,none⟩) (show w1.heap.size≠g by omega)).trans r0
    ·exact(((Turned.refl g wr).set (q/64) _).cell (p:=⟨w1.heap.size,1,none⟩) (show w1.heap.size≠g by omega)).trans r1
    ·exact(((Turned.refl g wr).set (q/64) _).cell (p:=⟨w.heap.size,0,none⟩) (show w.heap.size≠g by omega)).trans r3
    ·exact(((Turned.refl g wr).set (q/64) _).cell (p:=⟨w.heap.size,1,none⟩) (show w.heap.size≠g by omega)).trans r4
    ·exact(((Turned.refl g wr).set (q/64) _).frozen (p:=⟨w.heap.size,0,none⟩) (show w.heap.size≠g by omega)).trans r5
    ·exact(((Turned.refl g wr).set (q/64) _).frozen (p:=⟨w.heap.size,1,none⟩) (show w.heap.size≠g by omega)).trans r6
    ·exact(hwr.setCell (show w.heap.size≤g by omega) _).drew
   | false=>
    rw[hbt]at e1;have FS:Hid (fromS l q=fromS l (q+1)):=from_skip l q hbt;go_wp2;refine⟨⟨q+1,by omega,by go_num,?_,⟨r0,r1⟩,⟨r3,r4,r5,r6⟩,hwr⟩,by simp only[intOf];omega⟩;rw[←FS.out];exact hOr
  ·have hq2:q=l.length:=by omega
   rw[hq2]at hOr;clear hq2;go_wp2;refine bodyPost_ret (v:=.tuple #[.agg #[.int .i64 l.length,.slice (some ⟨g,0,none⟩) k k],.int .i64 0]) (by simp[results,Tryz.results55,go_sem,r3,r4]) rfl ⟨g,rfl,?_,?_⟩
   ·exact(hOr.set_other (by simp;omega) _).set_other (by simp;omega) _
   ·exact(hwr.setCell (by simp) _).setCell (by simp) _
def frL(l:List Bool):List Nat:=rowOf l.length (bt l)
theorem fromS_all(l:List Bool):fromS l l.length=frL l:=rowOf_congr _ _ _ fun i hi=>by simp[hi]
theorem from_c(ao:Option Addr)(l:List Bool)(cap:Nat)(w:World)(hx:Bl w ao l)(hl:l.length≤1048576):
  Calls Tryz.prog 55 #[.slice ao l.length cap] w fun e w'=>∃bo dap,e=.returned (.tuple #[.agg #[.int .i64 l.length,.slice bo (frL l).length dap],.int .i64 0])∧Out w w' bo (frL l) dap:=by
 refine(from_ok ao l cap _ w hx hl rfl).mono ?_;rintro e w' ⟨g,rfl,hO,hb⟩;rw[fromS_all]at hO;have e5:(frL l).length=(l.length+63)/64:=length_rowOf _ _
 exact⟨some ⟨g,0,none⟩,(l.length+63)/64,by rw[e5],hO.wd,fit_rowOf _ _,by omega,hb⟩
theorem refnew_ok(n:Int)(k:Nat)(w:World)(h0:0≤n)(h1:n≤1048576)(hk:(n+63)/64=(k:Int)):
  Calls Tryz.prog 67 #[.int .i64 n] w fun e w'=>∃g,e=.returned (.tuple #[.agg #[.int .i64 n,.slice (some ⟨g,0,none⟩) k k],.int .i64 0])∧w.heap.size≤g∧g<w'.heap.size∧Own w' g (List.replicate k 0)∧Below w.heap.size w w':=by
 obtain⟨i0,hi,hz0,hz1,hz2⟩:=info_parts Tryz.info110;have hk2:k≤1048576:=by omega
 go_enter Tryz.func67,Tryz.ntmps67
 go_wp2_with (first | (go_at_call 60;refine(refwords_c _ ?_ ?_ _).mono ?_;(omega);(omega);rintro e w' ⟨rfl,rfl⟩) | (at_make;refine wpList_make_full _ rfl _ _ 31 rfl (w.heap.size+1) 110 i0 (.int .u64 0) 1 Tryz.underlying31 hi hz0 hz1 .i64 .i64 _ _ k rfl rfl rfl rfl ?b2 ?b3 ?b4 ?_))
 case b2=>rw[hz2];omega
 case b3=>unfold maxLen;omega
 case b4=>simp
 intro w1 hown hgr;have hb1:Below (w.alloc (.cells #[.int .i64 0,.slice none 0 0] 33)).heap.size (w.alloc (.cells #[.int .i64 0,.slice none 0 0] 33)) w1:=(Below.refl _ _).grown hgr (Nat.le_refl _) (fun k h=>by cases h)
 have hO:Own w1 (w.heap.size+1) (List.replicate k 0):=own_made hown;obtain⟨k0,k1,hz,hw⟩:=box_cells hb1;obtain⟨k2,k3⟩:=box_frozen hb1;have hlt:=hO.lt;clear hown hgr hi hz0 hz1 hz2 hb1;go_wp2
 refine bodyPost_ret (v:=.tuple #[.agg #[.int .i64 n,.slice (some ⟨w.heap.size+1,0,none⟩) k k],.int .i64 0]) (by simp[results,Tryz.results67,go_sem,k0,k1]) rfl ⟨w.heap.size+1,rfl,by omega,?_,?_,?_⟩
 ·rw[size_set,size_set];exact hlt
 ·exact(hO.set_other (by simp) _).set_other (by simp) _
 ·exact(hw.setCell (by simp) _).setCell (by simp) _
def rputL(ys:List Nat)(p:Nat)(x:Bool):List Nat:=
 if x then ys.set (p/64) ((gt ys (p/64)&&&(18446744073709551615-2^(p%64)))|||2^(p%64))else ys.set (p/64) (gt ys (p/64)&&&(18446744073709551615-2^(p%64)))
theorem refput_c(ys:List Nat)(g cap p:Nat)(x:Bool)(w:World)(hO:Own w g ys)(hp:p≤2097152)(hf:Fit ys)(h1:p/64<ys.length):
  Calls Tryz.prog 68 #[.slice (some ⟨g,0,none⟩) ys.length cap,.int .i64 p,.bool x] w fun e w'=>e=.returned (.tuple #[])∧Own w' g (rputL ys p x)∧Turned g w w':=by
 have l1':(p:Int)/64<(ys.length:Int):=by omega
 have e1:=hO.cell (p/64) h1;have f1:=hO.frozen (p/64);have SO:Hid (IntKind.u64.wrap ((2:Int)^(p%64))=((2^(p%64):Nat):Int)):=shl_one _ (by omega)
 have SP:Hid (2^(p%64)<18446744073709551616):=two_pow_lt _ (by omega);have SA:Hid (gt ys (p/64)&&&(18446744073709551615-2^(p%64))<18446744073709551616):=Nat.lt_of_le_of_lt Nat.and_le_left (hf _)
 cases x with
 | false=>
  go_enter Tryz.func68,Tryz.ntmps68;go_wp2;go_end0;rw[SO.out,u64_andNot_nat _ _ (hf _) SP.out];exact⟨rfl,hO.set _ _,(Turned.refl _ _).set _ _⟩
 | true=>
  go_enter Tryz.func68,Tryz.ntmps68;go_wp2;go_end0;rw[SO.out,u64_andNot_nat _ _ (hf _) SP.out,u64_or_nat _ _ SA.out SP.out];refine⟨rfl,?_,((Turned.refl _ _).set _ _).set _ _⟩
  have h:=(hO.set (p/64) (gt ys (p/64)&&&(18446744073709551615-2^(p%64)))).set (p/64) ((gt ys (p/64)&&&(18446744073709551615-2^(p%64)))|||2^(p%64));rw[List.set_set]at h;exact h
theorem rput_row(N:Int)(xs:List Nat)(hf:Fit xs)(hk:chk N xs=true)(n:Nat)(hn:(n:Int)<N)(x:Bool):
  rputL xs n x=rowOf N.toNat (fun j=>if j=n then x else bitAt xs j):=by
 cases x with
 | false=>exact set_row_false N xs hf hk n hn
 | true=>
  have e:=set_row_true N xs hf hk n hn;rw[←e];unfold rputL;rw[if_pos rfl];congr 1
  refine eq_of_bits _ _ (or_lt _ _ (Nat.lt_of_le_of_lt Nat.and_le_left (hf _)) (two_pow_lt _ (by omega))) (or_lt _ _ (hf _) (two_pow_lt _ (by omega))) fun k hk64=>?_
  rw[Nat.testBit_or,Nat.testBit_or,Nat.testBit_and,test_not_pow _ _ (by omega) hk64,Nat.testBit_two_pow];by_cases c:n%64=k<;>simp[c]
theorem refput_l(ys:List Nat)(l g cap p:Nat)(x:Bool)(w:World)(hl:ys.length=l)(hO:Own w g ys)(hp:p≤2097152)(hf:Fit ys)(h1:p/64<l):
  Calls Tryz.prog 68 #[.slice (some ⟨g,0,none⟩) l cap,.int .i64 p,.bool x] w fun e w'=>e=.returned (.tuple #[])∧Own w' g (rputL ys p x)∧Turned g w w':=by
 subst hl;exact refput_c ys g cap p x w hO hp hf h1
theorem from_put(l:List Bool)(q:Nat)(hq:q<l.length)(hl:l.length≤1048576):rputL (fromS l q) q (bt l q)=fromS l (q+1):=by
 have e:=rput_row l.length (fromS l q) (fit_rowOf _ _) (chk_rowOf _ _ hl) q (by omega) (bt l q);rw[e,Int.toNat_natCast];refine rowOf_congr _ _ _ fun i hi=>?_;unfold fromS;rw[bitAt_rowOf];by_cases c:i=q
 ·subst c;simp
 ·rw[if_neg c];by_cases c2:i<q
  ·simp[hi,c2,show i<q+1 by omega]
  ·simp[c2,show ¬i<q+1 by omega]
theorem reffrom_ok(ao:Option Addr)(l:List Bool)(cap k:Nat)(w:World)(hx:Bl w ao l)(hl:l.length≤1048576)(hk:k=(l.length+63)/64):
  Calls Tryz.prog 39 #[.slice ao l.length cap] w fun e w'=>∃g,e=.returned (.tuple #[.agg #[.int .i64 l.length,.slice (some ⟨g,0,none⟩) k k],.int .i64 0])∧w.heap.size≤g∧Own w' g (fromS l l.length)∧Below w.heap.size w w':=by
 have HK:Hid (k=(l.length+63)/64):=hk;have hk1:((l.length:Int)+63)/64=(k:Int):=by omega
 have HK1:Hid (((l.length:Int)+63)/64=(k:Int)):=hk1;clear hk hk1;go_enter Tryz.func39,Tryz.ntmps39;go_wp2_with fail;refine(refnew_ok _ k _ (Int.natCast_nonneg _) (by omega) HK1.out).mono ?_
 rintro e w1 ⟨g,rfl,hg1,hg2,hO,hb⟩;have KK:=box_cells hb;have KF:=box_frozen hb;have hg0:w.heap.size+1≤g:=by simpa using hg1
 clear hb hg1;obtain⟨k0,k1,hz,hw⟩:=KK;obtain⟨k2,k3⟩:=KF;go_wp2
 go_loopw [6] (fun i wr=>∃q:Nat,q≤l.length∧i=.int .i64 q∧Own wr g (fromS l q)∧(wr.cell? ⟨w1.heap.size,0,none⟩=some (.int .i64 l.length)∧wr.cell? ⟨w1.heap.size,1,none⟩=some (.slice (some ⟨g,0,none⟩) k k))∧(wr.cell? ⟨w.heap.size,0,none⟩=some (.int .i64 0)∧wr.cell? ⟨w.heap.size,1,none⟩=some (.slice none 0 0)∧wr.frozen? ⟨w.heap.size,0,none⟩=false∧wr.frozen? ⟨w.heap.size,1,none⟩=false)∧Below w.heap.size w wr) (fun i _=>l.length-(intOf i).toNat)
 case atStart=>
  have hb:=below_alloc w1 (.cells #[.int .i64 l.length,.slice (some ⟨g,0,none⟩) k k] 33)
  refine⟨0,Nat.zero_le _,rfl,?_,⟨by simp,by simp⟩,⟨(hb.cell (p:=⟨w.heap.size,0,none⟩) hz).trans k0,(hb.cell (p:=⟨w.heap.size,1,none⟩) hz).trans k1,(hb.frozen (p:=⟨w.heap.size,0,none⟩) hz).trans k2,(hb.frozen (p:=⟨w.heap.size,1,none⟩) hz).trans k3⟩,hw.trans (hb.mono (by omega))⟩
  have e1:fromS l 0=List.replicate k 0:=by
   rw[rep_row l.length k HK.out];exact rowOf_congr _ _ _ fun i _=>by simp
  rw[e1];exact hO.keep hb
 case round=>
  obtain⟨q,hq,rfl,hOr,⟨r0,r1⟩,⟨r3,r4,r5,r6⟩,hwr⟩:=hrel;by_cases hlt:q<l.length
  ·obtain⟨b,off,rfl,hb,hc⟩:=hx (by omega);have e1:=(hwr.cell (p:=⟨b,off+q,none⟩) hb).trans (hc q hlt);have hlt3:(q:Int)<(l.length:Int):=by omega
   have HQ:Hid (q/64<k):=by have:=HK.out;unfold Hid;omega
   have FS:Hid (rputL (fromS l q) q (bt l q)=fromS l (q+1)):=from_put l q hlt hl;have HLN:Hid ((fromS l q).length=k):=by unfold Hid;rw[length_fromS];exact HK.out.symm
   clear hc;go_wp2
   go_region_held3 (fun w'=>w'.cell? ⟨w1.heap.size,1,none⟩=some (.slice (some ⟨g,0,none⟩) k k)∧w'.cell? ⟨b,off+q,none⟩=some (.bool (bt l q))) (first | go_keep | (refine⟨?_,?_⟩<;>assumption))
    (first | (go_at_call 68;refine(refput_l (fromS l q) k g k q (bt l q) _ HLN.out ?_ (by omega) (fit_fromS l q) HQ.out).mono ?_;(exact hOr);rintro e w4 ⟨rfl,hO4,hT⟩;have q0:=(hT.cell (p:=⟨w1.heap.size,0,none⟩) (show w1.heap.size≠g by omega)).trans r0;have q1:w4.cell? ⟨w1.heap.size,1,none⟩=some (.slice (some ⟨g,0,none⟩) k k):=(hT.cell (p:=⟨w1.heap.size,1,none⟩) (show w1.heap.size≠g by omega)).trans r1;have q2:w4.cell? ⟨b,off+q,none⟩=some (.bool (bt l q)):=(hT.cell (p:=⟨b,off+q,none⟩) (show b≠g by omega)).trans e1;have q3:=(hT.cell (p:=⟨w.heap.size,0,none⟩) (show w.heap.size≠g by omega)).trans r3;have q4:=(hT.cell (p:=⟨w.heap.size,1,none⟩) (show w.heap.size≠g by omega)).trans r4;have q5:=(hT.frozen (p:=⟨w.heap.size,0,none⟩) (show w.heap.size≠g by omega)).trans r5;have q6:=(hT.frozen (p:=⟨w.heap.size,1,none⟩) (show w.heap.size≠g by omega)).trans r6;have hw4:=hwr.trans (Below.trans (Below.drew (Below.refl _ _)) (hT.below (B:=w.heap.size) (by omega)));clear hT))
   go_wp2;rw[FS.out]at hO4;exact⟨⟨q+1,by omega,by go_num,hO4,⟨q0,q1⟩,⟨q3,q4,q5,q6⟩,hw4⟩,by simp only[intOf];omega⟩
  ·have hq2:q=l.length:=by omega
   rw[hq2]at hOr;clear hq2;go_wp2;refine bodyPost_ret (v:=.tuple #[.agg #[.int .i64 l.length,.slice (some ⟨g,0,none⟩) k k],.int .i64 0]) (by simp[results,Tryz.results39,go_sem,r3,r4]) rfl ⟨g,rfl,by omega,?_,?_⟩
   ·exact(hOr.set_other (by simp;omega) _).set_other (by simp;omega) _
   ·exact(hwr.setCell (by simp) _).setCell (by simp) _
theorem reffrom_c(ao:Option Addr)(l:List Bool)(cap:Nat)(w:World)(hx:Bl w ao l)(hl:l.length≤1048576):
  Calls Tryz.prog 39 #[.slice ao l.length cap] w fun e w'=>∃bo dap,e=.returned (.tuple #[.agg #[.int .i64 l.length,.slice bo (frL l).length dap],.int .i64 0])∧Out w w' bo (frL l) dap:=by
 refine(reffrom_ok ao l cap _ w hx hl rfl).mono ?_;rintro e w' ⟨g,rfl,_,hO,hb⟩;rw[fromS_all]at hO;have e5:(frL l).length=(l.length+63)/64:=length_rowOf _ _
 exact⟨some ⟨g,0,none⟩,(l.length+63)/64,by rw[e5],hO.wd,fit_rowOf _ _,by omega,hb⟩
end Go.Proofs.YtfnkklkdajlhlaaGreatDoor
