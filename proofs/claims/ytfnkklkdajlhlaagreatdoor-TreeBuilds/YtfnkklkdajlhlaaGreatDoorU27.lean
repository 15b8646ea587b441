import Derived.Test.YtfnkklkdajlhlaaGreatDoorU26
import Derived.Great.BuildSlice
set_option linter.unusedVariables false
set_option linter.unusedSimpArgs false
set_option maxRecDepth 100000
set_option maxHeartbeats 16000000
namespace Go.Proofs.YtfnkklkdajlhlaaGreatDoor
open Go.RowKit Num Bit
theorem step_store9{ops:Array Oper}{d:Option Tmp}{ty T:TypeId}{ps:String}{af:Array Edge}{a:Act}{w:World}{K:Act→World→Prop}{Q:Exit→Act→World→Prop}{E:Prop}{x y:Operand}
  (g:Nat) (old cs:List Value) (hx:a.eval x=.pointer (some ⟨g,0,none⟩)) (hy:a.eval y=.agg cs.toArray) (hc:Cel w g old T) (lo:old.length=cs.length) (hi:(Tryz.prog.info? T).map (·.size)=some cs.length) (h1:cs.toArray.all (·.oneCell')=true)
  (h:∀w1,Cel w1 g cs T→Only g w w1→K (a.put d undef) w1):
  if Region.wanted (⟨d,.store T x y,ty,ps,af,none⟩:Oper) (yielded ops a.tmps)=true then Oper.wp Tryz.prog (⟨d,.store T x y,ty,ps,af,none⟩:Oper) a w K Q else E:=by
 rw[if_pos (by simp[Region.wanted])];exact wp_store_row _ x y rfl g cs.toArray hx hy _ _ hc (by simpa using hi) (by simpa using lo) h1 (h _ (setRow_heap w g _ _ _ _ hc) (Only.row g w _))
theorem f9build_bad(N:Int)(ao:Option Addr)(xs:List Nat)(cap:Nat)(w:World)(hx:Wd w ao xs)(hf:Fit xs)(hk:chk N xs=false):
  Calls Tryz.prog 71 #[.agg #[.int .i64 N,.slice ao xs.length cap]] w fun e w'=>e=.returned (.tuple #[.agg #[.int .i64 0,.int .i64 0,.int .i64 0,.int .i64 0,.int .i64 0,.slice none 0 0,.int .i64 0,.slice none 0 0],.int .i64 2])∧Below w.heap.size w w':=by
 have CC:Hid (∀w0,Below w.heap.size w w0→Calls Tryz.prog 30 #[.agg #[.int .i64 N,.slice ao xs.length cap]] w0 fun e w'=>e=.returned (.bool false)∧Below w0.heap.size w0 w'):=fun w0 hb=>by
  have:=refcheck_c N ao xs cap w0 (hx.keep hb) hf;rw[hk]at this;exact this
 obtain⟨W1,hW1⟩:∃W1,W1=(w.alloc (.cells #[.int .i64 N,.slice ao xs.length cap] 33)).alloc (.cells #[.int .i64 0,.int .i64 0,.int .i64 0,.int .i64 0,.int .i64 0,.slice none 0 0,.int .i64 0,.slice none 0 0] 43):=⟨_,rfl⟩
 have b1:Below w.heap.size w W1:=by rw[hW1];exact(below_alloc w _).alloc (by simp) _
 have c1:Cel W1 (w.heap.size+1) [.int .i64 0,.int .i64 0,.int .i64 0,.int .i64 0,.int .i64 0,.slice none 0 0,.int .i64 0,.slice none 0 0] 43:=by rw[hW1];exact Cel.new2 w _ _ _
 go_enter Tryz.func71,Tryz.ntmps71;go_wp2_with fail;rw[←hW1];clear hW1 hx;refine(CC.out _ b1).mono ?_;rintro e wf ⟨rfl,hb⟩;replace b1:=b1.trans (hb.mono b1.size);replace c1:=c1.kept hb;clear hb CC
 go_wp2_with (refine store_cel (w.heap.size+1) [.int .i64 0,.int .i64 0,.int .i64 0,.int .i64 0,.int .i64 0,.slice none 0 0,.int .i64 0,.slice none 0 0] [.int .i64 0,.int .i64 0,.int .i64 0,.int .i64 0,.int .i64 0,.slice none 0 0,.int .i64 0,.slice none 0 0] rfl rfl c1 rfl info_f8 (by simp[Value.oneCell']) ?_)
 intro w3 B3 O3;have HZ:=hide9 (And.intro B3 (b1.trans (O3.below (Nat.le_succ _))));clear B3 O3 b1 c1;go_wp2
 (try simp only[Exit.inBlock,Exit.then]);exact bodyPost_ret (result_cel rfl (w.heap.size+1) _ rfl HZ.out.1 Tryz.underlying43 info_f8) rfl ⟨rfl,HZ.out.2⟩
theorem f9build_ok(n:Nat)(ao:Option Addr)(xs:List Nat)(cap:Nat)(l:List Nat)(w:World)(y1 y2 y3 y4 y5 y7:Int)(y6 y8:Nat)
  (CC:Hid (∀w0,Below w.heap.size w w0→Calls Tryz.prog 30 #[.agg #[.int .i64 (n:Nat),.slice ao xs.length cap]] w0 fun e w'=>e=.returned (.bool true)∧Below w0.heap.size w0 w'))
  (PC:Hid (∀w0,Below w.heap.size w w0→Calls Tryz.prog 128 #[.agg #[.int .i64 (n:Nat),.slice ao xs.length cap]] w0 fun e w'=>∃so sc,e=.returned (.slice so l.length sc)∧Nd w' so (lz l)∧Below w0.heap.size w0 w'))
  (YP:World→Option Addr→Nat→Option Addr→Nat→Prop) (yo9:∀w1 w2 yo yc zo zc,YP w1 yo yc zo zc→Only (w.heap.size+1) w1 w2→Cel w1 (w.heap.size+1) [.int .i64 0,.int .i64 0,.int .i64 0,.int .i64 0,.int .i64 0,.slice none 0 0,.int .i64 0,.slice none 0 0] 43→YP w2 yo yc zo zc)
  (OC:Hid (∀w0 so sc,Nd w0 so (lz l)→Calls Tryz.prog 112 #[.int .i64 (n:Nat),.slice so l.length sc] w0 fun e w'=>∃yo yc zo zc,e=.returned (.tuple #[.agg #[.int .i64 y1,.int .i64 y2,.int .i64 y3,.int .i64 y4,.int .i64 y5,.slice yo y6 yc,.int .i64 y7,.slice zo y8 zc],.int .i64 0])∧YP w' yo yc zo zc∧Below w0.heap.size w0 w')):
  Calls Tryz.prog 71 #[.agg #[.int .i64 (n:Nat),.slice ao xs.length cap]] w fun e w'=>∃yo yc zo zc,e=.returned (.tuple #[.agg #[.int .i64 y1,.int .i64 y2,.int .i64 y3,.int .i64 y4,.int .i64 y5,.slice yo y6 yc,.int .i64 y7,.slice zo y8 zc],.int .i64 0])∧YP w' yo yc zo zc∧Below w.heap.size w w':=by
 obtain⟨W1,hW1⟩:∃W1,W1=(w.alloc (.cells #[.int .i64 (n:Nat),.slice ao xs.length cap] 33)).alloc (.cells #[.int .i64 0,.int .i64 0,.int .i64 0,.int .i64 0,.int .i64 0,.slice none 0 0,.int .i64 0,.slice none 0 0] 43):=⟨_,rfl⟩
 have b1:Below w.heap.size w W1:=by rw[hW1];exact(below_alloc w _).alloc (by simp) _
 have c0:Cel W1 w.heap.size [.int .i64 (n:Nat),.slice ao xs.length cap] 33:=by rw[hW1];exact(Cel.new w _ _).alloc _
 have c1:Cel W1 (w.heap.size+1) [.int .i64 0,.int .i64 0,.int .i64 0,.int .i64 0,.int .i64 0,.slice none 0 0,.int .i64 0,.slice none 0 0] 43:=by rw[hW1];exact Cel.new2 w _ _ _
 go_enter Tryz.func71,Tryz.ntmps71;go_wp2_with fail;rw[←hW1];clear hW1;refine(CC.out _ b1).mono ?_;rintro e wf ⟨rfl,hb⟩;replace b1:=b1.trans (hb.mono b1.size);replace c0:=c0.kept hb;replace c1:=c1.kept hb;clear hb CC
 go_wp2_with fail
 refine region_g [7] (fun w0=>Cel w0 w.heap.size [.int .i64 (n:Nat),.slice ao xs.length cap] 33∧Cel w0 (w.heap.size+1) [.int .i64 0,.int .i64 0,.int .i64 0,.int .i64 0,.int .i64 0,.slice none 0 0,.int .i64 0,.slice none 0 0] 43∧Below w.heap.size w w0) (by kernel_rfl) ?_
 have hS:(fun w0:World=>Cel w0 w.heap.size [.int .i64 (n:Nat),.slice ao xs.length cap] 33∧Cel w0 (w.heap.size+1) [.int .i64 0,.int .i64 0,.int .i64 0,.int .i64 0,.int .i64 0,.slice none 0 0,.int .i64 0,.slice none 0 0] 43∧Below w.heap.size w w0) wf.drew:=⟨c0.drew,c1.drew,b1.drew⟩
 clear c0 c1 b1;refine AnyG.tk 0 hS ?_;refine AnyG.tf 1 hS rfl (fun w0 h0=>by have:=h0.1.cell 0 rfl;go_simp;try with_reducible rfl) ?_
 refine AnyG.tf 2 hS rfl (fun w0 h0=>by have:=h0.1.cell 0 rfl;have:=h0.1.cell 1 rfl;go_simp;try with_reducible rfl) ?_;refine AnyG.o1 3 ?_;intro K hK;go_simp;refine(PC.out _ hS.2.2).mono ?_
 rintro e w2 ⟨so,sc,rfl,hN,hb⟩;replace hS:=And.intro (hS.1.kept hb) (And.intro (hS.2.1.kept hb) (hS.2.2.trans (hb.mono hS.2.2.size)));clear hb;refine hK.out _ _ (fun _=>hS) ?_;clear hK K
 try simp only[Act.put,yq0,yq1,yq2,yq3,yq4,yq5]
 refine AnyG.o1 4 ?_;intro K hK;go_simp;refine(OC.out _ _ _ hN).mono ?_;rintro e w3 ⟨yo,yc,zo,zc,rfl,hY,hb⟩;replace hS:=And.intro (hS.1.kept hb) (And.intro (hS.2.1.kept hb) (hS.2.2.trans (hb.mono hS.2.2.size)))
 clear hb hN;refine hK.out _ _ (fun _=>hS) ?_;clear hK K;try simp only[Act.put,yq0,yq1,yq2,yq3,yq4,yq5]
 refine AnyG.tk 5 hS ?_;refine AnyG.tk 6 hS ?_;refine AnyG.o1 7 ?_;intro K hK
 refine step_store9 (w.heap.size+1) [.int .i64 0,.int .i64 0,.int .i64 0,.int .i64 0,.int .i64 0,.slice none 0 0,.int .i64 0,.slice none 0 0] _ rfl rfl hS.2.1 rfl info_f8 (by simp[Value.oneCell']) ?_;intro w9 B9 O9
 have hY9:=yo9 _ _ _ _ _ _ hY O9 hS.2.1;have HZ:=hide9 (And.intro B9 (And.intro hY9 (hS.2.2.trans (O9.below (Nat.le_succ _)))));clear hY9 B9 O9 hS hY;refine hK.out _ _ (fun h=>absurd (by decide) h) ?_;clear hK K
 try simp only[Act.put,yq0,yq1,yq2,yq3,yq4,yq5]
 refine AnyG.takeW 8 (v:=?vv90) rfl (by kernel_rfl) (by kernel_rfl) (by kernel_rfl) (fun _ _ _ h=>h) ?hy90 (by rfl) ?rest90
 case hy90=>
  intro w0;go_simp;try with_reducible rfl
 simp only[Act.put,yq0,yq1,yq2,yq3,yq4,yq5];refine AnyG.done (by kernel_rfl) ?_ _;go_wp2
 (try simp only[Exit.inBlock,Exit.then]);exact bodyPost_ret (result_cel rfl (w.heap.size+1) _ rfl HZ.out.1 Tryz.underlying43 info_f8) rfl ⟨yo,yc,zo,zc,rfl,HZ.out.2.1,HZ.out.2.2⟩
theorem f9build_k(N:Int)(ao:Option Addr)(xs:List Nat)(cap:Nat)(w:World)(hx:Wd w ao xs)(hf:Fit xs)(hN:N≤3000):
  Calls Tryz.prog 71 #[.agg #[.int .i64 N,.slice ao xs.length cap]] w fun e w'=>∃cs:List Value,e=.returned (.tuple #[.agg cs.toArray,.int .i64 (kE9 N xs)])∧KI9 w' cs (kB9 N xs)∧Below w.heap.size w w':=by
 have z:I64 0:=⟨by decide,by decide⟩;cases hk:chk N xs with
 | false=>
  refine(f9build_bad N ao xs cap w hx hf hk).mono ?_;rintro e w' ⟨rfl,hb⟩;have e1:kE9 N xs=2:=by unfold kE9;rw[hk];rfl
  have e2:kB9 N xs=⟨0,0,0,0,0,[],0,[]⟩:=by unfold kB9;rw[hk];rfl
  rw[e1,e2];have f0:Fit []:=fun i=>by unfold gt;simp
  exact⟨_,rfl,⟨⟨none,0,none,0,rfl,⟨z,z,z,z,z,z⟩,wd0' _ _,f0,Nat.le_refl _,wd0' _ _,f0,Nat.le_refl _⟩,by decide,by simp,by simp⟩,hb⟩
 | true=>
  obtain⟨u1,u2,u3,u4⟩:=chk_out _ _ hk;obtain⟨n,rfl⟩:=Int.eq_ofNat_of_zero_le u1;have hn:n≤3000:=by omega
  obtain⟨L,hL⟩:∃L,L=plc (bitAt xs) n:=⟨_,rfl⟩;have RS:Rise L n:=by rw[hL];exact plc_rise _ _
  have mn:=RS.len;have e1:kE9 (n:Int) xs=0:=by unfold kE9;rw[hk];rfl
  have e2:kB9 (n:Int) xs=fOf n L:=by
   unfold kB9;rw[if_pos hk,Int.toNat_natCast,←hL]
  have CC:Hid (∀w0,Below w.heap.size w w0→Calls Tryz.prog 30 #[.agg #[.int .i64 (n:Nat),.slice ao xs.length cap]] w0 fun e w'=>e=.returned (.bool true)∧Below w0.heap.size w0 w'):=fun w0 hb=>by
   have:=refcheck_c n ao xs cap w0 (hx.keep hb) hf;rw[hk]at this;exact this
  have PC:Hid (∀w0,Below w.heap.size w w0→Calls Tryz.prog 128 #[.agg #[.int .i64 (n:Nat),.slice ao xs.length cap]] w0 fun e w'=>∃so sc,e=.returned (.slice so L.length sc)∧Nd w' so (lz L)∧Below w0.heap.size w0 w'):=fun w0 hb=>by
   refine(places_c n ao xs cap w0 (hx.keep hb) hk).mono ?_;rintro e w' ⟨v,rfl,ho,hb2⟩;rw[←hL]at ho;obtain⟨so,sc,rfl,_,_⟩:=Ap.owns_shape ho;exact⟨so,sc,rfl,nd_own9 ho,hb2.mono (Nat.le_refl _)⟩
  have i_y:∀{w1:World} {yo:Option Addr} {X:List Nat},Wd w1 yo X→Cel w1 (w.heap.size+1) [.int .i64 0,.int .i64 0,.int .i64 0,.int .i64 0,.int .i64 0,.slice none 0 0,.int .i64 0,.slice none 0 0] 43→∀a,0<X.length→yo=some a→a.block≠w.heap.size+1:=fun h hc=>h.apart hc (by intro v hv n;simp at hv;rcases hv with rfl | rfl | rfl | rfl<;>simp)
  refine(f9build_ok n ao xs cap L w (fOf n L).N (fOf n L).M (fOf n L).k (fOf n L).V (fOf n L).LM (fOf n L).H (fOf n L).xs.length (fOf n L).ys.length CC PC (fun w0 yo yc zo zc=>Wd w0 yo (fOf n L).xs∧(fOf n L).xs.length≤yc∧Wd w0 zo (fOf n L).ys∧(fOf n L).ys.length≤zc) (fun w1 w2 yo yc zo zc h hO hc=>⟨hO.wd h.1 (i_y h.1 hc),h.2.1,hO.wd h.2.2.1 (i_y h.2.2.1 hc),h.2.2.2⟩) ?_).mono ?_
  ·intro w0 so sc hNd;exact of9_c n so L sc w0 hNd RS hn
  ·rintro e w' ⟨bo,bc,qo,qc,rfl,⟨p1,p2,p3,p4⟩,hb⟩;rw[e1,e2];obtain⟨v,hv⟩:∃v,v=wdF n L.length:=⟨_,rfl⟩;have v20:v≤20:=by rw[hv];exact wdF_le n _ (by omega)
   have e3:fOf n L=⟨n,L.length,(loP L v).length,(max v 1:Nat),((loP L v).length:Int)*(max v 1:Nat),mkS (loP L v) (max v 1) (loP L v).length,hiN L n v,rowOf (hiN L n v) (isIn (hiP L v))⟩:=by
    unfold fOf;rw[←hv]
   rw[e3]at p1 p2 p3 p4⊢;dsimp only at p1 p2 p3 p4⊢;have l1:=length_lo_le L v;have hE:n/2^v≤n:=Nat.div_le_self _ _;have l2:hiN L n v≤6001:=by unfold hiN;omega
   have l3:(loP L v).length*max v 1≤3000*20:=Nat.mul_le_mul (by omega) (by omega);have l4:(mkS (loP L v) (max v 1) (loP L v).length).length≤1048576:=by rw[length_mkS];omega
   have l5:(rowOf (hiN L n v) (isIn (hiP L v))).length≤1048576:=by rw[length_rowOf];omega
   have i1:I64 (n:Int):=⟨by omega,by omega⟩;have i2:I64 (L.length:Int):=⟨by omega,by omega⟩;have i3:I64 ((loP L v).length:Int):=⟨by omega,by omega⟩
   have i5:I64 ((max v 1:Nat):Int):=⟨by omega,by omega⟩;have i6:I64 (hiN L n v:Int):=⟨by omega,by omega⟩
   have i4:I64 (((loP L v).length:Int)*(max v 1:Nat)):=by
    rw[←Int.natCast_mul];exact⟨by omega,by omega⟩
   exact⟨_,rfl,⟨⟨bo,bc,qo,qc,rfl,⟨i1,i2,i3,i5,i4,i6⟩,p1,fit_mkS _ _ _,p2,p3,fit_rowOf _ _,p4⟩,hN,l4,l5⟩,hb⟩
theorem vbuild_k(k N:Int)(ao:Option Addr)(xs:List Nat)(cap:Nat)(w:World)(hK:I64 k)(hN:I64 N)(hx:Wd w ao xs)(hf:Fit xs)(hcap:xs.length≤cap)(hl:N≤3000∧xs.length≤1048576)(GG:GV w):
  Calls Tryz.prog 40 #[.int .i64 k,.agg #[.int .i64 N,.slice ao xs.length cap]] w fun e w'=>∃cs:List Value,e=.returned (.tuple #[.agg cs.toArray,.int .i64 (kE k N xs)])∧KI w' cs (kB k N xs)∧Below w.heap.size w w'∧NFV w.heap.size cs:=by
 obtain⟨W,hW⟩:∃W,W=((w.alloc (.cells #[.int .i64 N,.slice ao xs.length cap] 33)).alloc (.cells [Value.int .i64 0,.int .i64 0,.slice none 0 0,.slice none 0 0,.slice none 0 0,.int .i64 0,.int .i64 0,.int .i64 0,.int .i64 0,.slice none 0 0,.int .i64 0,.slice none 0 0,.slice none 0 0,.slice none 0 0,.int .i64 0,.int .i64 0,.int .i64 0,.int .i64 0,.int .i64 0,.slice none 0 0,.int .i64 0,.slice none 0 0].toArray 45)).alloc (.cells [Value.int .i64 0,.int .i64 0,.slice none 0 0,.slice none 0 0,.slice none 0 0,.int .i64 0,.int .i64 0,.int .i64 0,.int .i64 0,.slice none 0 0,.int .i64 0,.slice none 0 0,.slice none 0 0,.slice none 0 0,.int .i64 0,.int .i64 0,.int .i64 0,.int .i64 0,.int .i64 0,.slice none 0 0,.int .i64 0,.slice none 0 0].toArray 45):=⟨_,rfl⟩
 have bw:Below w.heap.size w W:=by rw[hW];exact((below_alloc w _).alloc (by simp) _).alloc (by simp;omega) _
 have B0:Cel W w.heap.size [.int .i64 N,.slice ao xs.length cap] 33:=by rw[hW];exact((Cel.new w _ _).alloc _).alloc _
 have B4:Cel W (w.heap.size+1) [Value.int .i64 0,.int .i64 0,.slice none 0 0,.slice none 0 0,.slice none 0 0,.int .i64 0,.int .i64 0,.int .i64 0,.int .i64 0,.slice none 0 0,.int .i64 0,.slice none 0 0,.slice none 0 0,.slice none 0 0,.int .i64 0,.int .i64 0,.int .i64 0,.int .i64 0,.int .i64 0,.slice none 0 0,.int .i64 0,.slice none 0 0] 45:=by rw[hW];exact(Cel.new2 w _ _ _).alloc _
 have B6:Cel W (w.heap.size+2) [Value.int .i64 0,.int .i64 0,.slice none 0 0,.slice none 0 0,.slice none 0 0,.int .i64 0,.int .i64 0,.int .i64 0,.int .i64 0,.slice none 0 0,.int .i64 0,.slice none 0 0,.slice none 0 0,.slice none 0 0,.int .i64 0,.int .i64 0,.int .i64 0,.int .i64 0,.int .i64 0,.slice none 0 0,.int .i64 0,.slice none 0 0] 45:=by rw[hW];exact(Cel.new2 (w.alloc _) _ _ _).at (by simp)
 have hIV:=Hid.mk8 info_v
 have H7:Hid (∀w0,Below w.heap.size w w0→Calls Tryz.prog 69 #[.agg #[.int .i64 N,.slice ao xs.length cap]] w0 fun e w'=>∃cs:List Value,e=.returned (.tuple #[.agg cs.toArray,.int .i64 (kE7 N xs)])∧KI7 w' cs (kB7 N xs)∧NF w0.heap.size 2 cs∧Below w0.heap.size w0 w'):=fun w0 h=>p7build_k N ao xs cap w0 hN (hx.keep h) hf hcap hl.2
 have H8:Hid (∀w0,Below w.heap.size w w0→Calls Tryz.prog 70 #[.agg #[.int .i64 N,.slice ao xs.length cap]] w0 fun e w'=>∃cs:List Value,e=.returned (.tuple #[.agg cs.toArray,.int .i64 (kE8 N xs)])∧KI8 w' cs (kB8 N xs)∧NF w0.heap.size 7 cs∧Below w0.heap.size w0 w'):=fun w0 h=>r8build_k N ao xs cap w0 (hx.keep h) hf (GG.kept h)
 have H9:Hid (∀w0,Below w.heap.size w w0→Calls Tryz.prog 71 #[.agg #[.int .i64 N,.slice ao xs.length cap]] w0 fun e w'=>∃cs:List Value,e=.returned (.tuple #[.agg cs.toArray,.int .i64 (kE9 N xs)])∧KI9 w' cs (kB9 N xs)∧Below w0.heap.size w0 w'):=fun w0 h=>f9build_k N ao xs cap w0 (hx.keep h) hf hl.1
 subst hW;by_cases q1:k=1
 ·subst q1;have eE:kE 1 N xs=kE7 N xs:=rfl;rw[eE];by_cases z:kE7 N xs=0
  ·have ew:kB 1 N xs=⟨1,kB7 N xs,n8,n9⟩:=kB_p N xs z;rw[z]at H7⊢;clear eE z;go_enter Tryz.func40,Tryz.ntmps40;go_wp2_with (refine store_cel (w.heap.size+2) _ _ rfl rfl B6 rfl hIV.out (by simp[Value.oneCell']) ?_)
   intro w1 B6 O1;replace B0:=O1.cel B0 (by omega);replace B4:=O1.cel B4 (by omega);replace bw:=bw.trans (O1.below (by omega));clear O1;have r0:=B0.cell 0 rfl;have r1:=B0.cell 1 rfl;go_wp2_with fail
   refine(H7.out _ bw).mono ?_;rintro e w2 ⟨cs,rfl,hP,hN2,hb⟩;have sz:=B6.lt;have sz2:=hb.size;replace B4:=B4.kept hb;replace B6:=B6.kept hb;replace bw:=bw.trans (hb.mono bw.size);clear hb r0 r1 B0
   go_wp2_with (refine store_part (w.heap.size+2) [Value.int .i64 1] [Value.int .i64 0,.slice none 0 0,.slice none 0 0,.slice none 0 0] ([Value.int .i64 0,.int .i64 0,.int .i64 0,.int .i64 0,.slice none 0 0,.int .i64 0,.slice none 0 0,.slice none 0 0,.slice none 0 0]++[Value.int .i64 0,.int .i64 0,.int .i64 0,.int .i64 0,.int .i64 0,.slice none 0 0,.int .i64 0,.slice none 0 0]) cs rfl rfl B6 hP.arg.four.symm hP.arg.len hP.arg.one ?_)
   intro w3 B7 O3;have hQ:=hP.only hN2 (by omega) B6 (nou_mk (z7arg w).arg.nou (z8a w).nou (z9arg w).arg.nou) O3;replace B4:=O3.cel B4 (by omega);replace bw:=bw.trans (O3.below (by omega))
   have B8:Cel w3 (w.heap.size+2) (Value.int .i64 1::(cs++([Value.int .i64 0,.int .i64 0,.int .i64 0,.int .i64 0,.slice none 0 0,.int .i64 0,.slice none 0 0,.slice none 0 0,.slice none 0 0]++[Value.int .i64 0,.int .i64 0,.int .i64 0,.int .i64 0,.int .i64 0,.slice none 0 0,.int .i64 0,.slice none 0 0]))) 45:=B7
   have HL:=Hid.mk8 (ka_mk hK hQ.arg (z8a w3) (z9arg w3).arg).len;have H1:=Hid.mk8 (ka_mk hK hQ.arg (z8a w3) (z9arg w3).arg).one;have H9:=Hid.mk8 (ka_mk hK hQ.arg (z8a w3) (z9arg w3).arg).nine
   have HNF:Hid (NFV w.heap.size (Value.int .i64 1::(cs++([Value.int .i64 0,.int .i64 0,.int .i64 0,.int .i64 0,.slice none 0 0,.int .i64 0,.slice none 0 0,.slice none 0 0,.slice none 0 0]++[Value.int .i64 0,.int .i64 0,.int .i64 0,.int .i64 0,.int .i64 0,.slice none 0 0,.int .i64 0,.slice none 0 0])))):=⟨(hN2.mono (by omega)).mid (pre:=[Value.int .i64 1]) (by have:=hQ.arg.four;omega) rfl,(show NF w.heap.size 7 [Value.int .i64 0,.int .i64 0,.int .i64 0,.int .i64 0,.slice none 0 0,.int .i64 0,.slice none 0 0,.slice none 0 0,.slice none 0 0]from nf_mk (fr0 _) (fr0 _)).mid (pre:=Value.int .i64 1::cs) (by decide) (by have:=hQ.arg.four;simp;omega)⟩
   have HQ:=Hid.mk8 (And.intro hQ hN2);clear B7 O3 B6 hP hN2 hQ
   go_wp2_with (first | refine load_obj (w.heap.size+2) _ (by rfl) rfl B8 Tryz.underlying45 HL.out ?_ | refine store_cel (w.heap.size+1) _ _ rfl rfl B4 H9.out HL.out H1.out ?_);intro w9 B9 O9
   have HZ:=Hid.mk8 (And.intro B9 (And.intro (ki_mk hK (HQ.out.1.only HQ.out.2 (by omega) B4 (nou_mk (z7arg w).arg.nou (z8a w).nou (z9arg w).arg.nou) O9) (z8arg w9 (GG.kept (bw.trans (O9.below (by omega))))) (z9arg w9)) (bw.trans (O9.below (by omega)))))
   clear B9 O9 B8 B4 HQ;go_wp2
   (try simp only[Exit.inBlock,Exit.then]);refine bodyPost_ret (result_cel rfl (w.heap.size+1) _ rfl HZ.out.1 Tryz.underlying45 HL.out) rfl ⟨_,rfl,?_,HZ.out.2.2,HNF.out⟩;rw[ew];exact HZ.out.2.1
  ·have ew:kB 1 N xs=⟨0,n7,n8,n9⟩:=kB_none 1 N xs (by rw[eE];exact z);have zz:(kE7 N xs != 0)=true:=by simp[z]
   clear eE z;generalize kE7 N xs=E1 at *;go_enter Tryz.func40,Tryz.ntmps40;go_wp2_with (refine store_cel (w.heap.size+2) _ _ rfl rfl B6 rfl hIV.out (by simp[Value.oneCell']) ?_);intro w1 B6 O1
   replace B0:=O1.cel B0 (by omega);replace B4:=O1.cel B4 (by omega);replace bw:=bw.trans (O1.below (by omega));clear O1;have r0:=B0.cell 0 rfl;have r1:=B0.cell 1 rfl;go_wp2_with fail;refine(H7.out _ bw).mono ?_
   rintro e w2 ⟨cs,rfl,hP,hN2,hb⟩;have sz:=B6.lt;have sz2:=hb.size;replace B4:=B4.kept hb;replace B6:=B6.kept hb;replace bw:=bw.trans (hb.mono bw.size);clear hb r0 r1 B0
   go_wp2_with (refine store_part (w.heap.size+2) [Value.int .i64 1] [Value.int .i64 0,.slice none 0 0,.slice none 0 0,.slice none 0 0] ([Value.int .i64 0,.int .i64 0,.int .i64 0,.int .i64 0,.slice none 0 0,.int .i64 0,.slice none 0 0,.slice none 0 0,.slice none 0 0]++[Value.int .i64 0,.int .i64 0,.int .i64 0,.int .i64 0,.int .i64 0,.slice none 0 0,.int .i64 0,.slice none 0 0]) cs rfl rfl B6 hP.arg.four.symm hP.arg.len hP.arg.one ?_)
   intro w3 B7 O3;replace B4:=O3.cel B4 (by omega);replace bw:=bw.trans (O3.below (by omega));clear B7 O3 B6 hP hN2;go_wp2_with (refine store_cel (w.heap.size+1) _ _ rfl rfl B4 rfl hIV.out (by simp[Value.oneCell']) ?_)
   intro w9 B9 O9;have HZ:=Hid.mk8 (And.intro B9 (bw.trans (O9.below (by omega))));clear B9 O9;go_wp2
   (try simp only[Exit.inBlock,Exit.then]);refine bodyPost_ret (result_cel rfl (w.heap.size+1) _ rfl HZ.out.1 Tryz.underlying45 hIV.out) rfl ⟨_,rfl,?_,HZ.out.2,nf_mk (fr0 _) (fr0 _),nf_mk (fr0 _) (fr0 _)⟩;rw[ew]
   exact ki_mk i64_0 (z7arg _) (z8arg _ (GG.kept HZ.out.2)) (z9arg _)
 by_cases q2:k=2
 ·subst q2;have eE:kE 2 N xs=kE8 N xs:=rfl;rw[eE];by_cases z:kE8 N xs=0
  ·have ew:kB 2 N xs=⟨2,n7,kB8 N xs,n9⟩:=kB_r N xs z;rw[z]at H8⊢;clear eE z;go_enter Tryz.func40,Tryz.ntmps40;go_wp2_with (refine store_cel (w.heap.size+2) _ _ rfl rfl B6 rfl hIV.out (by simp[Value.oneCell']) ?_)
   intro w1 B6 O1;replace B0:=O1.cel B0 (by omega);replace B4:=O1.cel B4 (by omega);replace bw:=bw.trans (O1.below (by omega));clear O1;have r0:=B0.cell 0 rfl;have r1:=B0.cell 1 rfl;go_wp2_with fail
   refine(H8.out _ bw).mono ?_;rintro e w2 ⟨cs,rfl,hP,hN2,hb⟩;have sz:=B6.lt;have sz2:=hb.size;replace B4:=B4.kept hb;replace B6:=B6.kept hb;replace bw:=bw.trans (hb.mono bw.size);clear hb r0 r1 B0
   go_wp2_with (refine store_part (w.heap.size+2) (Value.int .i64 2::[Value.int .i64 0,.slice none 0 0,.slice none 0 0,.slice none 0 0]) [Value.int .i64 0,.int .i64 0,.int .i64 0,.int .i64 0,.slice none 0 0,.int .i64 0,.slice none 0 0,.slice none 0 0,.slice none 0 0] [Value.int .i64 0,.int .i64 0,.int .i64 0,.int .i64 0,.int .i64 0,.slice none 0 0,.int .i64 0,.slice none 0 0] cs rfl rfl B6 hP.arg.nine hP.arg.len hP.arg.one ?_)
   intro w3 B7 O3;have hQ:=hP.only hN2 (by omega) B6 (nou_mk (z7arg w).arg.nou (z8a w).nou (z9arg w).arg.nou) O3 (GG.kept (bw.trans (O3.below (by omega))));replace B4:=O3.cel B4 (by omega)
   replace bw:=bw.trans (O3.below (by omega))
   have B8:Cel w3 (w.heap.size+2) (Value.int .i64 2::([Value.int .i64 0,.slice none 0 0,.slice none 0 0,.slice none 0 0]++(cs++[Value.int .i64 0,.int .i64 0,.int .i64 0,.int .i64 0,.int .i64 0,.slice none 0 0,.int .i64 0,.slice none 0 0]))) 45:=B7
   have HL:=Hid.mk8 (ki_mk hK (z7arg w3) hQ (z9arg w3)).arg.len;have H1:=Hid.mk8 (ki_mk hK (z7arg w3) hQ (z9arg w3)).arg.one;have H9:=Hid.mk8 (ki_mk hK (z7arg w3) hQ (z9arg w3)).arg.nine
   have HNF:Hid (NFV w.heap.size (Value.int .i64 2::([Value.int .i64 0,.slice none 0 0,.slice none 0 0,.slice none 0 0]++(cs++[Value.int .i64 0,.int .i64 0,.int .i64 0,.int .i64 0,.int .i64 0,.slice none 0 0,.int .i64 0,.slice none 0 0])))):=⟨nf_mk (fr0 _) (fr0 _),(hN2.mono (by omega)).mid (pre:=Value.int .i64 2::[Value.int .i64 0,.slice none 0 0,.slice none 0 0,.slice none 0 0]) (by have:=hQ.arg.nine;omega) rfl⟩
   have HQ:=Hid.mk8 (And.intro hQ hN2);clear B7 O3 B6 hP hN2 hQ
   go_wp2_with (first | refine load_obj (w.heap.size+2) _ (by rfl) rfl B8 Tryz.underlying45 HL.out ?_ | refine store_cel (w.heap.size+1) _ _ rfl rfl B4 H9.out HL.out H1.out ?_);intro w9 B9 O9
   have HZ:=Hid.mk8 (And.intro B9 (And.intro (ki_mk hK (z7arg w9) (HQ.out.1.only HQ.out.2 (by omega) B4 (nou_mk (z7arg w).arg.nou (z8a w).nou (z9arg w).arg.nou) O9 (GG.kept (bw.trans (O9.below (by omega))))) (z9arg w9)) (bw.trans (O9.below (by omega)))))
   clear B9 O9 B8 B4 HQ;go_wp2
   (try simp only[Exit.inBlock,Exit.then]);refine bodyPost_ret (result_cel rfl (w.heap.size+1) _ rfl HZ.out.1 Tryz.underlying45 HL.out) rfl ⟨_,rfl,?_,HZ.out.2.2,HNF.out⟩;rw[ew];exact HZ.out.2.1
  ·have ew:kB 2 N xs=⟨0,n7,n8,n9⟩:=kB_none 2 N xs (by rw[eE];exact z);have zz:(kE8 N xs != 0)=true:=by simp[z]
   clear eE z;generalize kE8 N xs=E1 at *;go_enter Tryz.func40,Tryz.ntmps40;go_wp2_with (refine store_cel (w.heap.size+2) _ _ rfl rfl B6 rfl hIV.out (by simp[Value.oneCell']) ?_);intro w1 B6 O1
   replace B0:=O1.cel B0 (by omega);replace B4:=O1.cel B4 (by omega);replace bw:=bw.trans (O1.below (by omega));clear O1;have r0:=B0.cell 0 rfl;have r1:=B0.cell 1 rfl;go_wp2_with fail;refine(H8.out _ bw).mono ?_
   rintro e w2 ⟨cs,rfl,hP,hN2,hb⟩;have sz:=B6.lt;have sz2:=hb.size;replace B4:=B4.kept hb;replace B6:=B6.kept hb;replace bw:=bw.trans (hb.mono bw.size);clear hb r0 r1 B0
   go_wp2_with (refine store_part (w.heap.size+2) (Value.int .i64 2::[Value.int .i64 0,.slice none 0 0,.slice none 0 0,.slice none 0 0]) [Value.int .i64 0,.int .i64 0,.int .i64 0,.int .i64 0,.slice none 0 0,.int .i64 0,.slice none 0 0,.slice none 0 0,.slice none 0 0] [Value.int .i64 0,.int .i64 0,.int .i64 0,.int .i64 0,.int .i64 0,.slice none 0 0,.int .i64 0,.slice none 0 0] cs rfl rfl B6 hP.arg.nine hP.arg.len hP.arg.one ?_)
   intro w3 B7 O3;replace B4:=O3.cel B4 (by omega);replace bw:=bw.trans (O3.below (by omega));clear B7 O3 B6 hP hN2;go_wp2_with (refine store_cel (w.heap.size+1) _ _ rfl rfl B4 rfl hIV.out (by simp[Value.oneCell']) ?_)
   intro w9 B9 O9;have HZ:=Hid.mk8 (And.intro B9 (bw.trans (O9.below (by omega))));clear B9 O9;go_wp2
   (try simp only[Exit.inBlock,Exit.then]);refine bodyPost_ret (result_cel rfl (w.heap.size+1) _ rfl HZ.out.1 Tryz.underlying45 hIV.out) rfl ⟨_,rfl,?_,HZ.out.2,nf_mk (fr0 _) (fr0 _),nf_mk (fr0 _) (fr0 _)⟩;rw[ew]
   exact ki_mk i64_0 (z7arg _) (z8arg _ (GG.kept HZ.out.2)) (z9arg _)
 by_cases q3:k=3
 ·subst q3;have eE:kE 3 N xs=kE9 N xs:=rfl;rw[eE];by_cases z:kE9 N xs=0
  ·have ew:kB 3 N xs=⟨3,n7,n8,kB9 N xs⟩:=kB_f N xs z;rw[z]at H9⊢;clear eE z;go_enter Tryz.func40,Tryz.ntmps40;go_wp2_with (refine store_cel (w.heap.size+2) _ _ rfl rfl B6 rfl hIV.out (by simp[Value.oneCell']) ?_)
   intro w1 B6 O1;replace B0:=O1.cel B0 (by omega);replace B4:=O1.cel B4 (by omega);replace bw:=bw.trans (O1.below (by omega));clear O1;have r0:=B0.cell 0 rfl;have r1:=B0.cell 1 rfl;go_wp2_with fail
   refine(H9.out _ bw).mono ?_;rintro e w2 ⟨cs,rfl,hP,hb⟩;have sz:=B6.lt;have sz2:=hb.size;replace B4:=B4.kept hb;replace B6:=B6.kept hb;replace bw:=bw.trans (hb.mono bw.size);clear hb r0 r1 B0
   go_wp2_with (refine store_part (w.heap.size+2) (Value.int .i64 3::([Value.int .i64 0,.slice none 0 0,.slice none 0 0,.slice none 0 0]++[Value.int .i64 0,.int .i64 0,.int .i64 0,.int .i64 0,.slice none 0 0,.int .i64 0,.slice none 0 0,.slice none 0 0,.slice none 0 0])) [Value.int .i64 0,.int .i64 0,.int .i64 0,.int .i64 0,.int .i64 0,.slice none 0 0,.int .i64 0,.slice none 0 0] [] cs rfl rfl B6 hP.arg.nine hP.arg.len hP.arg.one ?_)
   intro w3 B7 O3;have hQ:=hP.only B6 (nou_mk (z7arg w).arg.nou (z8a w).nou (z9arg w).arg.nou) O3;replace B4:=O3.cel B4 (by omega);replace bw:=bw.trans (O3.below (by omega))
   have B8:Cel w3 (w.heap.size+2) (Value.int .i64 3::([Value.int .i64 0,.slice none 0 0,.slice none 0 0,.slice none 0 0]++([Value.int .i64 0,.int .i64 0,.int .i64 0,.int .i64 0,.slice none 0 0,.int .i64 0,.slice none 0 0,.slice none 0 0,.slice none 0 0]++cs))) 45:=by simpa using B7
   have HL:=Hid.mk8 (ka_mk hK (z7arg w3).arg (z8a w3) hQ.arg).len;have H1:=Hid.mk8 (ka_mk hK (z7arg w3).arg (z8a w3) hQ.arg).one;have H9:=Hid.mk8 (ka_mk hK (z7arg w3).arg (z8a w3) hQ.arg).nine
   have HNF:Hid (NFV w.heap.size (Value.int .i64 3::([Value.int .i64 0,.slice none 0 0,.slice none 0 0,.slice none 0 0]++([Value.int .i64 0,.int .i64 0,.int .i64 0,.int .i64 0,.slice none 0 0,.int .i64 0,.slice none 0 0,.slice none 0 0,.slice none 0 0]++cs)))):=⟨nf_mk (fr0 _) (fr0 _),nf_mk (fr0 _) (fr0 _)⟩
   have HQ:=Hid.mk8 (And.intro hQ trivial);clear B7 O3 B6 hP hQ
   go_wp2_with (first | refine load_obj (w.heap.size+2) _ (by rfl) rfl B8 Tryz.underlying45 HL.out ?_ | refine store_cel (w.heap.size+1) _ _ rfl rfl B4 H9.out HL.out H1.out ?_);intro w9 B9 O9
   have HZ:=Hid.mk8 (And.intro B9 (And.intro (ki_mk hK (z7arg w9) (z8arg w9 (GG.kept (bw.trans (O9.below (by omega))))) (HQ.out.1.only B4 (nou_mk (z7arg w).arg.nou (z8a w).nou (z9arg w).arg.nou) O9)) (bw.trans (O9.below (by omega)))))
   clear B9 O9 B8 B4 HQ;go_wp2
   (try simp only[Exit.inBlock,Exit.then]);refine bodyPost_ret (result_cel rfl (w.heap.size+1) _ rfl HZ.out.1 Tryz.underlying45 HL.out) rfl ⟨_,rfl,?_,HZ.out.2.2,HNF.out⟩;rw[ew];exact HZ.out.2.1
  ·have ew:kB 3 N xs=⟨0,n7,n8,n9⟩:=kB_none 3 N xs (by rw[eE];exact z);have zz:(kE9 N xs != 0)=true:=by simp[z]
   clear eE z;generalize kE9 N xs=E1 at *;go_enter Tryz.func40,Tryz.ntmps40;go_wp2_with (refine store_cel (w.heap.size+2) _ _ rfl rfl B6 rfl hIV.out (by simp[Value.oneCell']) ?_);intro w1 B6 O1
   replace B0:=O1.cel B0 (by omega);replace B4:=O1.cel B4 (by omega);replace bw:=bw.trans (O1.below (by omega));clear O1;have r0:=B0.cell 0 rfl;have r1:=B0.cell 1 rfl;go_wp2_with fail;refine(H9.out _ bw).mono ?_
   rintro e w2 ⟨cs,rfl,hP,hb⟩;have sz:=B6.lt;have sz2:=hb.size;replace B4:=B4.kept hb;replace B6:=B6.kept hb;replace bw:=bw.trans (hb.mono bw.size);clear hb r0 r1 B0
   go_wp2_with (refine store_part (w.heap.size+2) (Value.int .i64 3::([Value.int .i64 0,.slice none 0 0,.slice none 0 0,.slice none 0 0]++[Value.int .i64 0,.int .i64 0,.int .i64 0,.int .i64 0,.slice none 0 0,.int .i64 0,.slice none 0 0,.slice none 0 0,.slice none 0 0])) [Value.int .i64 0,.int .i64 0,.int .i64 0,.int .i64 0,.int .i64 0,.slice none 0 0,.int .i64 0,.slice none 0 0] [] cs rfl rfl B6 hP.arg.nine hP.arg.len hP.arg.one ?_)
   intro w3 B7 O3;replace B4:=O3.cel B4 (by omega);replace bw:=bw.trans (O3.below (by omega));clear B7 O3 B6 hP;go_wp2_with (refine store_cel (w.heap.size+1) _ _ rfl rfl B4 rfl hIV.out (by simp[Value.oneCell']) ?_)
   intro w9 B9 O9;have HZ:=Hid.mk8 (And.intro B9 (bw.trans (O9.below (by omega))));clear B9 O9;go_wp2
   (try simp only[Exit.inBlock,Exit.then]);refine bodyPost_ret (result_cel rfl (w.heap.size+1) _ rfl HZ.out.1 Tryz.underlying45 hIV.out) rfl ⟨_,rfl,?_,HZ.out.2,nf_mk (fr0 _) (fr0 _),nf_mk (fr0 _) (fr0 _)⟩;rw[ew]
   exact ki_mk i64_0 (z7arg _) (z8arg _ (GG.kept HZ.out.2)) (z9arg _)
 have eE:kE k N xs=5:=by unfold kE;rw[if_neg q1,if_neg q2,if_neg q3]
 have ew:kB k N xs=⟨0,n7,n8,n9⟩:=kB_none k N xs (by rw[eE];decide);rw[eE];have d1:(k==1)=false:=by simp[q1]
 have d2:(k==2)=false:=by simp[q2]
 have d3:(k==3)=false:=by simp[q3]
 clear eE;go_enter Tryz.func40,Tryz.ntmps40;go_wp2_with (refine store_cel (w.heap.size+2) _ _ rfl rfl B6 rfl hIV.out (by simp[Value.oneCell']) ?_);intro w1 B6 O1;replace B0:=O1.cel B0 (by omega)
 replace B4:=O1.cel B4 (by omega);replace bw:=bw.trans (O1.below (by omega));clear O1;have r0:=B0.cell 0 rfl;have r1:=B0.cell 1 rfl
 go_wp2_with (refine store_cel (w.heap.size+1) _ _ rfl rfl B4 rfl hIV.out (by simp[Value.oneCell']) ?_);intro w9 B9 O9;have HZ:=Hid.mk8 (And.intro B9 (bw.trans (O9.below (by omega))));clear B9 O9;go_wp2
 (try simp only[Exit.inBlock,Exit.then]);refine bodyPost_ret (result_cel rfl (w.heap.size+1) _ rfl HZ.out.1 Tryz.underlying45 hIV.out) rfl ⟨_,rfl,?_,HZ.out.2,nf_mk (fr0 _) (fr0 _),nf_mk (fr0 _) (fr0 _)⟩;rw[ew]
 exact ki_mk i64_0 (z7arg _) (z8arg _ (GG.kept HZ.out.2)) (z9arg _)
end Go.Proofs.YtfnkklkdajlhlaaGreatDoor
namespace Go.Proofs.YtfnkklkdajlhlaaGreatDoor
open Num Bit
namespace Tw
def on(t:List Nat)(l i:Nat):Nat:=((List.range i).filter fun j=>tb l (gt t j)).length
end Tw
theorem tb_rem(c l:Nat)(hl:l<8):c/2^(7-l)%2=(Tw.tb l c).toNat:=by
 unfold Tw.tb;rw[Nat.testBit_eq_decide_div_mod_eq];rcases Nat.mod_two_eq_zero_or_one (c/2^(7-l))with h | h<;>simp[h]
end Go.Proofs.YtfnkklkdajlhlaaGreatDoor
namespace Go.Proofs.YtfnkklkdajlhlaaGreatDoor
open Go.RowKit Num Bit
theorem fill22'(c0 c1 c2 c3 c4 c5 c6 c7 c8 c9 c10 c11 c12 c13 c14 c15 c16 c17 c18 c19 c20 c21:Value):Instr.fill (fun i=>some (i*22,22)) ((Array.range (1*22)).map ((Value.agg zv.toArray).cells[·%(Value.agg zv.toArray).cells.size]!)) [(0,Value.agg #[c0,c1,c2,c3,c4,c5,c6,c7,c8,c9,c10,c11,c12,c13,c14,c15,c16,c17,c18,c19,c20,c21])]=some #[c0,c1,c2,c3,c4,c5,c6,c7,c8,c9,c10,c11,c12,c13,c14,c15,c16,c17,c18,c19,c20,c21]:=by kernel_rfl
theorem fill22(cs:List Value)(h:cs.length=22):Instr.fill (fun i=>some (i*22,22)) ((Array.range (1*22)).map ((Value.agg zv.toArray).cells[·%(Value.agg zv.toArray).cells.size]!)) [(0,Value.agg cs.toArray)]=some cs.toArray:=by
 match cs,h with
 | [c0,c1,c2,c3,c4,c5,c6,c7,c8,c9,c10,c11,c12,c13,c14,c15,c16,c17,c18,c19,c20,c21],_=>exact fill22' c0 c1 c2 c3 c4 c5 c6 c7 c8 c9 c10 c11 c12 c13 c14 c15 c16 c17 c18 c19 c20 c21
theorem build_one{ops:Array Oper}{rest:List Oper}{d:Option Tmp}{ty:TypeId}{ps:String}{af:Array Edge}{a:Act}{w:World}{Q:Exit→Act→World→Prop}{x:Operand}(cs:List Value)(hc:cs.length=22)(hx:a.eval x=.agg cs.toArray)
  (h:wpList Tryz.prog ops Q rest (a.put d (.slice (some ⟨w.heap.size,0,none⟩) 1 1)) (w.alloc (.cells cs.toArray 45))):
  wpList Tryz.prog ops Q (⟨d,.buildSlice 24 1 #[(0,x)],ty,ps,af,none⟩::rest) a w:=by
 obtain⟨i0,hi,hz0,hz1,hz2⟩:=info_parts info_vec;refine wpList_buildSlice rfl 24 45 1 #[(0,x)] rfl cs.toArray i0 (.agg zv.toArray) Tryz.underlying24 hi hz0 (by rw[hz1];decide) (by rw[hz1];decide) ?_ h;rw[hz1]
 simp only[List.map_toArray,List.map_cons,List.map_nil,hx];exact fill22 cs hc
theorem wpList_append_v{ops:Array Oper}{rest:List Oper}{o:Oper}{a:Act}{w:World}{Q:Exit→Act→World→Prop}(hgd:o.guard=none)(s x:Operand)
  (ho:o.op=.call { callee:=.builtin .append,args:=#[s,x],argTypes:=#[24,24] })
  (v:Value) (css:List (List Value)) (hs:a.eval s=v) (h:LO w v css) (hL:∀c∈css,c.length=22) (cs:List Value) (hc:cs.length=22) (ad:Addr) (c0:Nat) (hx:a.eval x=.slice (some ad) 1 c0) (hn:∀j u,cs[j]?=some u→w.cell? (ad.add j)=some u) (h1:∀u∈cs,u.oneCell'=true) (h8:css.length<8)
  (k:∀v' w',LO w' v' (css++[cs])→Tn w w' v css→(∀g,v'.ownBlock=some g→v.ownBlock=some g∨g=w.heap.size)→wpList Tryz.prog ops Q rest (a.put o.dst v') w'):wpList Tryz.prog ops Q (o::rest) a w:=
 wpList_plain hgd fun K hK=>wp_append_v s x ho v css hs h hL cs hc ad c0 hx hn h1 h8 fun v' w' h1 h2 h3=>hK _ _ (k v' w' h1 h2 h3)
theorem bl_own_t{w:World}{base n c:Nat}{ao:Option Addr}{f:Nat→Bool}(h:w.ownsRow base 4 1 (.slice ao n c) n (bvs n f)):Bl w ao (bls n f):=by
 intro h0;rw[length_bls]at h0;obtain⟨_,⟨e,_⟩ | ⟨g,cap,cur,e,_,hh,_,_,hs,ht⟩⟩:=h
 ·injection e with e1 e2 e3
  omega
 ·injection e with e1 e2 e3
  subst e1;refine⟨g,0,rfl,(Array.getElem?_eq_some_iff.1 hh).1,fun i hi=>?_⟩;rw[length_bls]at hi
  have e4:bt (bls n f) i=f i:=by
   unfold bt bls;rw[List.getD_eq_getElem?_getD,List.getElem?_map,List.getElem?_range hi];rfl
  have e5:cur.toList[i]?=some (.bool (f i)):=by
   have:=bvs_get n f i hi;rw[←ht,List.getElem?_take_of_lt (by omega)]at this;exact this
  rw[e4,Nat.zero_add];unfold World.cell?;rw[show w.heap[({ block:=g,off:=i,spot:=none }:Addr).block]?=_ from hh];simpa using e5
theorem own_byte{w:World}{base n c:Nat}{ao:Option Addr}{L:List Value}(h:w.ownsRow base 5 1 (.slice ao n c) n L)(i:Nat)(hi:i<n):∃g,ao=some ⟨g,0,none⟩∧g<w.heap.size∧∀u,L[i]?=some u→w.cell? ⟨g,i,none⟩=some u:=by
 obtain⟨_,⟨e,rfl⟩ | ⟨g,cap,cur,e,_,hh,_,_,hs,ht⟩⟩:=h
 ·omega
 ·injection e with e1 e2 e3
  subst e1;refine⟨g,rfl,(Array.getElem?_eq_some_iff.1 hh).1,fun u hu=>?_⟩;rw[←ht,List.getElem?_take_of_lt (by omega)]at hu;unfold World.cell?
  rw[show w.heap[({ block:=g,off:=i,spot:=none }:Addr).block]?=_ from hh];simpa using hu
theorem bvs_snoc(i:Nat)(f:Nat→Bool):bvs i f++[.bool (f i)]=bvs (i+1) f:=by
 unfold bvs;rw[List.range_succ,List.map_append];rfl
theorem plb_get(t:List Nat)(l i x:Nat)(h:(Tw.plc t l)[i]?=some x):(plb (Tw.plc t l) t)[i]?=some (.int .u8 (gt t x:Nat)):=by
 unfold plb;rw[List.getElem?_map,h];rfl
theorem rbuild_t(k:Int)(ao:Option Addr)(t:List Nat)(cap:Nat)(w:World)(hK:I64 k)(hx:Bd w ao t)(hB:Tw.Byt t)(hn:t.length≤3000)(G:GV w):
  Calls Tryz.prog 14 #[.int .i64 k,.slice ao t.length cap] w fun e w'=>∃lo lc,e=.returned (.tuple #[.agg #[.int .i64 (tBx k t).K,.int .i64 (tBx k t).N,.slice lo (tBx k t).av.length lc],.int .i64 (tbE k)])∧TI w' lo lc (tBx k t)∧Below w.heap.size w w':=by
 obtain⟨i4,hi4,za4,zb4,zc4⟩:=info_parts Tryz.info4
 have RO:Hid (∀w0 l,l<8→Below w.heap.size w w0→Calls Tryz.prog 38 #[.slice ao t.length cap,.int .i64 ((l:Nat):Int)] w0 fun e w'=>∃a8 c8,e=.returned (.slice a8 t.length c8)∧w'.ownsRow w0.heap.size 5 1 (.slice a8 t.length c8) t.length (plb (Tw.plc t l) t)∧Below w0.heap.size w0 w'):=fun w0 l hl hb=>by
  refine(rord_c ao t cap l w0 (hx.keep hb) hB (by omega) (by omega)).mono ?_;rintro e w' ⟨v,rfl,h1,h2⟩;obtain⟨a8,c8,rfl, -, -⟩:=Ap.owns_shape h1;rw[Tw.length_plc t l (by omega) hB]at h1⊢;exact⟨a8,c8,rfl,h1,h2⟩
 have FR:Hid (∀w0 l a9 c9,l<8→Bl w0 a9 (bls t.length (Tw.rb t l))→Calls Tryz.prog 39 #[.slice a9 t.length c9] w0 fun e w'=>∃bo dap,e=.returned (.tuple #[.agg #[.int .i64 t.length,.slice bo (rw_ t l).length dap],.int .i64 0])∧Wd w' bo (rw_ t l)∧(rw_ t l).length≤dap∧Below w0.heap.size w0 w'):=fun w0 l a9 c9 hl hc=>by
  have:=reffrom_c a9 (bls t.length (Tw.rb t l)) c9 w0 hc (by rw[length_bls];omega);rw[length_bls,fr_bls]at this;refine this.mono ?_;rintro e w' ⟨bo,dap,rfl,h1,h2,h3,h4⟩;exact⟨bo,dap,rfl,h1,h3,h4⟩
 have BK:Hid (∀w0 l bo dap,l<8→Wd w0 bo (rw_ t l)→(rw_ t l).length≤dap→GV w0→Calls Tryz.prog 40 #[.int .i64 k,.agg #[.int .i64 t.length,.slice bo (rw_ t l).length dap]] w0 fun e w'=>∃cs:List Value,e=.returned (.tuple #[.agg cs.toArray,.int .i64 (tbE k)])∧KI w' cs (kB k (t.length:Int) (rw_ t l))∧Below w0.heap.size w0 w'∧NFV w0.heap.size cs):=fun w0 l bo dap hl h1 h2 g0=>by
  have:=vbuild_k k (t.length:Int) bo (rw_ t l) dap w0 hK ⟨by omega,by omega⟩ h1 (fit_rowOf _ _) h2 ⟨by omega,by rw[length_rw_];omega⟩ g0;rw[kE_rw k t l (by omega)]at this;exact this
 have LP:Hid (∀l,l<8→(Tw.plc t l).length=t.length):=fun l hl=>Tw.length_plc t l (by omega) hB;obtain⟨n,hnn⟩:∃n,Hid (n=t.length):=⟨_,rfl⟩;have hn2:n≤3000:=by rw[hnn.out];exact hn
 have HB:=Hid.mkt hB;rw[←hnn.out]at RO BK FR LP⊢;obtain⟨E,hE⟩:∃E,Hid (E=tbE k):=⟨_,rfl⟩;rw[←hE.out]at BK⊢;have HG:=Hid.mkt (fun(w0:World) (hb:Below w.heap.size w w0)=>G.kept hb);clear hn hx hB G
 have n1:¬(8192:Int)<(n:Int):=by omega
 have c4:=(Cel.new w [.int .i64 0,.int .i64 0,.slice none 0 0] 26).alloc (.cells [.int .i64 k,.int .i64 (n:Int),.slice none 0 0].toArray 26)
 have c6:=Cel.new2 w (.cells [.int .i64 0,.int .i64 0,.slice none 0 0].toArray 26) [.int .i64 k,.int .i64 (n:Int),.slice none 0 0] 26
 have bA:Below w.heap.size w ((w.alloc (.cells [.int .i64 0,.int .i64 0,.slice none 0 0].toArray 26)).alloc (.cells [.int .i64 k,.int .i64 (n:Int),.slice none 0 0].toArray 26)):=(below_alloc w _).alloc (by simp) _
 go_enter Tryz.func14,Tryz.ntmps14;go_wp2
 go_loopw [7] (fun s wr=>∃(q:Nat) (css:List (List Value)) (v:Value),q≤8∧s=.int .i64 q∧Hid (css.length=q)∧Hid (0<q→E=0)∧Hid (∀gg,v.ownBlock=some gg→w.heap.size≤gg)∧RwO (w.heap.size+1) wr v k t css∧Cel wr (w.heap.size+1) [.int .i64 k,.int .i64 (n:Int),v] 26∧Cel wr w.heap.size [.int .i64 0,.int .i64 0,.slice none 0 0] 26∧Below w.heap.size w wr) (fun s _=>8-(intOf s).toNat)
 case atStart=>exact⟨0,[],.slice none 0 0,Nat.zero_le _,rfl,rfl,fun h=>absurd h (by decide),(fun gg h=>by cases h),RwO.nil _ _ _ _,c6,c4,bA⟩
 case round=>
  obtain⟨q,css,v,hq,rfl,hl,h0,hv0,hR,h6,h4,hb⟩:=hrel;clear c6 c4 bA;by_cases hi:q<8
  ·have hi2:(q:Int)<8:=by omega
   have RO1:=Hid.mkt (fun w0 hb=>RO.out w0 q hi hb);have FR1:=Hid.mkt (fun w0 a9 c9 h1=>FR.out w0 q a9 c9 hi h1);have BK1:=Hid.mkt (fun w0 bo dap h1 h2 h3=>BK.out w0 q bo dap hi h1 h2 h3)
   have LP1:=Hid.mkt (LP.out q hi);clear RO FR BK LP;go_wp2_with fail;refine(RO1.out _ hb).mono ?_;rintro e w2 ⟨a8,c8,rfl,own8,hb2⟩;replace hR:=hR.keep hb2;replace h6:=h6.kept hb2;replace h4:=h4.kept hb2
   replace hb:=hb.trans (hb2.mono hb.size);clear hb2 RO1;obtain⟨kk,hk⟩:∃kk,7-q=kk:=⟨_,rfl⟩;have mk:IntKind.i64.wrap (7-(q:Int))=(kk:Int):=by rw[IntKind.wrap_i64];omega
   have hk0:(0:Int)≤(kk:Int):=by omega
   have hk8:(kk:Int)<8:=by omega
   have H2:=Hid.mkt (And.intro own8 (And.intro hR (And.intro h6 (And.intro h4 hb))));clear own8 hR h6 h4 hb;go_wp2
   go_loopw [10,9] (fun s v9 wr=>∃i:Nat,i≤n∧s=.int .i64 i∧wr.ownsRow w2.heap.size 4 1 v9 i (bvs i (Tw.rb t q))∧Below w2.heap.size w2 wr) (fun s _ _=>n-(intOf s).toNat)
   case atStart=>exact⟨0,Nat.zero_le _,rfl,World.ownsRow_nil _ _ _ _,Below.refl _ _⟩
   case round=>
    obtain⟨i,hin,rfl,own9,jb⟩:=hrel;obtain⟨a9,c9,rfl,hc9, -⟩:=Ap.owns_shape own9;by_cases hlt:i<n
    ·have hlt2:(i:Int)<(n:Int):=by omega
     obtain⟨y,hy⟩:∃y,(Tw.plc t q)[i]?=some y:=⟨_,List.getElem?_eq_getElem (by rw[LP1.out];exact hlt)⟩;obtain⟨g8,rfl,hg8,hcell⟩:=own_byte H2.out.1 i hlt
     have e2:=(jb.cell (p:=⟨g8,i,none⟩) hg8).trans (hcell _ (plb_get t q i y hy))
     have hr:Tw.tb q (gt t y)=Tw.rb t q i:=by
      unfold Tw.rb;rw[List.getD_eq_getElem?_getD,hy];rfl
     have hc:=HB.out y;have tr:=tb_rem (gt t y) q hi;rw[hk,hr]at tr;have bs:=Hid.mkt (bvs_snoc i (Tw.rb t q));generalize gt t y=C at *;obtain⟨R,hRR⟩:∃R,Hid (R=Tw.rb t q i):=⟨_,rfl⟩;rw[←hRR.out]at tr bs
     have sc:(C:Int)/2^kk=((C/2^kk:Nat):Int):=shr_cast C kk;obtain⟨Y,hY⟩:∃Y,C/2^kk=Y:=⟨_,rfl⟩;rw[hY]at sc tr
     have yb:Y<256:=by rw[←hY];exact Nat.lt_of_le_of_lt (Nat.div_le_self _ _) hc
     have tr2:((Y:Int)).tmod 2=((R.toNat:Nat):Int):=by rw[Int.tmod_eq_emod_of_nonneg (by omega)];omega
     have tr4:(((R.toNat:Nat):Int)==1)=R:=by cases R<;>rfl
     clear hcell hy hr hY hk tr;have bA:=below_alloc wr (.cells #[.bool R] 4);have own3:=Ap.owns_below own9 bA
     have src3:(wr.alloc (.cells #[.bool R] 4)).cell? ⟨wr.heap.size,0,none⟩=some (.bool R):=(Cel.new wr [.bool R] 4).cell 0 rfl;have jb3:=jb.trans (bA.mono jb.size)
     have g3:w2.heap.size≤(wr.alloc (.cells #[.bool R] 4)).heap.size:=jb3.size;clear bA own9 jb;generalize bvs i (Tw.rb t q)=L9 at *
     go_wp2_with (at_builtin;refine Ap.wpList_append_u rfl _ _ 85 rfl w2.heap.size 4 i4 (.bool false) 1 Tryz.underlying85 hi4 za4 zb4 zc4 rfl (.slice a9 i c9) i L9 rfl own3 (some ⟨wr.heap.size,0,none⟩) 1 1 [.bool R] rfl rfl ?d1 ?d2 ?d3 ?d4 ?d5 ?_)
     case d1=>exact fun _=>⟨_,rfl,fun j u hj=>by
      match j,hj with
      | 0,hj=>simp at hj;subst hj;exact src3⟩
     case d2=>intro u hu;simp at hu;subst hu;rfl
     case d3=>unfold maxLen;omega
     case d4=>omega
     case d5=>exact g3
     intro so sc w4 own4 hle4 hB4;have HO:=Hid.mkt (And.intro own4 (jb3.trans hB4));clear own4 own3 hB4 jb3 src3 g3;go_wp2;refine⟨⟨i+1,by omega,by go_num,?_,HO.out.2⟩,by simp only[intOf];omega⟩;rw[←bs.out]
     exact HO.out.1
    ·obtain rfl:i=n:=by omega
     have hbl:=bl_own_t own9;obtain⟨own8,hR,h6,h4,hb⟩:=H2.out;replace hR:=hR.keep jb;replace h6:=h6.kept jb;replace h4:=h4.kept jb;replace hb:=hb.trans (jb.mono hb.size)
     have m8:∃m,Hid (m=(rw_ t q).length):=⟨_,rfl⟩;obtain⟨m,hm⟩:=m8;rw[←hm.out]at FR1 BK1;clear own8 own9 jb H2 hk;go_wp2_with fail;refine(FR1.out _ _ _ hbl).mono ?_;rintro e w3 ⟨bo,dap,rfl,x1,x2,hb3⟩
     replace hR:=hR.keep hb3;replace h6:=h6.kept hb3;replace h4:=h4.kept hb3;replace hb:=hb.trans (hb3.mono hb.size);clear hb3 FR1 hbl;have b4:=below_alloc w3 (.cells #[.int .i64 (i:Int),.slice bo m dap] 33)
     have c11:=Cel.new w3 [.int .i64 (i:Int),.slice bo m dap] 33;replace hR:=hR.keep b4;replace h6:=h6.kept b4;replace h4:=h4.kept b4;replace x1:=x1.keep b4;replace hb:=hb.trans (b4.mono hb.size);clear b4
     have y0:=c11.cell 0 rfl;have y1:=c11.cell 1 rfl;go_wp2_with fail;refine(BK1.out _ bo dap x1 x2 (HG.out _ hb)).mono ?_;rintro e w5 ⟨cs,rfl,hki,hb5,nf⟩
     have lL:(∀gg,v.ownBlock=some gg→NE gg cs)∧∀g0,g0≤w.heap.size+1→NE g0 cs:=by
      refine⟨fun gg hg=>?_,fun g0 hg0=>nf.ne (by have:=h6.lt;omega)⟩;refine nf.ne ?_;rcases hR.lo with⟨rfl,_⟩ | ⟨g',cp,rfl,_,ce⟩
      ·cases hg
      ·injection hg with e
       have:=ce.lt;rw[←e];exact this
     replace hR:=hR.keep hb5;replace h6:=h6.kept hb5;replace h4:=h4.kept hb5;replace hb:=hb.trans (hb5.mono hb.size);clear hb5 BK1 x1 x2 nf y0 y1 c11;have HL:=Hid.mkt hki.arg.len;have H1:=Hid.mkt hki.arg.one
     have H22:=Hid.mkt (len_zv.trans hki.arg.nine);have l4:w.heap.size<w5.heap.size:=h4.lt;have l6:w.heap.size+1<w5.heap.size:=h6.lt;go_wp2_with (refine alloc_z zv info_zv ?_);intro w6 c13 b6 s6
     go_wp2_with (refine store_cel w5.heap.size zv cs rfl rfl c13 H22.out HL.out H1.out ?_);intro w7 c13 o7;have b7:Below w5.heap.size w5 w7:=b6.trans (o7.below (Nat.le_refl _));replace hR:=hR.keep b7
     replace h6:=h6.kept b7;replace h4:=h4.kept b7;replace hki:=hki.keep b7;replace hb:=hb.trans (b7.mono hb.size);have l7:w5.heap.size≤w7.heap.size:=b7.size;clear b6 s6 o7 b7;generalize w5.heap.size=g13 at *
     by_cases z:E=0
     ·subst z;have x2:=h6.cell 2 rfl;have fz:=h6.frozen 2;have ncs:cs.length=22:=hki.arg.nine.symm
      have h1':∀u∈cs,u.oneCell'=true:=fun u hu=>by
       have:=H1.out;rw[List.all_toArray,List.all_eq_true]at this;exact this u hu
      have bA:=below_alloc w7 (.cells cs.toArray 45);have cA:=Cel.new w7 cs 45;have hRA:=hR.keep bA;have h6A:=h6.kept bA;have h4A:=h4.kept bA;have hkA:=hki.keep bA;have hbA:=hb.trans (bA.mono hb.size)
      have HN:=Hid.mkt ncs;have HR:=Hid.mkt (And.intro hRA (And.intro hkA lL));have H11:=Hid.mkt h1';have HA:=Hid.mkt (And.intro h6A (And.intro h4A hbA))
      have lA:w.heap.size+1<(w7.alloc (.cells cs.toArray 45)).heap.size:=h6A.lt;clear hR h6 h4 hki hb hRA h6A h4A hkA hbA lL h1' ncs bA
      go_wp2_with (first | refine load_obj g13 cs (by rfl) rfl c13 Tryz.underlying45 HL.out ?_ | refine build_one cs HN.out rfl ?_ | (at_builtin;refine wpList_append_v rfl _ _ rfl v css rfl HR.out.1.lo HR.out.1.l22 cs HN.out ⟨w7.heap.size,0,none⟩ 1 rfl ?n1 H11.out (by rw[hl.out];exact hi) ?_))
      intro v' w8 hLO hTn hv
      have hv2:∀gg,v'.ownBlock=some gg→v.ownBlock=some gg∨gg=(w7.alloc (.cells cs.toArray 45)).heap.size:=fun gg hg=>by
       rw[show(w7.alloc (.cells cs.toArray 45)).heap.size=w7.heap.size+1 by simp];exact hv gg hg
      clear hv
      obtain⟨g',cp',ev⟩:∃g' cp',v'=.slice (some ⟨g',0,none⟩) (q+1) cp':=by
       rcases hLO with⟨_,e⟩ | ⟨g',cp',e1,_,_⟩
       ·simp at e
       ·refine⟨g',cp',?_⟩;rw[e1,List.length_append,hl.out];rfl
      subst ev;have hR8:=HR.out.1.push (by rw[hl.out,←hnn.out];exact HR.out.2.1) HR.out.2.2 hLO hTn hv2 (HG.out _ (HA.out.2.2.trans (hTn.below hv0.out HA.out.2.2.size)));have h68:=hTn.cel HA.out.1 (by decide)
      have h48:=hTn.cel HA.out.2.1 (by decide);have hb8:Below w.heap.size w w8:=HA.out.2.2.trans (hTn.below hv0.out HA.out.2.2.size)
      have hv8:∀gg,(Value.slice (some ⟨g',0,none⟩) (q+1) cp').ownBlock=some gg→w.heap.size≤gg:=fun gg hg=>by
       rcases hv2 gg hg with e | rfl
       ·exact hv0.out gg e
       ·exact HA.out.2.2.size
      have nv:Nou [.int .i64 k,.int .i64 (i:Int),v]:=fun u hu nn ee=>by
       subst ee;rcases HR.out.1.lo with⟨rfl,_⟩ | ⟨g',cp,rfl,_,_⟩<;>simp at hu
      have z2:=h68.cell 2 rfl;have fz2:=h68.frozen 2;have o9:Only (w.heap.size+1) w8 (w8.setCell ⟨w.heap.size+1,2,none⟩ (.slice (some ⟨g',0,none⟩) (q+1) cp')):=(Only.refl _ _).set 2 _
      have HF:=Hid.mkt (And.intro (hR8.only (Nat.le_refl _) h68 (by decide) nv o9 (HG.out _ (hb8.trans (o9.below (by omega))))) (And.intro (h68.set 2 (.slice (some ⟨g',0,none⟩) (q+1) cp')) (And.intro (o9.cel h48 (by omega)) (hb8.trans (o9.below (by omega))))))
      have HV:=Hid.mkt hv8;have l8:Hid ((css++[cs]).length=q+1):=by show _=_;rw[List.length_append,hl.out];rfl
      clear hR8 h68 h48 hb8 hv8 nv o9 hLO hTn hv2 HR HA x2 fz;go_wp2
      exact⟨⟨q+1,css++[cs],.slice (some ⟨g',0,none⟩) (q+1) cp',by omega,by go_num,l8.out,fun _=>trivial,HV.out,HF.out⟩,by simp only[intOf];omega⟩
     ·have zz:(E != 0)=true:=by simp[z]
      have eB:tBx k t=⟨0,0,[]⟩:=by unfold tBx;rw[if_neg (by rw[←hE.out];exact z)]
      clear hR h6 hki c13;go_wp2_with (refine store_cel w.heap.size [.int .i64 0,.int .i64 0,.slice none 0 0] [.int .i64 0,.int .i64 0,.slice none 0 0] rfl rfl h4 rfl (by kernel_rfl) (by simp[Value.oneCell']) ?_)
      intro w8 c8' o8;have HC:=Hid.mkt (And.intro c8' (hb.trans (o8.below (Nat.le_refl _))));clear c8' o8 h4 hb;go_wp2
      (try simp only[Exit.inBlock,Exit.then]);refine bodyPost_ret (result_cel rfl w.heap.size _ rfl HC.out.1 Tryz.underlying26 (by kernel_rfl)) rfl ⟨none,0,?_,?_,HC.out.2⟩
      ·rw[eB];rfl
      ·rw[eB];exact⟨⟨by decide,by decide⟩,⟨by decide,by decide⟩,Nat.le_refl _,fun h=>absurd h (by decide),HG.out _ HC.out.2⟩
  ·obtain rfl:q=8:=by omega
   clear RO FR BK LP;have z:=h0.out (by decide);subst z;obtain⟨gL,lc,rfl,hlc,hlv⟩:=hR.lv hl.out;have x0:=h6.cell 0 rfl;have x1:=h6.cell 1 rfl;have x2:=h6.cell 2 rfl;have HV:=Hid.mkt (And.intro hR hv0.out)
   go_wp2_with (refine store_cel w.heap.size [.int .i64 0,.int .i64 0,.slice none 0 0] [.int .i64 k,.int .i64 (n:Int),.slice (some ⟨gL,0,none⟩) 8 lc] rfl rfl h4 rfl (by kernel_rfl) (by simp[Value.oneCell']) ?_)
   intro w6 c6 o6
   have lvk:Lv w6 (some ⟨gL,0,none⟩) ((List.range 8).map fun l=>kB k (t.length:Int) (rw_ t l)):=by
    obtain⟨g2,c2,e2,_,hl2⟩:=(hR.only (Nat.le_succ _) h4 (by decide) (fun u hu nn ee=>by subst ee;simp at hu) o6 (HG.out _ (hb.trans (o6.below (Nat.le_refl _))))).lv hl.out;injection e2 with e2 e3 e4
    rw[e2];exact hl2
   have HC:=Hid.mkt (And.intro c6 (And.intro lvk (hb.trans (o6.below (Nat.le_refl _)))));clear c6 o6 h4 hb x0 x1 x2 HV hR h6 hlv lvk;go_wp2
   (try simp only[Exit.inBlock,Exit.then]);have eB:tBx k t=tB k t:=by unfold tBx;rw[if_pos hE.out.symm]
   refine bodyPost_ret (result_cel rfl w.heap.size _ rfl HC.out.1 Tryz.underlying26 (by kernel_rfl)) rfl ⟨some ⟨gL,0,none⟩,lc,?_,?_,HC.out.2.2⟩
   ·rw[eB];unfold tB;rw[←hnn.out];rfl
   ·rw[eB];exact⟨hK,⟨by show _≤((t.length:Nat):Int);omega,by show((t.length:Nat):Int)≤_;rw[←hnn.out];omega⟩,by simpa [tB]using hlc,HC.out.2.1,HG.out _ HC.out.2.2⟩
theorem norw1(N:Int)(n:Nat):norw [(N,n)]=(decide (N=0)&&decide ((n:Int)=0)):=by simp[norw]
theorem norw2(p q:Int×Nat):norw [p,q]=(norw [p]&&norw [q]):=by simp[norw]
theorem none_c(N:Int)(ao:Option Addr)(n cap:Nat)(w:World):
  Calls Tryz.prog 105 #[.agg #[.int .i64 N,.slice ao n cap]] w fun e w'=>e=.returned (.bool (norw [(N,n)]))∧Below w.heap.size w w':=by
 rw[norw1];by_cases q:N=0
 ·subst q;by_cases r:(n:Int)=0
  ·have d:((n:Int)==0)=true:=by simp only[r];rfl
   rw[decide_eq_true r];go_enter Tryz.func105,Tryz.ntmps105;go_wp2;go_ret;exact⟨rfl,below_alloc _ _⟩
  ·have d:((n:Int)==0)=false:=beq_eq_false_iff_ne.2 r;rw[decide_eq_false r];go_enter Tryz.func105,Tryz.ntmps105;go_wp2;go_ret;exact⟨rfl,below_alloc _ _⟩
 ·have d:(N==0)=false:=beq_eq_false_iff_ne.2 q;rw[decide_eq_false q];go_enter Tryz.func105,Tryz.ntmps105;go_wp2;go_ret;exact⟨rfl,below_alloc _ _⟩
def nons(k V M:Int)(n:Nat):Bool:=decide (k=0)&&(decide (V=0)&&norw [(M,n)])
theorem nones_c(k V M:Int)(ao:Option Addr)(n cap:Nat)(w:World):
  Calls Tryz.prog 106 #[.agg #[.int .i64 k,.int .i64 V,.int .i64 M,.slice ao n cap]] w fun e w'=>e=.returned (.bool (nons k V M n))∧Below w.heap.size w w':=by
 unfold nons;by_cases q:k=0
 ·subst q;by_cases r:V=0
  ·subst r;have C:=none_c M ao n cap;generalize norw [(M,n)]=R at *;go_enter Tryz.func106,Tryz.ntmps106;go_wp2_with fail;refine(C _).mono ?_;rintro e w1 ⟨rfl,hb⟩;have bw:=(below_alloc w _).trans (hb.mono (by simp))
   go_wp2;go_ret;exact⟨by cases R<;>rfl,bw⟩
  ·have d:(V==0)=false:=beq_eq_false_iff_ne.2 r;rw[decide_eq_false r];go_enter Tryz.func106,Tryz.ntmps106;go_wp2;go_ret;exact⟨rfl,below_alloc _ _⟩
 ·have d:(k==0)=false:=beq_eq_false_iff_ne.2 q;rw[decide_eq_false q];go_enter Tryz.func106,Tryz.ntmps106;go_wp2;go_ret;exact⟨rfl,below_alloc _ _⟩
theorem zero_c(cs:List Value)(a:RA)(w:World)(h:KI w cs a):
  Calls Tryz.prog 56 #[.agg cs.toArray] w fun e w'=>e=.returned (.bool (kZs a))∧Below w.heap.size w w':=by
 obtain⟨⟨cp,cr,cf,rfl,hK,h1,h2,h3⟩,sm⟩:=h;have s1:=sm.p2;have s2:=sm.p3;have s3:=sm.r3;have s4:=sm.r4;clear sm
 obtain⟨K,⟨N,xs,S,T⟩,⟨N8,k8,V8,M8,x8,L8,y8,S8,T8⟩,⟨N9,M9,k9,V9,L9,x9,H9,y9⟩⟩:=a;dsimp only at *;obtain⟨ao,cap,so,sc,tO,tc,rfl, -⟩:=h1;obtain⟨a8,e8,q8,d8,s8,f8,t8,g8,rfl, -⟩:=h2
 obtain⟨a9,e9,q9,d9,rfl, -⟩:=h3;dsimp only at *;obtain⟨Z,hZ⟩:∃Z,Hid (Z=kZs ⟨K,⟨N,xs,S,T⟩,⟨N8,k8,V8,M8,x8,L8,y8,S8,T8⟩,⟨N9,M9,k9,V9,L9,x9,H9,y9⟩⟩):=⟨_,rfl⟩
 obtain⟨A,hA⟩:∃A,Hid (A=z7 ⟨N,xs,S,T⟩):=⟨_,rfl⟩;obtain⟨B,hB⟩:∃B,Hid (B=z8 ⟨N8,k8,V8,M8,x8,L8,y8,S8,T8⟩):=⟨_,rfl⟩;obtain⟨C,hC⟩:∃C,Hid (C=z9 ⟨N9,M9,k9,V9,L9,x9,H9,y9⟩):=⟨_,rfl⟩
 have hZ2:Hid (Z=((decide (K=1)||A)&&((decide (K=2)||B)&&(decide (K=3)||C)))):=by
  show Z=_;rw[hZ.out,hA.out,hB.out,hC.out];rfl
 rw[←hZ.out]
 have EA:Hid (A=(norw [(N,xs.length)]&&decide ((S.length:Int)+(T.length:Int)=0))):=by
  show A=_;rw[hA.out];unfold z7;dsimp only;congr 1;rw[←Bool.decide_and];congr 1;simp only[eq_iff_iff];omega
 have EB:Hid (B=(decide (N8=0)&&(nons k8 V8 M8 x8.length&&(norw [(L8,y8.length)]&&decide ((S8.length:Int)+(T8.length:Int)=0))))):=by
  show B=_;rw[hB.out];unfold z8 nons;dsimp only
  rw[norw2,show decide ((S8.length:Int)+(T8.length:Int)=0)=(decide ((S8.length:Int)=0)&&decide ((T8.length:Int)=0))by rw[←Bool.decide_and];congr 1;simp only[eq_iff_iff];omega]
  simp only[Bool.and_assoc]
 have EC:Hid (C=(decide (N9=0)&&(decide (M9=0)&&(nons k9 V9 L9 x9.length&&norw [(H9,y9.length)])))):=by
  show C=_;rw[hC.out];unfold z9 nons;dsimp only;rw[norw2];simp only[Bool.and_assoc]
 clear hZ hA hB hC;have wS:IntKind.i64.wrap ((S.length:Int)+(T.length:Int))=(S.length:Int)+(T.length:Int):=by rw[IntKind.wrap_i64];omega
 have wS8:IntKind.i64.wrap ((S8.length:Int)+(T8.length:Int))=(S8.length:Int)+(T8.length:Int):=by rw[IntKind.wrap_i64];omega
 have N1:Hid (∀w0:World,Calls Tryz.prog 105 #[.agg #[.int .i64 N,.slice ao xs.length cap]] w0 fun e w'=>e=.returned (.bool (norw [(N,xs.length)]))∧Below w0.heap.size w0 w'):=fun w0=>none_c N ao xs.length cap w0
 have N2:Hid (∀w0:World,Calls Tryz.prog 106 #[.agg #[.int .i64 k8,.int .i64 V8,.int .i64 M8,.slice a8 x8.length e8]] w0 fun e w'=>e=.returned (.bool (nons k8 V8 M8 x8.length))∧Below w0.heap.size w0 w'):=fun w0=>nones_c k8 V8 M8 a8 x8.length e8 w0
 have N3:Hid (∀w0:World,Calls Tryz.prog 105 #[.agg #[.int .i64 L8,.slice q8 y8.length d8]] w0 fun e w'=>e=.returned (.bool (norw [(L8,y8.length)]))∧Below w0.heap.size w0 w'):=fun w0=>none_c L8 q8 y8.length d8 w0
 have N4:Hid (∀w0:World,Calls Tryz.prog 106 #[.agg #[.int .i64 k9,.int .i64 V9,.int .i64 L9,.slice a9 x9.length e9]] w0 fun e w'=>e=.returned (.bool (nons k9 V9 L9 x9.length))∧Below w0.heap.size w0 w'):=fun w0=>nones_c k9 V9 L9 a9 x9.length e9 w0
 have N5:Hid (∀w0:World,Calls Tryz.prog 105 #[.agg #[.int .i64 H9,.slice q9 y9.length d9]] w0 fun e w'=>e=.returned (.bool (norw [(H9,y9.length)]))∧Below w0.heap.size w0 w'):=fun w0=>none_c H9 q9 y9.length d9 w0
 have B0:Cel (w.alloc (.cells ([.int .i64 K,.int .i64 N,.slice ao xs.length cap,.slice so S.length sc,.slice tO T.length tc,.int .i64 N8,.int .i64 k8,.int .i64 V8,.int .i64 M8,.slice a8 x8.length e8,.int .i64 L8,.slice q8 y8.length d8,.slice s8 S8.length f8,.slice t8 T8.length g8,.int .i64 N9,.int .i64 M9,.int .i64 k9,.int .i64 V9,.int .i64 L9,.slice a9 x9.length e9,.int .i64 H9,.slice q9 y9.length d9]:List Value).toArray 45)) w.heap.size [.int .i64 K,.int .i64 N,.slice ao xs.length cap,.slice so S.length sc,.slice tO T.length tc,.int .i64 N8,.int .i64 k8,.int .i64 V8,.int .i64 M8,.slice a8 x8.length e8,.int .i64 L8,.slice q8 y8.length d8,.slice s8 S8.length f8,.slice t8 T8.length g8,.int .i64 N9,.int .i64 M9,.int .i64 k9,.int .i64 V9,.int .i64 L9,.slice a9 x9.length e9,.int .i64 H9,.slice q9 y9.length d9] 45:=Cel.new w _ _
 have bw:Below w.heap.size w (w.alloc (.cells ([.int .i64 K,.int .i64 N,.slice ao xs.length cap,.slice so S.length sc,.slice tO T.length tc,.int .i64 N8,.int .i64 k8,.int .i64 V8,.int .i64 M8,.slice a8 x8.length e8,.int .i64 L8,.slice q8 y8.length d8,.slice s8 S8.length f8,.slice t8 T8.length g8,.int .i64 N9,.int .i64 M9,.int .i64 k9,.int .i64 V9,.int .i64 L9,.slice a9 x9.length e9,.int .i64 H9,.slice q9 y9.length d9]:List Value).toArray 45)):=below_alloc w _
 generalize hsum:(S.length:Int)+(T.length:Int)=s7 at *;generalize hsum8:(S8.length:Int)+(T8.length:Int)=s78 at *;go_enter Tryz.func56,Tryz.ntmps56;go_upto_region 1 with fail
 go_cut [3] (fun s3 wx=>s3=.bool A∧Cel wx w.heap.size [.int .i64 K,.int .i64 N,.slice ao xs.length cap,.slice so S.length sc,.slice tO T.length tc,.int .i64 N8,.int .i64 k8,.int .i64 V8,.int .i64 M8,.slice a8 x8.length e8,.int .i64 L8,.slice q8 y8.length d8,.slice s8 S8.length f8,.slice t8 T8.length g8,.int .i64 N9,.int .i64 M9,.int .i64 k9,.int .i64 V9,.int .i64 L9,.slice a9 x9.length e9,.int .i64 H9,.slice q9 y9.length d9] 45∧Below w.heap.size w wx)
 case first=>
  have c1:=B0.cell 1 rfl;have c2:=B0.cell 2 rfl;have c3:=B0.cell 3 rfl;have c4:=B0.cell 4 rfl;cases hn:norw [(N,xs.length)]with
  | false=>
   rw[hn]at N1;go_wp2_with fail;refine(N1.out _).mono ?_;rintro e w1 ⟨rfl,hb⟩;replace B0:=B0.kept hb;replace bw:=bw.trans (hb.mono bw.size);clear hb c1 c2 c3 c4;have c1:=B0.cell 1 rfl;have c2:=B0.cell 2 rfl
   have c3:=B0.cell 3 rfl;have c4:=B0.cell 4 rfl;go_wp2_with fail;go_meet;refine⟨?_,B0,bw⟩;rw[EA.out];simp[hn]
  | true=>
   rw[hn]at N1;by_cases q:s7=0
   ·have d:(s7==0)=true:=by simp[q]
    go_wp2_with fail;refine(N1.out _).mono ?_;rintro e w1 ⟨rfl,hb⟩;replace B0:=B0.kept hb;replace bw:=bw.trans (hb.mono bw.size);clear hb c1 c2 c3 c4;have c1:=B0.cell 1 rfl;have c2:=B0.cell 2 rfl
    have c3:=B0.cell 3 rfl;have c4:=B0.cell 4 rfl;go_wp2_with fail;go_meet;refine⟨?_,B0,bw⟩;rw[EA.out];simp[hn,q]
   ·have d:(s7==0)=false:=by simp[q]
    go_wp2_with fail;refine(N1.out _).mono ?_;rintro e w1 ⟨rfl,hb⟩;replace B0:=B0.kept hb;replace bw:=bw.trans (hb.mono bw.size);clear hb c1 c2 c3 c4;have c1:=B0.cell 1 rfl;have c2:=B0.cell 2 rfl
    have c3:=B0.cell 3 rfl;have c4:=B0.cell 4 rfl;go_wp2_with fail;go_meet;refine⟨?_,B0,bw⟩;rw[EA.out];simp[hn,q]
 case rest=>
 obtain⟨rfl,B1,bw1⟩:=hcut;clear N1 EA B0 bw wS hsum;have B0:=B1;have bw:=bw1;clear B1 bw1;go_upto_region 2 with fail
 go_cut [4] (fun s4 wx=>s4=.bool B∧Cel wx w.heap.size [.int .i64 K,.int .i64 N,.slice ao xs.length cap,.slice so S.length sc,.slice tO T.length tc,.int .i64 N8,.int .i64 k8,.int .i64 V8,.int .i64 M8,.slice a8 x8.length e8,.int .i64 L8,.slice q8 y8.length d8,.slice s8 S8.length f8,.slice t8 T8.length g8,.int .i64 N9,.int .i64 M9,.int .i64 k9,.int .i64 V9,.int .i64 L9,.slice a9 x9.length e9,.int .i64 H9,.slice q9 y9.length d9] 45∧Below w.heap.size w wx)
 case first=>
  have c5:=B0.cell 5 rfl;have c6:=B0.cell 6 rfl;have c7:=B0.cell 7 rfl;have c8:=B0.cell 8 rfl;have c9:=B0.cell 9 rfl;have c10:=B0.cell 10 rfl;have c11:=B0.cell 11 rfl;have c12:=B0.cell 12 rfl
  have c13:=B0.cell 13 rfl;by_cases q:N8=0;rotate_left
  ·have d:(N8==0)=false:=by simp[q]
   go_wp2_with fail;go_meet;refine⟨?_,B0,bw⟩;rw[EB.out];simp[q]
  subst q;cases hn:nons k8 V8 M8 x8.length with
  | false=>
   rw[hn]at N2;go_wp2_with fail;refine(N2.out _).mono ?_;rintro e w1 ⟨rfl,hb⟩;replace B0:=B0.kept hb;replace bw:=bw.trans (hb.mono bw.size);clear hb c5 c6 c7 c8 c9 c10 c11 c12 c13;have c5:=B0.cell 5 rfl
   have c6:=B0.cell 6 rfl;have c7:=B0.cell 7 rfl;have c8:=B0.cell 8 rfl;have c9:=B0.cell 9 rfl;have c10:=B0.cell 10 rfl;have c11:=B0.cell 11 rfl;have c12:=B0.cell 12 rfl;have c13:=B0.cell 13 rfl;go_wp2_with fail
   go_meet;refine⟨?_,B0,bw⟩;rw[EB.out];simp[hn]
  | true=>
   rw[hn]at N2;cases hm:norw [(L8,y8.length)]with
   | false=>
    rw[hm]at N3;go_wp2_with fail;refine(N2.out _).mono ?_;rintro e w1 ⟨rfl,hb⟩;replace B0:=B0.kept hb;replace bw:=bw.trans (hb.mono bw.size);clear hb c5 c6 c7 c8 c9 c10 c11 c12 c13;have c5:=B0.cell 5 rfl
    have c6:=B0.cell 6 rfl;have c7:=B0.cell 7 rfl;have c8:=B0.cell 8 rfl;have c9:=B0.cell 9 rfl;have c10:=B0.cell 10 rfl;have c11:=B0.cell 11 rfl;have c12:=B0.cell 12 rfl;have c13:=B0.cell 13 rfl
    go_wp2_with fail;refine(N3.out _).mono ?_;rintro e w2 ⟨rfl,hb⟩;replace B0:=B0.kept hb;replace bw:=bw.trans (hb.mono bw.size);clear hb c5 c6 c7 c8 c9 c10 c11 c12 c13;have c5:=B0.cell 5 rfl;have c6:=B0.cell 6 rfl
    have c7:=B0.cell 7 rfl;have c8:=B0.cell 8 rfl;have c9:=B0.cell 9 rfl;have c10:=B0.cell 10 rfl;have c11:=B0.cell 11 rfl;have c12:=B0.cell 12 rfl;have c13:=B0.cell 13 rfl;go_wp2_with fail;go_meet
    refine⟨?_,B0,bw⟩;rw[EB.out];simp[hn,hm]
   | true=>
    rw[hm]at N3;by_cases q:s78=0
    ·have d:(s78==0)=true:=by simp[q]
     go_wp2_with fail;refine(N2.out _).mono ?_;rintro e w1 ⟨rfl,hb⟩;replace B0:=B0.kept hb;replace bw:=bw.trans (hb.mono bw.size);clear hb c5 c6 c7 c8 c9 c10 c11 c12 c13;have c5:=B0.cell 5 rfl;have c6:=B0.cell 6 rfl
     have c7:=B0.cell 7 rfl;have c8:=B0.cell 8 rfl;have c9:=B0.cell 9 rfl;have c10:=B0.cell 10 rfl;have c11:=B0.cell 11 rfl;have c12:=B0.cell 12 rfl;have c13:=B0.cell 13 rfl;go_wp2_with fail
     refine(N3.out _).mono ?_;rintro e w2 ⟨rfl,hb⟩;replace B0:=B0.kept hb;replace bw:=bw.trans (hb.mono bw.size);clear hb c5 c6 c7 c8 c9 c10 c11 c12 c13;have c5:=B0.cell 5 rfl;have c6:=B0.cell 6 rfl
     have c7:=B0.cell 7 rfl;have c8:=B0.cell 8 rfl;have c9:=B0.cell 9 rfl;have c10:=B0.cell 10 rfl;have c11:=B0.cell 11 rfl;have c12:=B0.cell 12 rfl;have c13:=B0.cell 13 rfl;go_wp2_with fail;go_meet
     refine⟨?_,B0,bw⟩;rw[EB.out];simp[hn,hm,q]
    ·have d:(s78==0)=false:=by simp[q]
     go_wp2_with fail;refine(N2.out _).mono ?_;rintro e w1 ⟨rfl,hb⟩;replace B0:=B0.kept hb;replace bw:=bw.trans (hb.mono bw.size);clear hb c5 c6 c7 c8 c9 c10 c11 c12 c13;have c5:=B0.cell 5 rfl;have c6:=B0.cell 6 rfl
     have c7:=B0.cell 7 rfl;have c8:=B0.cell 8 rfl;have c9:=B0.cell 9 rfl;have c10:=B0.cell 10 rfl;have c11:=B0.cell 11 rfl;have c12:=B0.cell 12 rfl;have c13:=B0.cell 13 rfl;go_wp2_with fail
     refine(N3.out _).mono ?_;rintro e w2 ⟨rfl,hb⟩;replace B0:=B0.kept hb;replace bw:=bw.trans (hb.mono bw.size);clear hb c5 c6 c7 c8 c9 c10 c11 c12 c13;have c5:=B0.cell 5 rfl;have c6:=B0.cell 6 rfl
     have c7:=B0.cell 7 rfl;have c8:=B0.cell 8 rfl;have c9:=B0.cell 9 rfl;have c10:=B0.cell 10 rfl;have c11:=B0.cell 11 rfl;have c12:=B0.cell 12 rfl;have c13:=B0.cell 13 rfl;go_wp2_with fail;go_meet
     refine⟨?_,B0,bw⟩;rw[EB.out];simp[hn,hm,q]
 case rest=>
 obtain⟨rfl,B1,bw1⟩:=hcut;clear N2 N3 EB B0 bw wS8 hsum8;have B0:=B1;have bw:=bw1;clear B1 bw1;go_upto_region 3 with fail
 go_cut [5] (fun s5 wx=>s5=.bool C∧Cel wx w.heap.size [.int .i64 K,.int .i64 N,.slice ao xs.length cap,.slice so S.length sc,.slice tO T.length tc,.int .i64 N8,.int .i64 k8,.int .i64 V8,.int .i64 M8,.slice a8 x8.length e8,.int .i64 L8,.slice q8 y8.length d8,.slice s8 S8.length f8,.slice t8 T8.length g8,.int .i64 N9,.int .i64 M9,.int .i64 k9,.int .i64 V9,.int .i64 L9,.slice a9 x9.length e9,.int .i64 H9,.slice q9 y9.length d9] 45∧Below w.heap.size w wx)
 case first=>
  have c14:=B0.cell 14 rfl;have c15:=B0.cell 15 rfl;have c16:=B0.cell 16 rfl;have c17:=B0.cell 17 rfl;have c18:=B0.cell 18 rfl;have c19:=B0.cell 19 rfl;have c20:=B0.cell 20 rfl;have c21:=B0.cell 21 rfl
  by_cases q:N9=0;rotate_left
  ·have d:(N9==0)=false:=by simp[q]
   go_wp2_with fail;go_meet;refine⟨?_,B0,bw⟩;rw[EC.out];simp[q]
  subst q;by_cases q:M9=0;rotate_left
  ·have d:(M9==0)=false:=by simp[q]
   go_wp2_with fail;go_meet;refine⟨?_,B0,bw⟩;rw[EC.out];simp[q]
  subst q;cases hn:nons k9 V9 L9 x9.length with
  | false=>
   rw[hn]at N4;go_wp2_with fail;refine(N4.out _).mono ?_;rintro e w1 ⟨rfl,hb⟩;replace B0:=B0.kept hb;replace bw:=bw.trans (hb.mono bw.size);clear hb c14 c15 c16 c17 c18 c19 c20 c21;have c14:=B0.cell 14 rfl
   have c15:=B0.cell 15 rfl;have c16:=B0.cell 16 rfl;have c17:=B0.cell 17 rfl;have c18:=B0.cell 18 rfl;have c19:=B0.cell 19 rfl;have c20:=B0.cell 20 rfl;have c21:=B0.cell 21 rfl;go_wp2_with fail;go_meet
   refine⟨?_,B0,bw⟩;rw[EC.out];simp[hn]
  | true=>
   rw[hn]at N4;go_wp2_with fail;refine(N4.out _).mono ?_;rintro e w1 ⟨rfl,hb⟩;replace B0:=B0.kept hb;replace bw:=bw.trans (hb.mono bw.size);clear hb c14 c15 c16 c17 c18 c19 c20 c21;have c14:=B0.cell 14 rfl
   have c15:=B0.cell 15 rfl;have c16:=B0.cell 16 rfl;have c17:=B0.cell 17 rfl;have c18:=B0.cell 18 rfl;have c19:=B0.cell 19 rfl;have c20:=B0.cell 20 rfl;have c21:=B0.cell 21 rfl;go_wp2_with fail
   refine(N5.out _).mono ?_;rintro e w2 ⟨rfl,hb⟩;replace B0:=B0.kept hb;replace bw:=bw.trans (hb.mono bw.size);clear hb c14 c15 c16 c17 c18 c19 c20 c21;have c14:=B0.cell 14 rfl;have c15:=B0.cell 15 rfl
   have c16:=B0.cell 16 rfl;have c17:=B0.cell 17 rfl;have c18:=B0.cell 18 rfl;have c19:=B0.cell 19 rfl;have c20:=B0.cell 20 rfl;have c21:=B0.cell 21 rfl;generalize norw [(H9,y9.length)]=R at *;go_wp2_with fail
   go_meet;refine⟨?_,B0,bw⟩;rw[EC.out];simp[hn]
 case rest=>
 obtain⟨rfl,B1,bw1⟩:=hcut;clear N4 N5 EC B0 bw;have c0:=B1.cell 0 rfl;by_cases q1:K=1
 ·subst q1;cases A<;>cases B<;>cases C<;>(go_wp2;go_ret;rw[hZ2.out];exact⟨rfl,bw1⟩)
 by_cases q2:K=2
 ·subst q2;cases A<;>cases B<;>cases C<;>(go_wp2;go_ret;rw[hZ2.out];exact⟨rfl,bw1⟩)
 by_cases q3:K=3
 ·subst q3;cases A<;>cases B<;>cases C<;>(go_wp2;go_ret;rw[hZ2.out];exact⟨rfl,bw1⟩)
 have d1:(K==1)=false:=by simp[q1]
 have d2:(K==2)=false:=by simp[q2]
 have d3:(K==3)=false:=by simp[q3]
 rw[decide_eq_false q1,decide_eq_false q2,decide_eq_false q3]at hZ2;cases A<;>cases B<;>cases C<;>(go_wp2;go_ret;rw[hZ2.out];exact⟨rfl,bw1⟩)
theorem v10whole_k(cs:List Value)(a:RA)(w:World)(h:KI w cs a):
  Calls Tryz.prog 29 #[.agg cs.toArray] w fun e w'=>∃bo bc,e=.returned (.tuple #[.agg #[.int .i64 (kBN a),.slice bo (kBX a).length bc],.bool (kOk a)])∧Wd w' bo (kBX a)∧(kBX a).length≤bc∧Below w.heap.size w w':=by
 have ZE0:=fun(w0:World) (hb:Below w.heap.size w w0)=>zero_c cs a w0 (h.keep hb);have HL:=Hid.mk8 h.arg.len;have sm:=h.sm;have gv:=h.gv;replace h:=h.arg;obtain⟨cp,cr,cf,rfl,hK,h1,h2,h3⟩:=h
 have l4:=Hid.mk8 h1.four;have l9:=Hid.mk8 h2.nine;have LP:=Hid.mk8 h1.len;have LR:=Hid.mk8 h2.len;have LF:=Hid.mk8 h3.len;obtain⟨K,p,r,f⟩:=a;dsimp only at *;have k7:KI7 w cp p:=⟨h1,sm.p1,sm.p2,sm.p3⟩
 have k8:KI8 w cr r:=⟨h2,sm.r1,sm.r2,sm.r3,sm.r4,gv⟩;have k9:KI9 w cf f:=⟨h3,sm.f0,sm.f1,sm.f2⟩
 have ZE:Hid (∀w0,Below w.heap.size w w0→Calls Tryz.prog 56 #[.agg (Value.int .i64 K::(cp++(cr++cf))).toArray] w0 fun e w'=>e=.returned (.bool (kZs ⟨K,p,r,f⟩))∧Below w0.heap.size w0 w'):=ZE0
 clear ZE0 h1 h2 h3 sm gv;have bw:Below w.heap.size w ((w.alloc (.cells (Value.int .i64 K::(cp++(cr++cf))).toArray 45)).alloc (.cells #[.int .i64 0,.slice none 0 0] 33)):=(below_alloc w _).alloc (by simp) _
 have B0:Cel ((w.alloc (.cells (Value.int .i64 K::(cp++(cr++cf))).toArray 45)).alloc (.cells #[.int .i64 0,.slice none 0 0] 33)) w.heap.size (Value.int .i64 K::(cp++(cr++cf))) 45:=(Cel.new w _ _).alloc _
 have B2:Cel ((w.alloc (.cells (Value.int .i64 K::(cp++(cr++cf))).toArray 45)).alloc (.cells #[.int .i64 0,.slice none 0 0] 33)) (w.heap.size+1) [.int .i64 0,.slice none 0 0] 33:=Cel.new2 w _ _ _
 cases hz:kZs ⟨K,p,r,f⟩with
 | false=>
  have o:kOn ⟨K,p,r,f⟩=0:=by unfold kOn;rw[hz];rfl
  obtain⟨e1,e2,e3,e4⟩:=on_n (a:=⟨K,p,r,f⟩) (by omega) (by omega) (by omega);rw[e1,e2,e3];rw[hz]at ZE;clear e1 e2 e3 e4 o hz k7 k8 k9;go_enter Tryz.func29,Tryz.ntmps29
  go_wp2_with (refine load_obj w.heap.size _ (by rfl) rfl B0 Tryz.underlying45 HL.out ?_);refine(ZE.out _ bw).mono ?_;rintro e w1 ⟨rfl,hb⟩;replace B0:=B0.kept hb;replace B2:=B2.kept hb
  replace bw:=bw.trans (hb.mono bw.size);clear hb;obtain⟨c0,p1,p2,p3⟩:=parts l4.out l9.out B0
  go_wp2_with (refine store_cel (w.heap.size+1) _ [.int .i64 0,.slice none 0 0] rfl rfl B2 rfl info_bv (by simp[Value.oneCell']) ?_);intro w3 B3 O3
  have HZ:Hid (Cel w3 (w.heap.size+1) [.int .i64 0,.slice none 0 0] 33∧Below w.heap.size w w3):=⟨B3,bw.trans (O3.below (Nat.le_succ _))⟩;clear B3 O3 B2 B0 c0 p1 p2 p3;go_wp2
  (try simp only[Exit.inBlock,Exit.then]);exact bodyPost_ret (result_cel rfl (w.heap.size+1) _ rfl HZ.out.1 Tryz.underlying33 info_bv) rfl ⟨none,0,rfl,wd0' _ _,Nat.le_refl _,HZ.out.2⟩
 | true=>
  have o:kOn ⟨K,p,r,f⟩=K:=by unfold kOn;rw[hz];rfl
  rw[hz]at ZE;clear hz;by_cases q7:K=1
  ·subst q7;obtain⟨e1,e2,e3,e4⟩:=on_p o;rw[e1,e2,e3]
   have C:Hid (∀w0,Below w.heap.size w w0→Calls Tryz.prog 57 #[.agg cp.toArray] w0 fun e w'=>∃bo bc,e=.returned (.tuple #[.agg #[.int .i64 (kBN7 p),.slice bo (kBX7 p).length bc],.bool (kOk7 p)])∧Wd w' bo (kBX7 p)∧(kBX7 p).length≤bc∧Below w0.heap.size w0 w'):=fun w0 g=>p7whole_k cp p w0 (k7.keep g)
   clear e1 e2 e3 e4 k7 k8 k9 o;generalize kBN7 p=N at *;generalize kBX7 p=X at *;generalize kOk7 p=ok at *;go_enter Tryz.func29,Tryz.ntmps29
   go_wp2_with (refine load_obj w.heap.size _ (by rfl) rfl B0 Tryz.underlying45 HL.out ?_);refine(ZE.out _ bw).mono ?_;rintro e w1 ⟨rfl,hb⟩;replace B0:=B0.kept hb;replace B2:=B2.kept hb
   replace bw:=bw.trans (hb.mono bw.size);clear hb;obtain⟨c0,p1,p2,p3⟩:=parts l4.out l9.out B0;go_wp2_with (refine load_part w.heap.size 1 cp (by rfl) rfl p1 Tryz.underlying37 LP.out ?_);refine(C.out _ bw).mono ?_
   rintro e w2 ⟨bo,bc,rfl,hx,hbc,hb⟩;replace bw:=bw.trans (hb.mono bw.size);replace B2:=B2.kept hb;clear hb C ZE B0 c0 p1 p2 p3;have hne:=hx.apart B2 (by intro v hv n;simp at hv;rcases hv with rfl | rfl<;>simp)
   go_wp2_with (refine store_cel (w.heap.size+1) _ [.int .i64 N,.slice bo X.length bc] rfl rfl B2 rfl info_bv (by simp[Value.oneCell']) ?_);intro w3 B3 O3
   have HZ:Hid (Cel w3 (w.heap.size+1) [.int .i64 N,.slice bo X.length bc] 33∧Wd w3 bo X∧Below w.heap.size w w3):=⟨B3,O3.wd hx hne,bw.trans (O3.below (Nat.le_succ _))⟩;clear B3 O3 B2 hx hne;go_wp2
   (try simp only[Exit.inBlock,Exit.then]);exact bodyPost_ret (result_cel rfl (w.heap.size+1) _ rfl HZ.out.1 Tryz.underlying33 info_bv) rfl ⟨bo,bc,rfl,HZ.out.2.1,hbc,HZ.out.2.2⟩
  by_cases q8:K=2
  ·subst q8;obtain⟨e1,e2,e3,e4⟩:=on_r o;rw[e1,e2,e3]
   have C:Hid (∀w0,Below w.heap.size w w0→Calls Tryz.prog 58 #[.agg cr.toArray] w0 fun e w'=>∃bo bc,e=.returned (.tuple #[.agg #[.int .i64 (kBN8 r),.slice bo (kBX8 r).length bc],.bool (kOk8 r)])∧Wd w' bo (kBX8 r)∧(kBX8 r).length≤bc∧Below w0.heap.size w0 w'):=fun w0 g=>r8whole_k cr r w0 (k8.keep g)
   clear e1 e2 e3 e4 k7 k8 k9 o;generalize kBN8 r=N at *;generalize kBX8 r=X at *;generalize kOk8 r=ok at *;go_enter Tryz.func29,Tryz.ntmps29
   go_wp2_with (refine load_obj w.heap.size _ (by rfl) rfl B0 Tryz.underlying45 HL.out ?_);refine(ZE.out _ bw).mono ?_;rintro e w1 ⟨rfl,hb⟩;replace B0:=B0.kept hb;replace B2:=B2.kept hb
   replace bw:=bw.trans (hb.mono bw.size);clear hb;obtain⟨c0,p1,p2,p3⟩:=parts l4.out l9.out B0;go_wp2_with (refine load_part w.heap.size 5 cr (by rfl) rfl p2 Tryz.underlying41 LR.out ?_);refine(C.out _ bw).mono ?_
   rintro e w2 ⟨bo,bc,rfl,hx,hbc,hb⟩;replace bw:=bw.trans (hb.mono bw.size);replace B2:=B2.kept hb;clear hb C ZE B0 c0 p1 p2 p3;have hne:=hx.apart B2 (by intro v hv n;simp at hv;rcases hv with rfl | rfl<;>simp)
   go_wp2_with (refine store_cel (w.heap.size+1) _ [.int .i64 N,.slice bo X.length bc] rfl rfl B2 rfl info_bv (by simp[Value.oneCell']) ?_);intro w3 B3 O3
   have HZ:Hid (Cel w3 (w.heap.size+1) [.int .i64 N,.slice bo X.length bc] 33∧Wd w3 bo X∧Below w.heap.size w w3):=⟨B3,O3.wd hx hne,bw.trans (O3.below (Nat.le_succ _))⟩;clear B3 O3 B2 hx hne;go_wp2
   (try simp only[Exit.inBlock,Exit.then]);exact bodyPost_ret (result_cel rfl (w.heap.size+1) _ rfl HZ.out.1 Tryz.underlying33 info_bv) rfl ⟨bo,bc,rfl,HZ.out.2.1,hbc,HZ.out.2.2⟩
  by_cases q9:K=3
  ·subst q9;obtain⟨e1,e2,e3,e4⟩:=on_f o;rw[e1,e2,e3]
   have C:Hid (∀w0,Below w.heap.size w w0→Calls Tryz.prog 59 #[.agg cf.toArray] w0 fun e w'=>∃bo bc,e=.returned (.tuple #[.agg #[.int .i64 (kBN9 f),.slice bo (kBX9 f).length bc],.bool (kOk9 f)])∧Wd w' bo (kBX9 f)∧(kBX9 f).length≤bc∧Below w0.heap.size w0 w'):=fun w0 g=>f9whole_k cf f w0 (k9.keep g)
   clear e1 e2 e3 e4 k7 k8 k9 o;generalize kBN9 f=N at *;generalize kBX9 f=X at *;generalize kOk9 f=ok at *;go_enter Tryz.func29,Tryz.ntmps29
   go_wp2_with (refine load_obj w.heap.size _ (by rfl) rfl B0 Tryz.underlying45 HL.out ?_);refine(ZE.out _ bw).mono ?_;rintro e w1 ⟨rfl,hb⟩;replace B0:=B0.kept hb;replace B2:=B2.kept hb
   replace bw:=bw.trans (hb.mono bw.size);clear hb;obtain⟨c0,p1,p2,p3⟩:=parts l4.out l9.out B0;go_wp2_with (refine load_part w.heap.size 14 cf (by rfl) rfl p3 Tryz.underlying43 LF.out ?_);refine(C.out _ bw).mono ?_
   rintro e w2 ⟨bo,bc,rfl,hx,hbc,hb⟩;replace bw:=bw.trans (hb.mono bw.size);replace B2:=B2.kept hb;clear hb C ZE B0 c0 p1 p2 p3;have hne:=hx.apart B2 (by intro v hv n;simp at hv;rcases hv with rfl | rfl<;>simp)
   go_wp2_with (refine store_cel (w.heap.size+1) _ [.int .i64 N,.slice bo X.length bc] rfl rfl B2 rfl info_bv (by simp[Value.oneCell']) ?_);intro w3 B3 O3
   have HZ:Hid (Cel w3 (w.heap.size+1) [.int .i64 N,.slice bo X.length bc] 33∧Wd w3 bo X∧Below w.heap.size w w3):=⟨B3,O3.wd hx hne,bw.trans (O3.below (Nat.le_succ _))⟩;clear B3 O3 B2 hx hne;go_wp2
   (try simp only[Exit.inBlock,Exit.then]);exact bodyPost_ret (result_cel rfl (w.heap.size+1) _ rfl HZ.out.1 Tryz.underlying33 info_bv) rfl ⟨bo,bc,rfl,HZ.out.2.1,hbc,HZ.out.2.2⟩
  obtain⟨e1,e2,e3,e4⟩:=on_n (a:=⟨K,p,r,f⟩) (by rw[o];exact q7) (by rw[o];exact q8) (by rw[o];exact q9);rw[e1,e2,e3];have d7:(K==1)=false:=by simp[q7]
  have d8:(K==2)=false:=by simp[q8]
  have d9:(K==3)=false:=by simp[q9]
  clear e1 e2 e3 e4 o k7 k8 k9;go_enter Tryz.func29,Tryz.ntmps29;go_wp2_with (refine load_obj w.heap.size _ (by rfl) rfl B0 Tryz.underlying45 HL.out ?_);refine(ZE.out _ bw).mono ?_;rintro e w1 ⟨rfl,hb⟩;replace B0:=B0.kept hb
  replace B2:=B2.kept hb;replace bw:=bw.trans (hb.mono bw.size);clear hb;obtain⟨c0,p1,p2,p3⟩:=parts l4.out l9.out B0
  go_wp2_with (refine store_cel (w.heap.size+1) _ [.int .i64 0,.slice none 0 0] rfl rfl B2 rfl info_bv (by simp[Value.oneCell']) ?_);intro w3 B3 O3
  have HZ:Hid (Cel w3 (w.heap.size+1) [.int .i64 0,.slice none 0 0] 33∧Below w.heap.size w w3):=⟨B3,bw.trans (O3.below (Nat.le_succ _))⟩;clear B3 O3 B2 B0 c0 p1 p2 p3;go_wp2
  (try simp only[Exit.inBlock,Exit.then]);exact bodyPost_ret (result_cel rfl (w.heap.size+1) _ rfl HZ.out.1 Tryz.underlying33 info_bv) rfl ⟨none,0,rfl,wd0' _ _,Nat.le_refl _,HZ.out.2⟩
theorem v10info_b:(Tryz.prog.info? 33).map (·.size)=some 2:=by kernel_rfl
theorem v10check_g(cs:List Value)(IL:Hid ((Tryz.prog.info? 45).map (·.size)=some cs.length))(ok:Bool)(N:Int)(X:List Nat)(w:World)(hf:Fit X)(hck:ok=true→chk N X=true)(C1:Hid (∀w0,Below w.heap.size w w0→Calls Tryz.prog 29 #[.agg cs.toArray] w0 fun e w'=>∃bo bc,e=.returned (.tuple #[.agg #[.int .i64 N,.slice bo X.length bc],.bool ok])∧Wd w' bo X∧X.length≤bc∧Below w0.heap.size w0 w')):
  Calls Tryz.prog 76 #[.agg cs.toArray] w fun e w'=>e=.returned (.bool ok)∧Below w.heap.size w w':=by
 have bW:Below w.heap.size w (w.alloc (.cells cs.toArray 45)):=below_alloc w _;have BX:=Cel.new w cs 45;go_enter Tryz.func76,Tryz.ntmps76
 go_wp2_with (refine load_obj w.heap.size cs (by rfl) rfl BX Tryz.underlying45 IL.out ?_);refine(C1.out _ bW).mono ?_;rintro e w1 ⟨bo,bc,rfl,hx,hbc,hb⟩;have bw1:=bW.trans (hb.mono bW.size);clear hb C1 BX
 have bA:=below_alloc w1 (.cells #[.int .i64 N,.slice bo X.length bc] 33);have bw2:=bw1.trans (bA.mono bw1.size);go_wp2;go_ret;exact⟨rfl,bw2⟩
theorem v10bits_g(cs:List Value)(IL:Hid ((Tryz.prog.info? 45).map (·.size)=some cs.length))(ok:Bool)(N:Int)(X:List Nat)(w:World)(hf:Fit X)(hck:ok=true→chk N X=true)(C1:Hid (∀w0,Below w.heap.size w w0→Calls Tryz.prog 29 #[.agg cs.toArray] w0 fun e w'=>∃bo bc,e=.returned (.tuple #[.agg #[.int .i64 N,.slice bo X.length bc],.bool ok])∧Wd w' bo X∧X.length≤bc∧Below w0.heap.size w0 w')):
  Calls Tryz.prog 10 #[.agg cs.toArray] w fun e w'=>∃bo bc,e=.returned (.agg #[.int .i64 N,.slice bo X.length bc])∧Wd w' bo X∧X.length≤bc∧Below w.heap.size w w':=by
 have bW:Below w.heap.size w ((w.alloc (.cells cs.toArray 45)).alloc (.cells #[.int .i64 0,.slice none 0 0] 33)):=(below_alloc w _).alloc (by simp) _
 have BX:Cel ((w.alloc (.cells cs.toArray 45)).alloc (.cells #[.int .i64 0,.slice none 0 0] 33)) w.heap.size cs 45:=(Cel.new w cs 45).alloc _
 have B2:Cel ((w.alloc (.cells cs.toArray 45)).alloc (.cells #[.int .i64 0,.slice none 0 0] 33)) (w.heap.size+1) [.int .i64 0,.slice none 0 0] 33:=Cel.new2 w _ _ _;go_enter Tryz.func10,Tryz.ntmps10
 go_wp2_with (refine load_obj w.heap.size cs (by rfl) rfl BX Tryz.underlying45 IL.out ?_);refine(C1.out _ bW).mono ?_;rintro e w1 ⟨bo,bc,rfl,hx,hbc,hb⟩;have bw1:=bW.trans (hb.mono bW.size)
 have z2:w.heap.size+1<w1.heap.size:=Nat.lt_of_lt_of_le B2.lt hb.size;replace B2:=B2.kept hb;have bA:=below_alloc w1 (.cells #[.int .i64 N,.slice bo X.length bc] 33);replace B2:=B2.kept bA;have hx2:=hx.keep bA
 have bw2:=bw1.trans (bA.mono bw1.size);have D1:=Cel.new w1 [.int .i64 N,.slice bo X.length bc] 33;have hne:=hx2.apart B2 (by intro v hv n;simp at hv;rcases hv with rfl | rfl<;>simp)
 go_wp2_with (first | refine load_cel w1.heap.size _ rfl D1 Tryz.underlying33 v10info_b ?_ | refine store_cel (w.heap.size+1) _ _ rfl rfl B2 rfl v10info_b (by simp[Value.oneCell']) ?_);intro w3 B3 O3
 have HZ:Hid (Cel w3 (w.heap.size+1) [.int .i64 N,.slice bo X.length bc] 33∧Wd w3 bo X∧Below w.heap.size w w3):=⟨B3,O3.wd hx2 hne,bw2.trans (O3.below (Nat.le_succ _))⟩;clear B3 O3 hx hx2 hb B2 D1 BX;go_wp2
 (try simp only[Exit.inBlock,Exit.then]);exact bodyPost_ret (result_cel1 rfl (w.heap.size+1) _ rfl HZ.out.1 Tryz.underlying33 v10info_b) rfl ⟨bo,bc,rfl,HZ.out.2.1,hbc,HZ.out.2.2⟩
end Go.Proofs.YtfnkklkdajlhlaaGreatDoor
