import Derived.Test.YtfnkklkdajlhlaaGreatDoorE07
set_option linter.unusedVariables false
set_option linter.unusedSimpArgs false
set_option maxRecDepth 100000
set_option maxHeartbeats 16000000
namespace Go.Proofs.YtfnkklkdajlhlaaGreatDoor
open Go.RowKit Go.Shelf Num Bit
attribute [local go_sem] Oper.semAt_some
theorem isIn_take(l:List Nat)(q:Nat)(h:q<l.length)(j:Nat):isIn (l.take (q+1)) j=(isIn (l.take q) j||gt l q==j):=by
 rw[take_snoc' l q h,isIn_snoc]
theorem Turned.kept{K:Nat→Prop}{g:Nat}{w w':World}(h:Turned g w w')(hg:¬K g):Kept K w w':=⟨h.os,h.tape,h.output,Nat.le_of_eq h.size.symm,fun b hb _=>h.block b (fun e=>hg (e ▸ hb))⟩
theorem ginfo_b:(Tryz.prog.info? 33).map (·.size)=some 2:=by kernel_rfl
theorem gbits_bad(a0 a1 a2 a3 a4 a5 a6 a7:Value)(w:World)(CC:Hid (Qz w 86 #[.agg #[a0,a1,a2,a3,a4,a5,a6,a7]] (.bool false))):
  Qq 89 #[.agg #[a0,a1,a2,a3,a4,a5,a6,a7]] w (.agg #[.int .i64 0,.slice none 0 0]):=by
 ·skip;refine(callsIn_wide (n:=0)).1 (callsIn_of_wp_marks Tryz.func89 rfl trivial ?_)
  simp only[Tryz.ntmps89,List.size_toArray,List.length_cons,List.length_nil,Nat.reduceAdd,Nat.reduceSub,Array.replicate_succ,Array.replicate_zero,List.push_toArray,List.append_toArray,List.nil_append,List.cons_append]
  refine wpIn_wide.2 ?_;obtain⟨W1,hW1⟩:∃W1,W1=(w.alloc (.cells #[a0,a1,a2,a3,a4,a5,a6,a7] 43)).alloc (.cells #[.int .i64 0,.slice none 0 0] 33):=⟨_,rfl⟩
  have b1:Below w.heap.size w W1:=by rw[hW1];exact((below_alloc w _).alloc (by simp only[World.size_alloc];omega) _)
  have z1:W1.heap.size=w.heap.size+2:=by rw[hW1];simp
  have c1:Cel W1 (w.heap.size+1) [.int .i64 0,.slice none 0 0] 33:=by rw[hW1];exact Cel.new2 w _ _ _
  go_wp2_with fail;rw[←hW1];clear hW1;refine mr (CC.out _ b1) fun wf hb=>?_;replace b1:=bg b1 hb;replace c1:=c1.kept hb;clear hb CC z1
  go_wp2_with (refine store_cel (w.heap.size+1) [.int .i64 0,.slice none 0 0] [.int .i64 0,.slice none 0 0] rfl rfl c1 rfl ginfo_b (by simp[Value.oneCell']) ?_);intro w3 B3 O3
  have HZ:Hid (Cel w3 (w.heap.size+1) [.int .i64 0,.slice none 0 0] 33∧Below w.heap.size w w3):=⟨B3,b1.trans (O3.below (Nat.le_succ _))⟩;clear B3 O3 b1 c1;go_wp2
  exact⟨_,result_cel1 rfl (w.heap.size+1) _ rfl HZ.out.1 Tryz.underlying33 ginfo_b,rfl,HZ.out.2⟩
theorem gbits_ok(n mm kn vn hh:Nat)(LM:Int)(ao:Option Addr)(xs:List Nat)(cap:Nat)(qo:Option Addr)(ys:List Nat)(dap:Nat)(l:List Nat)(w:World)(F:Fits n mm kn vn LM xs hh ys)(hx:Wd w ao xs)(fx:Fit xs)(hy:Wd w qo ys)(fy:Fit ys)(hl:l.length=mm)(hg:∀q,q<mm→plq n mm xs hh ys q=gt l q)(hr:Rise l n)(CC:Hid (Qz w 86 #[.agg #[.int .i64 (n:Nat),.int .i64 (mm:Nat),.int .i64 (kn:Nat),.int .i64 (vn:Nat),.int .i64 LM,.slice ao xs.length cap,.int .i64 (hh:Nat),.slice qo ys.length dap]] (.bool true))):
  Calls Tryz.prog 89 #[.agg #[.int .i64 (n:Nat),.int .i64 (mm:Nat),.int .i64 (kn:Nat),.int .i64 (vn:Nat),.int .i64 LM,.slice ao xs.length cap,.int .i64 (hh:Nat),.slice qo ys.length dap]] w fun e w'=>∃bo bc,e=.returned (.agg #[.int .i64 n,.slice bo (rowOf n (isIn l)).length bc])∧Wd w' bo (rowOf n (isIn l))∧(rowOf n (isIn l)).length≤bc∧Below w.heap.size w w':=by
 have nl:=F.hn;obtain⟨k,hk0⟩:∃k,Hid (k=(n+63)/64):=⟨_,rfl⟩;have HL:Hid (∀f:Nat→Bool,(rowOf n f).length=k):=fun f=>by rw[length_rowOf,hk0.out]
 have NC:Hid (∀w0,Calls Tryz.prog 104 #[.int .i64 (n:Nat)] w0 fun e w'=>∃g,e=.returned (.tuple #[.agg #[.int .i64 (n:Nat),.slice (some ⟨g,0,none⟩) k k],.int .i64 0])∧w0.heap.size≤g∧g<w'.heap.size∧Own w' g (rowOf n (fun _=>false))∧Below w0.heap.size w0 w'):=fun w0=>by
  have:=new_ok (n:Int) k w0 (by omega) (by omega) (by rw[hk0.out];omega);rw[rep_row n k hk0.out]at this;exact this
 have SC:Hid (∀w0 g f p,Own w0 g (rowOf n f)→p<n→Calls Tryz.prog 150 #[.slice (some ⟨g,0,none⟩) k k,.int .i64 (p:Nat)] w0 fun e w'=>(∃v,e=.returned v)∧Own w' g (rowOf n (fun j=>f j||p==j))∧Turned g w0 w'):=fun w0 g f p hO hp=>by
  have:=gset_c n f g k p w0 hO hp nl;rw[HL.out f]at this;exact this
 refine(callsIn_wide (n:=0)).1 (callsIn_of_wp_marks Tryz.func89 rfl trivial ?_)
 simp only[Tryz.ntmps89,List.size_toArray,List.length_cons,List.length_nil,Nat.reduceAdd,Nat.reduceSub,Array.replicate_succ,Array.replicate_zero,List.push_toArray,List.append_toArray,List.nil_append,List.cons_append]
 refine wpIn_wide.2 ?_
 have PC:Hid (∀w0,Calls Tryz.prog 146 #[.agg #[.int .i64 (n:Nat),.int .i64 (mm:Nat),.int .i64 (kn:Nat),.int .i64 (vn:Nat),.int .i64 LM,.slice ao xs.length cap,.int .i64 (hh:Nat),.slice qo ys.length dap]] w0 fun e w'=>e=.returned (.func (.func 189) #[] #[.pointer (some ⟨w0.heap.size,0,none⟩),.pointer (some ⟨w0.heap.size+1,0,none⟩)])∧Cel w' w0.heap.size [.int .i64 (n:Nat),.int .i64 (mm:Nat),.int .i64 (kn:Nat),.int .i64 (vn:Nat),.int .i64 LM,.slice ao xs.length cap,.int .i64 (hh:Nat),.slice qo ys.length dap] 43∧Cel w' (w0.heap.size+1) [.int .i64 (wdF n mm:Nat)] 3∧w'.heap.size=w0.heap.size+2∧Below w0.heap.size w0 w'):=fun w0=>gplaces_c n mm kn vn hh LM ao xs cap qo ys dap F.hn F.hm w0
 obtain⟨W1,hW1⟩:∃W1,W1=(w.alloc (.cells #[.int .i64 (n:Nat),.int .i64 (mm:Nat),.int .i64 (kn:Nat),.int .i64 (vn:Nat),.int .i64 LM,.slice ao xs.length cap,.int .i64 (hh:Nat),.slice qo ys.length dap] 43)).alloc (.cells #[.int .i64 0,.slice none 0 0] 33):=⟨_,rfl⟩
 have b1:Below w.heap.size w W1:=by rw[hW1];exact((below_alloc w _).alloc (by simp only[World.size_alloc];omega) _)
 have z1:W1.heap.size=w.heap.size+2:=by rw[hW1];simp
 have c0:Cel W1 w.heap.size [.int .i64 (n:Nat),.int .i64 (mm:Nat),.int .i64 (kn:Nat),.int .i64 (vn:Nat),.int .i64 LM,.slice ao xs.length cap,.int .i64 (hh:Nat),.slice qo ys.length dap] 43:=by rw[hW1];exact(Cel.new w _ _).alloc _
 have c1:Cel W1 (w.heap.size+1) [.int .i64 0,.slice none 0 0] 33:=by rw[hW1];exact Cel.new2 w _ _ _
 go_wp2_with fail;rw[←hW1];clear hW1;refine mr (CC.out _ b1) fun wf hb=>?_;replace b1:=bg b1 hb;replace c0:=c0.kept hb;replace c1:=c1.kept hb
 have zf:w.heap.size+2≤wf.heap.size:=by have:=hb.size;omega
 clear hb CC z1;have q0:=c0.cell 0 rfl;go_wp2_with fail;refine(NC.out _).mono ?_;rintro e w2 ⟨g,rfl,hg1,hg2,hO,hb⟩;replace b1:=bg b1 hb;replace c0:=c0.kept hb;replace c1:=c1.kept hb;clear hb q0 NC
 obtain⟨g2,hgg⟩:∃g,g=w2.heap.size:=⟨_,rfl⟩;obtain⟨W2,hW2⟩:∃W2,W2=w2.alloc (.cells #[.int .i64 (n:Nat),.slice (some ⟨g,0,none⟩) k k] 33):=⟨_,rfl⟩
 have bA:Below w2.heap.size w2 W2:=by rw[hW2];exact below_alloc w2 _
 have z2:W2.heap.size=g2+1:=by rw[hW2,hgg];simp
 have c2:Cel W2 g2 [.int .i64 (n:Nat),.slice (some ⟨g,0,none⟩) k k] 33:=by rw[hW2,hgg];exact Cel.new w2 _ _
 have d0:Cel (w2.alloc (.cells #[.int .i64 (n:Nat),.slice (some ⟨g,0,none⟩) k k] 33)) w.heap.size [.int .i64 (n:Nat),.int .i64 (mm:Nat),.int .i64 (kn:Nat),.int .i64 (vn:Nat),.int .i64 LM,.slice ao xs.length cap,.int .i64 (hh:Nat),.slice qo ys.length dap] 43:=c0.alloc _
 have q0:=d0.cell 0 rfl;have q1:=d0.cell 1 rfl;have q2:=d0.cell 2 rfl;have q3:=d0.cell 3 rfl;have q4:=d0.cell 4 rfl;have q5:=d0.cell 5 rfl;have q6:=d0.cell 6 rfl;have q7:=d0.cell 7 rfl;have HG:=hide9' hgg
 rw[←hgg]at hg2;clear hgg;have HW2:=hide9' hW2;clear hW2;have HZF:=hide9' zf;have HG1:=hide9' hg1;clear zf hg1;go_wp2_with fail;rw[←HW2.out];refine(PC.out _).mono ?_;rintro e w' ⟨rfl,cx,cw,z3,b3⟩
 rw[z2]at cx cw z3 b3;rw[z2,←HG.out];have zf:=HZF.out;have hg1:=HG1.out;have zg:wf.heap.size≤g2:=by omega
 have b4:Below w.heap.size w w':=(bg b1 bA).trans (b3.mono (by omega));have bC:Below w2.heap.size w2 w':=bA.trans (b3.mono (by rw[←HG.out];omega));replace c0:=c0.kept bC;replace c1:=c1.kept bC
 replace c2:=c2.keep b3 (by omega);replace hO:=hO.keep bC;clear b1 bA b3 bC PC HW2 d0 HG HZF HG1 q0 q1 q2 q3 q4 q5 q6 q7;go_wp2
 have G:=(places1_goes n mm kn vn hh LM ao xs cap qo ys dap (fun b=>b≠g∧b≠w'.heap.size+1) w' (g2+1) (g2+1+1) F (hx.keep b4) fx (hy.keep b4) fy cx cw (by omega) (by omega) (fun p hp h0=>by have:=hx.blk hp h0;omega) (fun p hp h0=>by have:=hy.blk hp h0;omega)).enc (enc':=fun q=>#[.int .i64 q,.int .i64 (gt l q:Nat)]) (fun q hq=>by rw[hg q hq])
 have I0:Own w' g (rowOf n (isIn (l.take 0))):=by
  rw[rowOf_congr n (isIn (l.take 0)) (fun _=>false) fun i _=>by simp[isIn]];exact hO
 clear hO
 refine range_law (gf:=189) (lb:=#[.pointer (some ⟨g2+1,0,none⟩),.pointer (some ⟨g2+2,0,none⟩)]) (K:=fun b=>b≠g) rfl (enters_of Tryz.func189 (by kernel_rfl) rfl) (fun _=>rfl) G (fun b hb=>by omega)
  (fun q Wc=>Kept (fun b=>b≠g) w' Wc∧Own Wc g (rowOf n (isIn (l.take q)))) (fun q Wc=>False) (fun q A B h hb=>⟨h.1.more hb (Nat.le_refl _),(hb.block g (by omega)).trans h.2⟩) (fun q A B h hb=>h) ⟨Kept.refl _ _,I0⟩
  (fun q=>{ tmps:=#[.agg #[.int .i64 (n:Nat),.int .i64 (mm:Nat),.int .i64 (kn:Nat),.int .i64 (vn:Nat),.int .i64 LM,.slice ao xs.length cap,.int .i64 (hh:Nat),.slice qo ys.length dap],.pointer (some ⟨w.heap.size,0,none⟩),.pointer (some ⟨w.heap.size+1,0,none⟩),.pointer (some ⟨g2,0,none⟩),.int .i64 0,undef,.int .i64 (gt l q:Nat),.agg #[.int .i64 (n:Nat),.int .i64 (mm:Nat),.int .i64 (kn:Nat),.int .i64 (vn:Nat),.int .i64 LM,.slice ao xs.length cap,.int .i64 (hh:Nat),.slice qo ys.length dap],.bool true,.bool false,undef,.tuple #[.agg #[.int .i64 (n:Nat),.slice (some ⟨g,0,none⟩) k k],.int .i64 0],.pointer (some ⟨w.heap.size,0,none⟩),.int .i64 (n:Nat),.tuple #[.agg #[.int .i64 (n:Nat),.slice (some ⟨g,0,none⟩) k k],.int .i64 0],.agg #[.int .i64 (n:Nat),.slice (some ⟨g,0,none⟩) k k],.int .i64 0,.agg #[.int .i64 (n:Nat),.int .i64 (mm:Nat),.int .i64 (kn:Nat),.int .i64 (vn:Nat),.int .i64 LM,.slice ao xs.length cap,.int .i64 (hh:Nat),.slice qo ys.length dap],.func (.func 189) #[] #[.pointer (some ⟨g2+1,0,none⟩),.pointer (some ⟨g2+2,0,none⟩)],.int .i64 (q:Nat),.int .i64 (gt l q:Nat),undef,undef,undef,undef,undef],defers:=[] }) ?assign ?body ?done ?stop
 case assign=>
  intro l1 q Wc K1 hK1;gi_wp2;exact hK1
 case body=>
  rintro l1 q Wc hq ⟨hk,hO⟩ hz;have m1:=(hk.cel c2 (by omega)).cell 1 rfl;have hlt:=hr.1 q (by omega);have S1:=hide9' (SC.out Wc g _ (gt l q) hO hlt)
  have RW:Hid (rowOf n (fun j=>isIn (l.take q) j||gt l q==j)=rowOf n (isIn (l.take (q+1)))):=rowOf_congr _ _ _ fun j _=>(isIn_take l q (by omega) j).symm;clear G hO;gi_wp2_with fail;refine⟨trivial,rfl,?_⟩
  refine(CallsIn.inRound l1 (callsIn_wide.2 S1.out)).mono ?_;rintro e W3 ⟨⟨v,rfl⟩,hO3,hT⟩;rw[RW.out]at hO3;have kT:Kept (fun b=>b≠g) Wc W3:=hT.kept (fun h=>h rfl)
  have HE:=hide9' (And.intro kT (And.intro (hk.trans kT) hO3));clear kT hT hO3 m1;gi_wp2;exact HE.out
 case done=>
  rintro D Wc hD ⟨hk,hO⟩ hd;rw[←hl,List.take_of_length_le (Nat.le_refl _)]at hO;have cR:=hk.cel c1 (by omega);have cB:=hk.cel c2 (by omega)
  have hb:=b4.trans (hk.below (B:=w.heap.size) (fun x h=>by omega) (by omega));have DN:D≠g∧D≠w.heap.size+1∧w.heap.size≤D:=⟨by omega,by omega,by omega⟩
  have gN:g≠w.heap.size+1∧w.heap.size≤g:=⟨by omega,by omega⟩;clear hk c0 c1 c2 cx cw
  go_wp2_with (first | refine load_cel g2 _ rfl cB Tryz.underlying33 ginfo_b ?_ | refine store_cel (w.heap.size+1) [.int .i64 0,.slice none 0 0] _ rfl rfl cR rfl ginfo_b (by simp[Value.oneCell']) ?_);intro w3 B3 O3
  have b5:=hb.trans (O3.below (Nat.le_succ _));have hO3:Own w3 g (rowOf n (isIn l)):=(O3.block g gN.1).trans hO;have hd3:w3.heap[D]?=some (.deferred (some [])):=(O3.block D DN.2.1).trans hd
  have HZ:=hide9' (And.intro B3 (And.intro hO3 (And.intro hd3 b5)));clear B3 O3 hO3 hd3 b5 hd hO cB cR;go_wp2;obtain⟨B3,hO3,hd3,b5⟩:=HZ.out
  have cR2:=B3.put (.deferred none) (show w.heap.size+1≠D from fun e=>DN.2.1 e.symm);have hO4:Own (w3.putObj D (.deferred none)) g (rowOf n (isIn l)):=(World.putObj_heap_other (fun e=>DN.1 e.symm)).trans hO3
  refine marks_ret hd3 (result_cel1 rfl (w.heap.size+1) _ rfl cR2 Tryz.underlying33 ginfo_b) ⟨some ⟨g,0,none⟩,k,?_,hO4.wd,?_,b5.trans (below_putObj DN.2.2 _)⟩
  ·rw[HL.out]
  ·exact Nat.le_of_eq (HL.out _)
 case stop=>
  rintro D q Wc hD hq h hd;exact h.elim
end Go.Proofs.YtfnkklkdajlhlaaGreatDoor
namespace Go.Proofs.YtfnkklkdajlhlaaGreatDoor
open Go.RowKit Num Bit
theorem hiP_take(l:List Nat)(v q:Nat)(h:q<l.length):hiP (l.take (q+1)) v=hiP (l.take q) v++[gt l q/2^v+q]:=by
 have e1:(l.take (q+1)).length=q+1:=by rw[List.length_take];omega
 have e2:(l.take q).length=q:=by rw[List.length_take];omega
 unfold hiP;rw[e1,e2,List.range_succ,List.map_append];congr 1
 ·refine List.map_congr_left fun i hi=>?_;have hi:=List.mem_range.1 hi;rw[gt_take' l (q+1) i (by omega),gt_take' l q i hi]
 ·simp only[List.map_cons,List.map_nil];rw[gt_take' l (q+1) q (by omega)]
theorem loP_take(l:List Nat)(v q:Nat)(hv:0<v)(h:q<l.length):loP (l.take (q+1)) v=loP (l.take q) v++[gt l q%2^v]:=by
 unfold loP;rw[if_neg (by omega),if_neg (by omega),take_snoc' l q h,List.map_append];rfl
theorem wv_snoc(l:List Nat)(x:Nat):wv l++[.int .u64 (x:Int)]=wv (l++[x]):=by simp[wv]
theorem info4_9:(Tryz.prog.info? 4).map (fun i=>(i.zero,i.size,i.bytes))=some (some (.bool false),1,1):=by kernel_rfl
theorem info_f8:(Tryz.prog.info? 43).map (·.size)=some 8:=by kernel_rfl
theorem info_i4:(Tryz.prog.info? 39).map (·.size)=some 4:=by kernel_rfl
theorem info_b2:(Tryz.prog.info? 33).map (·.size)=some 2:=by kernel_rfl
theorem wd_own9{w:World}{base n c:Nat}{ao:Option Addr}{l:List Nat}(h:w.ownsRow base 110 1 (.slice ao n c) n (wv l)):Wd w ao l:=by
 intro h0;have hlen:(wv l).length=n*1:=h.1;have hl:l.length=n:=by simp[wv]at hlen;omega
 have hk:=fun k hk=>h.lt k hk;have hc:=fun g hg=>h.cells (g:=g) hg;obtain⟨_,⟨e,e2⟩ | ⟨g,cap,cur,e,_⟩⟩:=h
 ·omega
 ·simp only[Value.slice.injEq]at e;obtain⟨rfl,_,rfl⟩:=e;refine⟨g,0,rfl,(hk g rfl).2,fun i hi=>?_⟩
  have hu:(wv l)[i]?=some (.int .u64 (gt l i)):=by
   unfold wv gt;rw[List.getElem?_map,List.getD_eq_getElem?_getD,List.getElem?_eq_getElem hi];rfl
  rw[←hc g rfl i _ hu];unfold Addr.add;split
  ·subst_vars;rfl
  ·simp
theorem of9_c(n:Nat)(lo:Option Addr)(l:List Nat)(lc:Nat)(w:World)(hN:Nd w lo (lz l))(hr:Rise l n)(hn:n≤3000):
  Calls Tryz.prog 112 #[.int .i64 n,.slice lo l.length lc] w fun e w'=>∃bo bc qo qc,e=.returned (.tuple #[.agg #[.int .i64 (fOf n l).N,.int .i64 (fOf n l).M,.int .i64 (fOf n l).k,.int .i64 (fOf n l).V,.int .i64 (fOf n l).LM,.slice bo (fOf n l).xs.length bc,.int .i64 (fOf n l).H,.slice qo (fOf n l).ys.length qc],.int .i64 0])∧(Wd w' bo (fOf n l).xs∧(fOf n l).xs.length≤bc∧Wd w' qo (fOf n l).ys∧(fOf n l).ys.length≤qc)∧Below w.heap.size w w':=by
 have hl:=hr.len;have hw20:=wdF_le n l.length (by omega);obtain⟨i4,hi4,za4,zb4,zc4⟩:=info_parts info4_9;obtain⟨i6,hi6,za6,zb6,zc6⟩:=info_parts Tryz.info110
 obtain⟨v,hv⟩:∃v,Hid (v=wdF n l.length):=⟨_,rfl⟩;have v20:v≤20:=by rw[hv.out];exact hw20
 obtain⟨E,hE⟩:∃E,Hid (E=n/2^v):=⟨_,rfl⟩;have lE:E≤3000:=by rw[hE.out];exact Nat.le_trans (Nat.div_le_self _ _) hn
 have sE:(n:Int)/2^v=(E:Int):=by rw[hE.out,Int.natCast_ediv,Int.natCast_pow];rfl
 have hHn:Hid (l.length+E+1=hiN l n v):=by show _=_;unfold hiN;rw[hE.out]
 have WC:Hid (∀w0,Qq 172 #[.int .i64 n,.int .i64 l.length] w0 (.int .i64 v)):=fun w0=>by
  have:=f9width_c n l.length (by omega) hl w0;rw[←hv.out]at this;exact this
 have v64:(v:Int)<64:=by omega
 obtain⟨W,hW⟩:∃W,W=w.alloc (.cells #[.int .i64 0,.int .i64 0,.int .i64 0,.int .i64 0,.int .i64 0,.slice none 0 0,.int .i64 0,.slice none 0 0] 43):=⟨_,rfl⟩;have bW:=yb1 hW;have B4:=yc1 hW
 go_enter Tryz.func112,Tryz.ntmps112;go_wp2_with fail;rw[←hW];clear hW;refine mr (WC.out _) fun w1 hb=>?_;have bw1:=bg bW hb;replace B4:=B4.kept hb;clear hb WC bW W
 go_wp2_with (at_make;refine wpList_make_full _ rfl _ _ 85 rfl (w1.heap.size+1) 4 i4 (.bool false) 1 Tryz.underlying85 hi4 za4 zb4 .i64 .i64 _ _ (l.length+E+1) rfl rfl rfl rfl ?b2 ?b3 ?b4 ?_)
 case b2=>rw[zc4];omega
 case b3=>unfold maxLen;omega
 case b4=>simp
 intro w2 hown hgr;have hH:=bcel_made hown
 have bG:Below (w1.heap.size+1) (w1.alloc (.cells #[.int .i64 n,.int .i64 l.length,.int .i64 0,.int .i64 0,.int .i64 0,.slice none 0 0,.int .i64 0,.slice none 0 0] 43)) w2:=(Below.refl _ _).grown hgr (by simp) (fun k h=>by cases h)
 have B7:Cel w2 w1.heap.size [.int .i64 n,.int .i64 l.length,.int .i64 0,.int .i64 0,.int .i64 0,.slice none 0 0,.int .i64 0,.slice none 0 0] 43:=(Cel.new w1 _ _).keep bG (Nat.lt_succ_self _)
 have bw2:Below w.heap.size w w2:=(bw1.trans ((below_alloc w1 _).mono bw1.size)).trans (bG.mono (Nat.le_succ_of_le bw1.size));have z4:=B4.lt
 replace B4:=(B4.kept (below_alloc w1 (.cells #[.int .i64 n,.int .i64 l.length,.int .i64 0,.int .i64 0,.int .i64 0,.slice none 0 0,.int .i64 0,.slice none 0 0] 43))).keep bG (Nat.lt_succ_of_lt z4);clear hown hgr bG bw1
 go_wp2;generalize w1.heap.size=g7 at *;clear w1
 go_loopw [9,10] (fun lv_ iv_ wr=>∃q:Nat,q≤l.length∧iv_=.int .i64 q∧Cel wr (g7+1) (bvs (l.length+E+1) (isIn (hiP (l.take q) v))) 4∧wr.ownsRow (g7+2) 110 1 lv_ (loP (l.take q) v).length (wv (loP (l.take q) v))∧Cel wr w.heap.size [.int .i64 0,.int .i64 0,.int .i64 0,.int .i64 0,.int .i64 0,.slice none 0 0,.int .i64 0,.slice none 0 0] 43∧Cel wr g7 [.int .i64 n,.int .i64 l.length,.int .i64 0,.int .i64 0,.int .i64 0,.slice none 0 0,.int .i64 0,.slice none 0 0] 43∧Below w.heap.size w wr) (fun _ iv_ _=>l.length-(intOf iv_).toNat)
 case atStart=>exact⟨0,Nat.zero_le _,rfl,hH,by rw[show loP (l.take 0) v=[]by unfold loP;split<;>simp];exact World.ownsRow_nil _ _ _ _,B4,B7,bw2⟩
 case round=>
  obtain⟨q,hq,rfl,hB,hown,b4,b7,hwr⟩:=hrel;clear hH B4 B7 bw2;obtain⟨so,sc,rfl,hsc, -⟩:=Ap.owns_shape hown;by_cases hlt:q<l.length
  ·have hlt2:(q:Int)<(l.length:Int):=by omega
   obtain⟨b,off,rfl,hbl,hcel⟩:=hN (by rw[length_lz];omega);have cq0:=hcel q (by rw[length_lz];exact hlt);rw[gi_lz]at cq0;have cq:=(hwr.cell (p:=⟨b,off+q,none⟩) hbl).trans cq0;have xl:=hr.1 q hlt
   obtain⟨x,hx⟩:∃x,Hid (x=gt l q):=⟨_,rfl⟩;rw[←hx.out]at cq cq0 xl;obtain⟨d,hd⟩:∃d,Hid (d=x/2^v):=⟨_,rfl⟩
   have sd:(x:Int)/2^v=(d:Int):=by rw[hd.out,Int.natCast_ediv,Int.natCast_pow];rfl
   have dE:d≤E:=by rw[hd.out,hE.out];exact Nat.div_le_div_right (Nat.le_of_lt xl)
   have jH:(d:Int)+(q:Int)<(l.length:Int)+(E:Int)+1:=by omega
   have jH2:d+q<l.length+E+1:=by omega
   have jn:((d:Int)+(q:Int)).toNat=d+q:=by omega
   have cj:=hB.cell (d+q) (bvs_get _ _ _ jH2);have fj:=hB.frozen (d+q);have st:=hB.set (d+q) (.bool true);rw[bvs_set]at st
   have HS:Hid (Cel (wr.setCell ⟨g7+1,d+q,none⟩ (.bool true)) (g7+1) (bvs (l.length+E+1) (isIn (hiP (l.take (q+1)) v))) 4):=by
    show Cel _ _ _ _;rw[hiP_take l v q hlt,bvs_congr _ (isIn (hiP (l.take q) v++[gt l q/2^v+q])) _ (fun i _=>isIn_snoc _ _ _),←hx.out,←hd.out];exact st
   have O1:Only (g7+1) wr (wr.setCell ⟨g7+1,d+q,none⟩ (.bool true)):=(Only.refl _ _).set _ _;have own1:=O1.owns hown (Nat.lt_succ_self _);have c4:=O1.cel b4 (by omega);have c7:=O1.cel b7 (by omega)
   have hw1:=hwr.trans (O1.below (by omega));clear st hB hown b4 b7 O1;by_cases hv0:v=0
   ·have nv1:¬(0:Int)<(v:Int):=by omega
    have nv2:¬0<v:=by omega
    have HO:Hid ((wr.setCell ⟨g7+1,d+q,none⟩ (.bool true)).ownsRow (g7+2) 110 1 (.slice so (loP (l.take q) v).length sc) (loP (l.take (q+1)) v).length (wv (loP (l.take (q+1)) v))):=by
     have e:∀q,loP (l.take q) v=[]:=fun q=>by rw[hv0];rfl
     rw[e]at own1;show(wr.setCell _ _).ownsRow _ _ _ _ _ _;rw[e,e];exact own1
    clear own1 hv0;go_wp2;exact⟨⟨q+1,by omega,by go_num,HS.out,HO.out,c4,c7,hw1⟩,by simp only[intOf];omega⟩
   ·have nv1:(0:Int)<(v:Int):=by omega
    have nv2:0<v:=by omega
    obtain⟨y,hy⟩:∃y,Hid (y=x%2^v):=⟨_,rfl⟩;obtain⟨P2,hP2⟩:∃P2:Nat,Hid (P2=2^v):=⟨2^v,(rfl:2^v=2^v)⟩
    have pw:IntKind.u64.wrap ((2:Int)^v)=(P2:Int):=by rw[Bit.shl_one v (by omega),hP2.out]
    have p0:((P2:Int)==0)=false:=by have:=Nat.two_pow_pos v;rw[←hP2.out]at this;simp;omega
    have p1:¬(P2:Int)=0:=by have:=Nat.two_pow_pos v;rw[←hP2.out]at this;omega
    have ym:(x:Int)%(P2:Int)=(y:Int):=by rw[hy.out,←hP2.out];omega
    have yt:(x:Int).tmod (P2:Int)=(y:Int):=by rw[Int.tmod_eq_emod_of_nonneg (by omega)];exact ym
    have yl:y≤x:=by rw[hy.out];exact Nat.mod_le _ _
    have hlen:(loP (l.take q) v).length=q:=by rw[length_loP _ _ nv2,List.length_take];omega
    have HLL:Hid ((loP (l.take q) v).length=q):=hlen;have HT:Hid (loP (l.take (q+1)) v=loP (l.take q) v++[y]):=by show _=_;rw[loP_take l v q nv2 hlt,hy.out,hx.out]
    obtain⟨V1,hV1⟩:∃V1,V1=wr.setCell ⟨g7+1,d+q,none⟩ (.bool true):=⟨_,rfl⟩;rw[←hV1]at HS own1 c4 c7 hw1;generalize loP (l.take q) v=L at *;have bA:=below_alloc V1 (.cells #[.int .u64 (y:Int)] 110)
    have own3:=Ap.owns_below own1 bA;have src3:(V1.alloc (.cells #[.int .u64 (y:Int)] 110)).cell? ⟨V1.heap.size,0,none⟩=some (.int .u64 (y:Int)):=(Cel.new V1 [.int .u64 (y:Int)] 110).cell 0 rfl
    have k4:=c4.kept bA;have k7:=c7.kept bA;have kS:=HS.out.kept bA;have g3:g7+2≤(V1.alloc (.cells #[.int .u64 (y:Int)] 110)).heap.size:=kS.lt;have hw3:=bg hw1 bA
    have cqV:=(hw1.cell (p:=⟨b,off+q,none⟩) hbl).trans cq0;clear own1 c4 c7 hw1 HS bA hlen;go_upto_if 50 with fail
    rw[←hV1];clear hV1 cj fj cq cq0
    go_wp2_with (at_builtin;refine Ap.wpList_append_u rfl _ _ 31 rfl (g7+2) 110 i6 (.int .u64 0) 8 Tryz.underlying31 hi6 za6 zb6 zc6 rfl (.slice so L.length sc) L.length (wv L) rfl own3 (some ⟨V1.heap.size,0,none⟩) 1 1 [.int .u64 (y:Int)] rfl rfl ?d1 ?d2 ?d3 ?d4 ?d5 ?_)
    case d1=>exact fun _=>⟨_,rfl,fun j u hj=>by
     match j,hj with
     | 0,hj=>simp at hj;subst hj;exact src3⟩
    case d2=>intro u hu;simp at hu;subst hu;rfl
    case d3=>have:=HLL.out;unfold maxLen;omega
    case d4=>have:=HLL.out;omega
    case d5=>exact g3
    intro to_ tc_ w4 own4 hle4 hB4;rw[wv_snoc]at own4
    have HO:Hid (w4.ownsRow (g7+2) 110 1 (.slice to_ (L.length+1) tc_) (loP (l.take (q+1)) v).length (wv (loP (l.take (q+1)) v))):=by
     show w4.ownsRow _ _ _ _ _ _;rw[HT.out,List.length_append];exact own4
    have m4:=k4.keep hB4 (by omega);have m7:=k7.keep hB4 (by omega);have mS:=kS.keep hB4 (by omega);have hw4:=hw3.trans (hB4.mono (by omega));clear own4 own3 hB4 k4 k7 kS hw3 src3 g3 HT
    have HF:=Hid.mk9 (And.intro mS (And.intro HO.out (And.intro m4 (And.intro m7 hw4))));clear mS HO m4 m7 hw4;go_wp2
    exact⟨⟨q+1,by omega,by go_num,HF.out.1,HF.out.2.1,HF.out.2.2.1,HF.out.2.2.2.1,HF.out.2.2.2.2⟩,by simp only[intOf];omega⟩
  ·obtain rfl:q=l.length:=by omega
   rw[List.take_of_length_le (Nat.le_refl l.length)]at hown hB hsc⊢;obtain⟨L,hL⟩:∃L,Hid (L=loP l v):=⟨_,rfl⟩;obtain⟨Hn,hHd⟩:∃Hn,Hid (Hn=hiN l n v):=⟨_,rfl⟩
   obtain⟨X,hX⟩:∃X,Hid (X=mkS L (max v 1) L.length):=⟨_,rfl⟩;obtain⟨Y,hY⟩:∃Y,Hid (Y=rowOf Hn (isIn (hiP l v))):=⟨_,rfl⟩;rw[←hL.out]at hown hsc⊢
   have hHE:l.length+E+1=Hn:=by rw[hHd.out];exact hHn.out
   have lHn:Hn≤6001:=by omega
   have cHn:(l.length:Int)+(E:Int)+1=(Hn:Int):=by omega
   rw[hHE]at hB⊢;have lL:L.length≤3000:=by have:=length_lo_le l v;rw[←hL.out]at this;omega
   have ltv:∀i,gt L i<2^(max v 1):=fun i=>by rw[hL.out];exact loP_lt l v i
   have fitL:Fit L:=fun i=>by
    have h1:=ltv i;have:2^(max v 1)≤2^20:=Nat.pow_le_pow_right (by decide) (by omega);omega
   have ltN:∀j,j<L.length→lenI (gt L j)≤((max v 1:Nat):Int):=fun j _=>by
    have:=len_le (gt L j) (max v 1) (ltv j);unfold lenI;rw[Int.toNat_natCast];omega
   have hWd:=wd_own9 hown
   have FR:Hid (∀w0:World,Cel w0 (g7+1) (bvs Hn (isIn (hiP l v))) 4→Calls Tryz.prog 39 #[.slice (some ⟨g7+1,0,none⟩) Hn Hn] w0 fun e w'=>∃g,e=.returned (.tuple #[.agg #[.int .i64 Hn,.slice (some ⟨g,0,none⟩) Y.length Y.length],.int .i64 0])∧w0.heap.size≤g∧Own w' g Y∧Below w0.heap.size w0 w'):=fun w0 h=>by
    have hlen:(bls Hn (isIn (hiP l v))).length=Hn:=by simp[bls]
    have h3:=reffrom_ok (some ⟨g7+1,0,none⟩) (bls Hn (isIn (hiP l v))) Hn _ w0 (bl_cel h) (by rw[hlen];omega) rfl;rw[fromS_all]at h3
    have e6:frL (bls Hn (isIn (hiP l v)))=Y:=by
     rw[hY.out];unfold frL;rw[hlen];refine rowOf_congr Hn _ _ fun i hi=>?_;unfold bt bls;rw[List.getD_eq_getElem?_getD,List.getElem?_map,List.getElem?_range hi];rfl
    have e5:Y.length=(Hn+63)/64:=by rw[hY.out];exact length_rowOf _ _
    rw[hlen,e6]at h3;rw[e5];exact h3
   clear hHE hown;by_cases hv0:v=0
   ·skip;have ltL:∀j,j<L.length→lenI (gt L j)≤1:=fun j hj=>by have:=ltN j hj;omega
    have c1:(v:Int)<1:=by omega
    have c2:v<1:=by omega
    have c3:(v:Int)≤1:=by omega
    have c4:max (v:Int) 1=1:=by omega
    clear ltN ltv
    have EA:Hid ((fOf n l).N=(n:Int)∧(fOf n l).M=(l.length:Int)∧(fOf n l).k=(L.length:Int)∧(fOf n l).V=1∧(fOf n l).LM=(L.length:Int)∧(fOf n l).xs=X∧(fOf n l).H=(Hn:Int)∧(fOf n l).ys=Y):=by
     refine⟨rfl,rfl,?_,?_,?_,?_,?_,?_⟩
     ·show((loP l (wdF n l.length)).length:Int)=_;rw[←hv.out,←hL.out]
     ·show((max (wdF n l.length) 1:Nat):Int)=1;rw[←hv.out];omega
     ·show((loP l (wdF n l.length)).length:Int)*((max (wdF n l.length) 1:Nat):Int)=(L.length:Int);rw[←hv.out,←hL.out,show((max v 1:Nat):Int)=1 by omega];exact Int.mul_one _
     ·show mkS (loP l (wdF n l.length)) (max (wdF n l.length) 1) (loP l (wdF n l.length)).length=X;rw[←hv.out,←hL.out,hX.out]
     ·show((hiN l n (wdF n l.length):Nat):Int)=_;rw[←hv.out,←hHd.out]
     ·show rowOf (hiN l n (wdF n l.length)) (isIn (hiP l (wdF n l.length)))=Y;rw[←hv.out,←hHd.out,hY.out]
    have MK:Hid (∀w0,Wd w0 so L→Calls Tryz.prog 127 #[.int .i64 1,.slice so L.length sc] w0 fun e w'=>∃bo dap,e=.returned (.tuple #[.agg #[.int .i64 L.length,.int .i64 1,.int .i64 (L.length:Int),.slice bo X.length dap],.int .i64 0])∧OutF w0 w' bo X dap):=fun w0 h=>by
     have h3:=refmake_c 1 so L sc w0 h fitL (by omega)
     have e0:imE 1 L=0:=by
      unfold imE;rw[if_neg];rintro(c | c | c | c)
      ·omega
      ·omega
      ·have:=Nat.mul_le_mul lL v20;have:(L.length:Int)*(v:Int)≤60000:=by rw[←Int.natCast_mul];omega
       omega
      ·exact c ltL
     have e1:imN 1 L=(L.length:Int):=by unfold imN;rw[if_pos e0]
     have e2:imW 1 L=1:=by unfold imW;rw[if_pos e0]
     have e3:imM 1 L=(L.length:Int):=by unfold imM;rw[if_pos e0];exact Int.mul_one _
     have e4:imL 1 L=X:=by unfold imL;rw[if_pos e0,hX.out,show max v 1=1 by omega];rfl
     rw[e0,e1,e2,e3,e4]at h3;exact h3
    clear hL hX hY hHd hv0;have lb7:=b7.lt;have lb4:=b4.lt;go_wp2_with fail;refine(MK.out _ hWd).mono ?_;rintro e w5 ⟨bo,dap,rfl,h5X, -,h5l,h5n,hb⟩;replace hB:=hB.kept hb;replace b4:=b4.kept hb
    replace b7:=b7.kept hb;replace hwr:=bg hwr hb;clear hb MK hWd
    obtain⟨V5,hV5⟩:∃V5,V5=w5.alloc (.cells #[.int .i64 L.length,.int .i64 1,.int .i64 (L.length:Int),.slice bo X.length dap] 39):=⟨_,rfl⟩;have bA:Below w5.heap.size w5 V5:=by rw[hV5];exact below_alloc w5 _
    have D11:Cel V5 w5.heap.size [.int .i64 L.length,.int .i64 1,.int .i64 (L.length:Int),.slice bo X.length dap] 39:=by rw[hV5];exact Cel.new w5 _ _
    have ne11:g7≠w5.heap.size:=by have:=b7.lt;omega
    have nf11:w.heap.size≠w5.heap.size:=by have:=b4.lt;omega
    replace hB:=hB.kept bA;replace b4:=b4.kept bA;replace b7:=b7.kept bA;replace h5X:=h5X.keep bA;replace hwr:=bg hwr bA;clear bA;go_wp2_with fail;rw[←hV5];clear hV5;refine(FR.out _ hB).mono ?_
    rintro e w6 ⟨g5,rfl,hg5,hOw,hb⟩;have g5n:g7<g5:=Nat.lt_of_lt_of_le b7.lt hg5;replace D11:=D11.kept hb;replace b4:=b4.kept hb;replace b7:=b7.kept hb;replace h5X:=h5X.keep hb
    replace hwr:=bg hwr hb;have hYd:=hOw.wd;clear hb FR hOw hB hg5;obtain⟨V6,hV6⟩:∃V6,V6=w6.alloc (.cells #[.int .i64 Hn,.slice (some ⟨g5,0,none⟩) Y.length Y.length] 33):=⟨_,rfl⟩
    have bA:Below w6.heap.size w6 V6:=by rw[hV6];exact below_alloc w6 _
    have D13:Cel V6 w6.heap.size [.int .i64 Hn,.slice (some ⟨g5,0,none⟩) Y.length Y.length] 33:=by rw[hV6];exact Cel.new w6 _ _
    have ne13:g7≠w6.heap.size:=by have:=b7.lt;omega
    replace D11:=D11.kept bA;replace b4:=b4.kept bA;replace b7:=b7.kept bA;replace h5X:=h5X.keep bA;replace hYd:=hYd.keep bA;replace hwr:=bg hwr bA;clear bA;go_upto_region 15 with fail
    rw[←hV6];clear hV6;generalize w6.heap.size=g13 at *;generalize w5.heap.size=g11 at *
    refine region_g [5] (fun w'=>Cel w' g11 [.int .i64 L.length,.int .i64 1,.int .i64 (L.length:Int),.slice bo X.length dap] 39∧Cel w' g13 [.int .i64 Hn,.slice (some ⟨g5,0,none⟩) Y.length Y.length] 33) (by kernel_rfl) ?_
    have bD:Below V6.heap.size V6 V6.drew:=(Below.refl _ _).drew;have hS:=And.intro (D11.kept bD) (D13.kept bD);replace b4:=b4.kept bD;replace b7:=b7.kept bD;replace h5X:=h5X.keep bD;replace hYd:=hYd.keep bD
    replace hwr:=bg hwr bD;clear bD D11 D13;generalize V6.drew=wd at *
    refine AnyG.take 0 (v:=.agg [.int .i64 L.length,.int .i64 1,.int .i64 (L.length:Int),.slice bo X.length dap].toArray) rfl (by kernel_rfl) (by kernel_rfl) (by kernel_rfl) (by kernel_rfl) (fun _ _ _ h=>h) hS ?hy1 (by rfl) ?rest1
    case hy1=>
     intro w0 h0;exact run_load_obj g11 [.int .i64 L.length,.int .i64 1,.int .i64 (L.length:Int),.slice bo X.length dap] rfl h0.1 Tryz.underlying39 info_i4
    try simp only[Act.put,yq3,yq4,yq5]
    refine AnyG.take 1 (v:=.agg [.int .i64 Hn,.slice (some ⟨g5,0,none⟩) Y.length Y.length].toArray) rfl (by kernel_rfl) (by kernel_rfl) (by kernel_rfl) (by kernel_rfl) (fun _ _ _ h=>h) hS ?hy2 (by rfl) ?rest2
    case hy2=>
     intro w0 h0;exact run_load_obj g13 [.int .i64 Hn,.slice (some ⟨g5,0,none⟩) Y.length Y.length] rfl h0.2 Tryz.underlying33 info_b2
    try simp only[Act.put,yq3,yq4,yq5]
    refine AnyG.takeW 2 (v:=?vv3) rfl (by kernel_rfl) (by kernel_rfl) (by kernel_rfl) (fun _ _ _ h=>h) ?hy3 (by rfl) ?rest3
    case hy3=>
     intro w0;go_simp;try with_reducible rfl
    try simp only[Act.put,yq3,yq4,yq5]
    refine aO 3 ?_;intro K hK;have x2:=b7.cell 2 rfl;have x3:=b7.cell 3 rfl;have x4:=b7.cell 4 rfl;have x5:=b7.cell 5 rfl;have y2:=b7.frozen 2;have y3:=b7.frozen 3;have y4:=b7.frozen 4;have y5:=b7.frozen 5
    go_simp
    refine hK.out _ _ (fun _=>⟨((((hS.1.other (by show g11≠g7;omega) _).other (by show g11≠g7;omega) _).other (by show g11≠g7;omega) _).other (by show g11≠g7;omega) _),((((hS.2.other (by show g13≠g7;omega) _).other (by show g13≠g7;omega) _).other (by show g13≠g7;omega) _).other (by show g13≠g7;omega) _)⟩) ?_
    clear hK K x2 x3 x4 x5 y2 y3 y4 y5;try simp only[Act.put,yq3,yq4,yq5]
    have O3:Only g7 wd ((((wd.setCell ⟨g7,2,none⟩ (.int .i64 L.length)).setCell ⟨g7,3,none⟩ (.int .i64 1)).setCell ⟨g7,4,none⟩ (.int .i64 (L.length:Int))).setCell ⟨g7,5,none⟩ (.slice bo X.length dap)):=((((Only.refl g7 wd).set 2 _).set 3 _).set 4 _).set 5 _
    have q7:=(((b7.set 2 (.int .i64 L.length)).set 3 (.int .i64 1)).set 4 (.int .i64 (L.length:Int))).set 5 (.slice bo X.length dap)
    generalize ((((wd.setCell ⟨g7,2,none⟩ (.int .i64 L.length)).setCell ⟨g7,3,none⟩ (.int .i64 1)).setCell ⟨g7,4,none⟩ (.int .i64 (L.length:Int))).setCell ⟨g7,5,none⟩ (.slice bo X.length dap))=we at *
    refine AnyG.takeW 4 (v:=?vv4) rfl (by kernel_rfl) (by kernel_rfl) (by kernel_rfl) (fun _ _ _ h=>h) ?hy4 (by rfl) ?rest4
    case hy4=>
     intro w0;go_simp;try with_reducible rfl
    try simp only[Act.put,yq3,yq4,yq5]
    refine aO 5 ?_;intro K hK;have x6:=q7.cell 6 rfl;have x7:=q7.cell 7 rfl;have y6:=q7.frozen 6;have y7:=q7.frozen 7;go_simp;refine hK.out _ _ (fun h=>absurd (by decide) h) ?_;clear hK K x6 x7 y6 y7
    try simp only[Act.put,yq3,yq4,yq5]
    refine AnyG.done (by kernel_rfl) ?_ _;have O5:Only g7 wd ((we.setCell ⟨g7,6,none⟩ (.int .i64 Hn)).setCell ⟨g7,7,none⟩ (.slice (some ⟨g5,0,none⟩) Y.length Y.length)):=O3.trans (((Only.refl g7 we).set 6 _).set 7 _)
    have r7:=(q7.set 6 (.int .i64 Hn)).set 7 (.slice (some ⟨g5,0,none⟩) Y.length Y.length)
    generalize ((we.setCell ⟨g7,6,none⟩ (.int .i64 Hn)).setCell ⟨g7,7,none⟩ (.slice (some ⟨g5,0,none⟩) Y.length Y.length))=wf at *;replace b4:=O5.cel b4 (by omega)
    replace h5X:=O5.wd h5X (fun a _ ha=>by have:=h5n a ha;omega);replace hYd:=O5.wd hYd (fun a _ ha=>by cases ha;show g5≠g7;omega);replace hwr:=hwr.trans (O5.below (by omega));clear O3 O5 q7 b7 hS
    have r7b:Cel wf g7 [.int .i64 n,.int .i64 l.length,.int .i64 L.length,.int .i64 1,.int .i64 (L.length:Int),.slice bo X.length dap,.int .i64 Hn,.slice (some ⟨g5,0,none⟩) Y.length Y.length] 43:=r7
    go_wp2_with (first | refine load_cel g7 _ rfl r7b Tryz.underlying43 info_f8 ?_ | refine store_cel w.heap.size _ _ rfl rfl b4 rfl info_f8 (by simp[Value.oneCell']) ?_);intro wg r4 O4
    have HZ:=Hid.mk9 (And.intro r4 (And.intro (O4.wd h5X (fun a _ ha=>by have:=h5n a ha;omega)) (And.intro (O4.wd hYd (fun a _ ha=>by cases ha;show g5≠w.heap.size;omega)) (hwr.trans (O4.below (Nat.le_refl _))))))
    clear r4 O4 b4 h5X hYd hwr r7 r7b;go_wp2
    (try simp only[Exit.inBlock,Exit.then]);refine bodyPost_ret (result_cel rfl w.heap.size _ rfl HZ.out.1 Tryz.underlying43 info_f8) rfl ⟨bo,dap,some ⟨g5,0,none⟩,Y.length,?_,?_,HZ.out.2.2.2⟩
    ·rw[EA.out.1,EA.out.2.1,EA.out.2.2.1,EA.out.2.2.2.1,EA.out.2.2.2.2.1,EA.out.2.2.2.2.2.1,EA.out.2.2.2.2.2.2.1,EA.out.2.2.2.2.2.2.2];rfl
    ·rw[EA.out.2.2.2.2.2.1,EA.out.2.2.2.2.2.2.2];exact⟨HZ.out.2.1,h5l,HZ.out.2.2.1,Nat.le_refl _⟩
   ·skip;have ltL:∀j,j<L.length→lenI (gt L j)≤(v:Int):=fun j hj=>by have:=ltN j hj;omega
    have c1:¬(v:Int)<1:=by omega
    have c2:¬v<1:=by omega
    have c3:(1:Int)≤(v:Int):=by omega
    have c4:max (v:Int) 1=(v:Int):=by omega
    clear ltN ltv
    have EA:Hid ((fOf n l).N=(n:Int)∧(fOf n l).M=(l.length:Int)∧(fOf n l).k=(L.length:Int)∧(fOf n l).V=(v:Int)∧(fOf n l).LM=((L.length:Int)*(v:Int))∧(fOf n l).xs=X∧(fOf n l).H=(Hn:Int)∧(fOf n l).ys=Y):=by
     refine⟨rfl,rfl,?_,?_,?_,?_,?_,?_⟩
     ·show((loP l (wdF n l.length)).length:Int)=_;rw[←hv.out,←hL.out]
     ·show((max (wdF n l.length) 1:Nat):Int)=(v:Int);rw[←hv.out];omega
     ·show((loP l (wdF n l.length)).length:Int)*((max (wdF n l.length) 1:Nat):Int)=((L.length:Int)*(v:Int));rw[←hv.out,←hL.out,show((max v 1:Nat):Int)=(v:Int)by omega]
     ·show mkS (loP l (wdF n l.length)) (max (wdF n l.length) 1) (loP l (wdF n l.length)).length=X;rw[←hv.out,←hL.out,hX.out]
     ·show((hiN l n (wdF n l.length):Nat):Int)=_;rw[←hv.out,←hHd.out]
     ·show rowOf (hiN l n (wdF n l.length)) (isIn (hiP l (wdF n l.length)))=Y;rw[←hv.out,←hHd.out,hY.out]
    have MK:Hid (∀w0,Wd w0 so L→Calls Tryz.prog 127 #[.int .i64 (v:Int),.slice so L.length sc] w0 fun e w'=>∃bo dap,e=.returned (.tuple #[.agg #[.int .i64 L.length,.int .i64 (v:Int),.int .i64 ((L.length:Int)*(v:Int)),.slice bo X.length dap],.int .i64 0])∧OutF w0 w' bo X dap):=fun w0 h=>by
     have h3:=refmake_c (v:Int) so L sc w0 h fitL (by omega)
     have e0:imE (v:Int) L=0:=by
      unfold imE;rw[if_neg];rintro(c | c | c | c)
      ·omega
      ·omega
      ·have:=Nat.mul_le_mul lL v20;have:(L.length:Int)*(v:Int)≤60000:=by rw[←Int.natCast_mul];omega
       omega
      ·exact c ltL
     have e1:imN (v:Int) L=(L.length:Int):=by unfold imN;rw[if_pos e0]
     have e2:imW (v:Int) L=(v:Int):=by unfold imW;rw[if_pos e0]
     have e3:imM (v:Int) L=((L.length:Int)*(v:Int)):=by unfold imM;rw[if_pos e0]
     have e4:imL (v:Int) L=X:=by unfold imL;rw[if_pos e0,hX.out,show max v 1=v by omega];rfl
     rw[e0,e1,e2,e3,e4]at h3;exact h3
    clear hL hX hY hHd;have lb7:=b7.lt;have lb4:=b4.lt;go_wp2_with fail;refine(MK.out _ hWd).mono ?_;rintro e w5 ⟨bo,dap,rfl,h5X, -,h5l,h5n,hb⟩;replace hB:=hB.kept hb;replace b4:=b4.kept hb
    replace b7:=b7.kept hb;replace hwr:=bg hwr hb;clear hb MK hWd
    obtain⟨V5,hV5⟩:∃V5,V5=w5.alloc (.cells #[.int .i64 L.length,.int .i64 (v:Int),.int .i64 ((L.length:Int)*(v:Int)),.slice bo X.length dap] 39):=⟨_,rfl⟩
    have bA:Below w5.heap.size w5 V5:=by rw[hV5];exact below_alloc w5 _
    have D11:Cel V5 w5.heap.size [.int .i64 L.length,.int .i64 (v:Int),.int .i64 ((L.length:Int)*(v:Int)),.slice bo X.length dap] 39:=by rw[hV5];exact Cel.new w5 _ _
    have ne11:g7≠w5.heap.size:=by have:=b7.lt;omega
    have nf11:w.heap.size≠w5.heap.size:=by have:=b4.lt;omega
    replace hB:=hB.kept bA;replace b4:=b4.kept bA;replace b7:=b7.kept bA;replace h5X:=h5X.keep bA;replace hwr:=bg hwr bA;clear bA;go_wp2_with fail;rw[←hV5];clear hV5;refine(FR.out _ hB).mono ?_
    rintro e w6 ⟨g5,rfl,hg5,hOw,hb⟩;have g5n:g7<g5:=Nat.lt_of_lt_of_le b7.lt hg5;replace D11:=D11.kept hb;replace b4:=b4.kept hb;replace b7:=b7.kept hb;replace h5X:=h5X.keep hb
    replace hwr:=bg hwr hb;have hYd:=hOw.wd;clear hb FR hOw hB hg5;obtain⟨V6,hV6⟩:∃V6,V6=w6.alloc (.cells #[.int .i64 Hn,.slice (some ⟨g5,0,none⟩) Y.length Y.length] 33):=⟨_,rfl⟩
    have bA:Below w6.heap.size w6 V6:=by rw[hV6];exact below_alloc w6 _
    have D13:Cel V6 w6.heap.size [.int .i64 Hn,.slice (some ⟨g5,0,none⟩) Y.length Y.length] 33:=by rw[hV6];exact Cel.new w6 _ _
    have ne13:g7≠w6.heap.size:=by have:=b7.lt;omega
    replace D11:=D11.kept bA;replace b4:=b4.kept bA;replace b7:=b7.kept bA;replace h5X:=h5X.keep bA;replace hYd:=hYd.keep bA;replace hwr:=bg hwr bA;clear bA;go_upto_region 15 with fail
    rw[←hV6];clear hV6;generalize w6.heap.size=g13 at *;generalize w5.heap.size=g11 at *
    refine region_g [5] (fun w'=>Cel w' g11 [.int .i64 L.length,.int .i64 (v:Int),.int .i64 ((L.length:Int)*(v:Int)),.slice bo X.length dap] 39∧Cel w' g13 [.int .i64 Hn,.slice (some ⟨g5,0,none⟩) Y.length Y.length] 33) (by kernel_rfl) ?_
    have bD:Below V6.heap.size V6 V6.drew:=(Below.refl _ _).drew;have hS:=And.intro (D11.kept bD) (D13.kept bD);replace b4:=b4.kept bD;replace b7:=b7.kept bD;replace h5X:=h5X.keep bD;replace hYd:=hYd.keep bD
    replace hwr:=bg hwr bD;clear bD D11 D13;generalize V6.drew=wd at *
    refine AnyG.take 0 (v:=.agg [.int .i64 L.length,.int .i64 (v:Int),.int .i64 ((L.length:Int)*(v:Int)),.slice bo X.length dap].toArray) rfl (by kernel_rfl) (by kernel_rfl) (by kernel_rfl) (by kernel_rfl) (fun _ _ _ h=>h) hS ?hy5 (by rfl) ?rest5
    case hy5=>
     intro w0 h0;exact run_load_obj g11 [.int .i64 L.length,.int .i64 (v:Int),.int .i64 ((L.length:Int)*(v:Int)),.slice bo X.length dap] rfl h0.1 Tryz.underlying39 info_i4
    try simp only[Act.put,yq3,yq4,yq5]
    refine AnyG.take 1 (v:=.agg [.int .i64 Hn,.slice (some ⟨g5,0,none⟩) Y.length Y.length].toArray) rfl (by kernel_rfl) (by kernel_rfl) (by kernel_rfl) (by kernel_rfl) (fun _ _ _ h=>h) hS ?hy6 (by rfl) ?rest6
    case hy6=>
     intro w0 h0;exact run_load_obj g13 [.int .i64 Hn,.slice (some ⟨g5,0,none⟩) Y.length Y.length] rfl h0.2 Tryz.underlying33 info_b2
    try simp only[Act.put,yq3,yq4,yq5]
    refine AnyG.takeW 2 (v:=?vv7) rfl (by kernel_rfl) (by kernel_rfl) (by kernel_rfl) (fun _ _ _ h=>h) ?hy7 (by rfl) ?rest7
    case hy7=>
     intro w0;go_simp;try with_reducible rfl
    try simp only[Act.put,yq3,yq4,yq5]
    refine aO 3 ?_;intro K hK;have x2:=b7.cell 2 rfl;have x3:=b7.cell 3 rfl;have x4:=b7.cell 4 rfl;have x5:=b7.cell 5 rfl;have y2:=b7.frozen 2;have y3:=b7.frozen 3;have y4:=b7.frozen 4;have y5:=b7.frozen 5
    go_simp
    refine hK.out _ _ (fun _=>⟨((((hS.1.other (by show g11≠g7;omega) _).other (by show g11≠g7;omega) _).other (by show g11≠g7;omega) _).other (by show g11≠g7;omega) _),((((hS.2.other (by show g13≠g7;omega) _).other (by show g13≠g7;omega) _).other (by show g13≠g7;omega) _).other (by show g13≠g7;omega) _)⟩) ?_
    clear hK K x2 x3 x4 x5 y2 y3 y4 y5;try simp only[Act.put,yq3,yq4,yq5]
    have O3:Only g7 wd ((((wd.setCell ⟨g7,2,none⟩ (.int .i64 L.length)).setCell ⟨g7,3,none⟩ (.int .i64 (v:Int))).setCell ⟨g7,4,none⟩ (.int .i64 ((L.length:Int)*(v:Int)))).setCell ⟨g7,5,none⟩ (.slice bo X.length dap)):=((((Only.refl g7 wd).set 2 _).set 3 _).set 4 _).set 5 _
    have q7:=(((b7.set 2 (.int .i64 L.length)).set 3 (.int .i64 (v:Int))).set 4 (.int .i64 ((L.length:Int)*(v:Int)))).set 5 (.slice bo X.length dap)
    generalize ((((wd.setCell ⟨g7,2,none⟩ (.int .i64 L.length)).setCell ⟨g7,3,none⟩ (.int .i64 (v:Int))).setCell ⟨g7,4,none⟩ (.int .i64 ((L.length:Int)*(v:Int)))).setCell ⟨g7,5,none⟩ (.slice bo X.length dap))=we at *
    refine AnyG.takeW 4 (v:=?vv8) rfl (by kernel_rfl) (by kernel_rfl) (by kernel_rfl) (fun _ _ _ h=>h) ?hy8 (by rfl) ?rest8
    case hy8=>
     intro w0;go_simp;try with_reducible rfl
    try simp only[Act.put,yq3,yq4,yq5]
    refine aO 5 ?_;intro K hK;have x6:=q7.cell 6 rfl;have x7:=q7.cell 7 rfl;have y6:=q7.frozen 6;have y7:=q7.frozen 7;go_simp;refine hK.out _ _ (fun h=>absurd (by decide) h) ?_;clear hK K x6 x7 y6 y7
    try simp only[Act.put,yq3,yq4,yq5]
    refine AnyG.done (by kernel_rfl) ?_ _;have O5:Only g7 wd ((we.setCell ⟨g7,6,none⟩ (.int .i64 Hn)).setCell ⟨g7,7,none⟩ (.slice (some ⟨g5,0,none⟩) Y.length Y.length)):=O3.trans (((Only.refl g7 we).set 6 _).set 7 _)
    have r7:=(q7.set 6 (.int .i64 Hn)).set 7 (.slice (some ⟨g5,0,none⟩) Y.length Y.length)
    generalize ((we.setCell ⟨g7,6,none⟩ (.int .i64 Hn)).setCell ⟨g7,7,none⟩ (.slice (some ⟨g5,0,none⟩) Y.length Y.length))=wf at *;replace b4:=O5.cel b4 (by omega)
    replace h5X:=O5.wd h5X (fun a _ ha=>by have:=h5n a ha;omega);replace hYd:=O5.wd hYd (fun a _ ha=>by cases ha;show g5≠g7;omega);replace hwr:=hwr.trans (O5.below (by omega));clear O3 O5 q7 b7 hS
    have r7b:Cel wf g7 [.int .i64 n,.int .i64 l.length,.int .i64 L.length,.int .i64 (v:Int),.int .i64 ((L.length:Int)*(v:Int)),.slice bo X.length dap,.int .i64 Hn,.slice (some ⟨g5,0,none⟩) Y.length Y.length] 43:=r7
    go_wp2_with (first | refine load_cel g7 _ rfl r7b Tryz.underlying43 info_f8 ?_ | refine store_cel w.heap.size _ _ rfl rfl b4 rfl info_f8 (by simp[Value.oneCell']) ?_);intro wg r4 O4
    have HZ:=Hid.mk9 (And.intro r4 (And.intro (O4.wd h5X (fun a _ ha=>by have:=h5n a ha;omega)) (And.intro (O4.wd hYd (fun a _ ha=>by cases ha;show g5≠w.heap.size;omega)) (hwr.trans (O4.below (Nat.le_refl _))))))
    clear r4 O4 b4 h5X hYd hwr r7 r7b;go_wp2
    (try simp only[Exit.inBlock,Exit.then]);refine bodyPost_ret (result_cel rfl w.heap.size _ rfl HZ.out.1 Tryz.underlying43 info_f8) rfl ⟨bo,dap,some ⟨g5,0,none⟩,Y.length,?_,?_,HZ.out.2.2.2⟩
    ·rw[EA.out.1,EA.out.2.1,EA.out.2.2.1,EA.out.2.2.2.1,EA.out.2.2.2.2.1,EA.out.2.2.2.2.2.1,EA.out.2.2.2.2.2.2.1,EA.out.2.2.2.2.2.2.2];rfl
    ·rw[EA.out.2.2.2.2.2.1,EA.out.2.2.2.2.2.2.2];exact⟨HZ.out.2.1,h5l,HZ.out.2.2.1,Nat.le_refl _⟩
end Go.Proofs.YtfnkklkdajlhlaaGreatDoor
namespace Go.Proofs.YtfnkklkdajlhlaaGreatDoor
open Go.RowKit Go.Shelf Num Bit
attribute [local go_sem] Oper.semAt_some
attribute [local go_sem] Oper.semAt_some
end Go.Proofs.YtfnkklkdajlhlaaGreatDoor
