import Derived.Test.YtleegaihbgbcjabGreatDoorT12
set_option linter.unusedVariables false
set_option linter.unusedSimpArgs false
set_option maxRecDepth 100000
set_option maxHeartbeats 16000000
open Go.Proofs.Tryz
namespace Go.Proofs.YtleegaihbgbcjabGreatDoor
open Go.RowKit Num Bit
def iQ(w:World)(g:Nat)(cs:List Value)(bit:Bool)(k:Nat):Prop:=aa w g cs 55/\aa w (g+1) [.bool bit] 4/\aa w (g+2) [.int .i64 (k:Int)] 3
theorem iQ.kept{w w':World}{g:Nat}{cs:List Value}{bit:Bool}{k:Nat}(h:iQ w g cs bit k)(hb:Below w.heap.size w w'):iQ w' g cs bit k:=⟨h.1.kept hb,h.2.1.kept hb,h.2.2.kept hb⟩
theorem zt(m:Nat)(ao:Option Addr)(xs:List Nat)(cap:Nat)(so:Option Addr)(su:List Int)(sc:Nat)(tO:Option Addr)(sb:List Int)(tc:Nat)(bit:Bool)(k i g:Nat)(w:World)(h:gC w (m:Int) ao xs cap so su sc tO sb tc)(hp:pchk (m:Int) xs su sb=true)(hi:64*(i+1)<=m)(hm:m<=1048576)
  (hC:iQ w g [.int .i64 (m:Int),.slice ao xs.length cap,.slice so su.length sc,.slice tO sb.length tc] bit k):
  Qq 193 #[.int .i64 i,.pointer (some ⟨g,0,none⟩),.pointer (some ⟨g+1,0,none⟩),.pointer (some ⟨g+2,0,none⟩)] w (.bool (decide (k<cB xs bit (64*(i+1))))):=by
 have C:Hid (Qz w 126 #[.agg #[.int .i64 (m:Int),.slice ao xs.length cap,.slice so su.length sc,.slice tO sb.length tc],.bool bit,.int .i64 ((64*(i+1):Nat):Int)] (.int .i64 ((cB xs bit (64*(i+1)):Nat):Int))):=fun w0 hb=>pj m ao xs cap so su sc tO sb tc bit (64*(i+1)) w0 (h.keep hb) hp hi
 have m1:IntKind.i64.wrap ((i:Int)+1)=(i:Int)+1:=by rw[IntKind.wrap_i64];omega
 have m2:IntKind.i64.wrap (((i:Int)+1)*64)=((64*(i+1):Nat):Int):=by rw[IntKind.wrap_i64];omega
 have bc:=iF xs bit (64*(i+1));generalize cB xs bit (64*(i+1))=Z at *;clear h hp;go_enter func193,ntmps193;go_wp2
 refine ba [] (fun w'=>iQ w' g [.int .i64 (m:Int),.slice ao xs.length cap,.slice so su.length sc,.slice tO sb.length tc] bit k) (by kernel_rfl) ?_
 have hS:iQ w.drew g [.int .i64 (m:Int),.slice ao xs.length cap,.slice so su.length sc,.slice tO sb.length tc] bit k:=hC;have bW:Below w.heap.size w w.drew:=(Below.refl _ _).drew;generalize w.drew=V at *
 refine aF 0 hS rfl (fun w0 h0=>by have c0:=h0.1.cell 0 rfl;have c1:=h0.1.cell 1 rfl;have c2:=h0.1.cell 2 rfl;have c3:=h0.1.cell 3 rfl;go_simp;try with_reducible rfl) ?_
 refine aF 1 hS rfl (fun w0 h0=>by have c0:=h0.2.1.cell 0 rfl;go_simp;try with_reducible rfl) ?_;refine aK 2 hS ?_;refine aK 3 hS ?_;refine aK 4 hS ?_
 refine aF 6 hS rfl (fun w0 h0=>by have c0:=h0.2.2.cell 0 rfl;go_simp;try with_reducible rfl) ?_;refine aO 5 ?_;intro K hK;go_simp;refine mr (C.out _ bW) fun w2 hb=>?_;have hS2:=hS.kept hb
 have bw2:=bg bW hb;refine hK.out _ _ (fun _=>hS2) ?_;clear hK K;try simp only[Act.put,ar,an,am,ah,aj,ai]
 refine aK 7 hS2 ?_;refine aK 8 hS2 ?_;refine aw.done (by kernel_rfl) ?_ _;go_wp2;go_ret;exact⟨rfl,bw2⟩
theorem Cj(m:Nat)(ao:Option Addr)(xs:List Nat)(cap:Nat)(so:Option Addr)(su:List Int)(sc:Nat)(tO:Option Addr)(sb:List Int)(tc:Nat)(bit:Bool)(k q:Nat)(w:World)(h:gC w (m:Int) ao xs cap so su sc tO sb tc)(hp:pchk (m:Int) xs su sb=true)(hq:dc (m:Int) xs bit (k:Int)=some q):
  Qq 171 #[.agg #[.int .i64 (m:Int),.slice ao xs.length cap,.slice so su.length sc,.slice tO sb.length tc],.bool bit,.int .i64 k] w (.int .i64 (q:Int)):=by
 obtain⟨m',e0,hm,hl,hk,hsu,hsb⟩:=mH _ _ _ _ hp;obtain rfl:m=m':=by omega
 clear e0 hsu hsb
 have hkk:k<cB xs bit m:=by
  have:=(kj (m:Int) xs bit (k:Int)).1 (by rw[hq];rfl);rw[Int.toNat_natCast]at this;omega
 have hm0:0<m:=by have:=iF xs bit m;omega
 have hkm:k<m:=by have:=iF xs bit m;omega
 obtain⟨n,hn⟩:∃n,n=xs.length-1:=⟨_,rfl⟩;have hn1:((xs.length:Int)-1)=(n:Int):=by omega
 have hnm:64*n<=m:=by omega
 have hnb:n<=16384:=by omega
 have SE:Hid (∀j,j<=n->(∀i,i<j->cB xs bit (64*(i+1))<=k)->(∀i,j<=i->i<n->k<cB xs bit (64*(i+1)))->cB xs bit (64*j)<=k/\∃r:Nat,r<64/\jf (wb xs bit j:Int) ((k:Int)-(cB xs bit (64*j):Int))=(r:Int)/\q=64*j+r):=by
  intro j hj h1 h2;obtain⟨a,r,b,c,d⟩:=zj m xs h.f hl bit k j hkk (by omega) h1 (fun i x y=>h2 i x (by omega));rw[hq]at d;exact⟨a,r,b,c,Option.some.inj d⟩
 have hf:=h.f
 have HC:Hid (∀(i:Nat) w0,i<=m->Below w.heap.size w w0->Qq 126 #[.agg #[.int .i64 (m:Int),.slice ao xs.length cap,.slice so su.length sc,.slice tO sb.length tc],.bool bit,.int .i64 (i:Int)] w0 (.int .i64 ((cB xs bit i:Nat):Int))):=fun i w0 hi hb=>pj m ao xs cap so su sc tO sb tc bit i w0 (h.keep hb) hp hi
 obtain⟨W,hW⟩:∃W,W=((w.alloc (.cells #[.int .i64 (m:Int),.slice ao xs.length cap,.slice so su.length sc,.slice tO sb.length tc] 55)).alloc (.cells #[.bool bit] 4)).alloc (.cells #[.int .i64 (k:Int)] 3):=⟨_,rfl⟩
 have bW:Below w.heap.size w W:=by rw[hW];exact((below_alloc w _).alloc (by simp) _).alloc (by simp;omega) _
 have hG:iQ W w.heap.size [.int .i64 (m:Int),.slice ao xs.length cap,.slice so su.length sc,.slice tO sb.length tc] bit k:=by
  rw[hW];refine⟨((aa.new w _ _).alloc _).alloc _,(aa.new2 w _ _ _).alloc _,?_⟩
  have:=aa.new2 (w.alloc (.cells #[.int .i64 (m:Int),.slice ao xs.length cap,.slice so su.length sc,.slice tO sb.length tc] 55)) (.cells #[.bool bit] 4) [.int .i64 (k:Int)] 3;simpa using this
 have HS:Hid (∀w0,w0=W->Calls prog 192 #[.int .i64 (n:Int),.func (.func 193) #[] #[.pointer (some ⟨w.heap.size,0,none⟩),.pointer (some ⟨w.heap.size+1,0,none⟩),.pointer (some ⟨w.heap.size+2,0,none⟩)]] w0 fun e w'=>∃j:Nat,e=.returned (.int .i64 j)/\j<=n/\(∀i,i<j->decide (k<cB xs bit (64*(i+1)))=false)/\(∀i,j<=i->i<n->decide (k<cB xs bit (64*(i+1)))=true)/\Below w0.heap.size w0 w'):=by
  intro w0 e0;subst e0;refine z_ n (by omega) ⟨w.heap.size,0,none⟩ ⟨w.heap.size+1,0,none⟩ ⟨w.heap.size+2,0,none⟩ (fun i=>decide (k<cB xs bit (64*(i+1)))) w0 ?_ ?_
  .intro i w1 hi hb;exact zt m ao xs cap so su sc tO sb tc bit k i w.heap.size w1 (h.keep (bg bW hb)) hp (by omega) hm (hG.kept hb)
  .intro i j hij hi;simp only[decide_eq_true_eq]at hi⊢;have:=jC xs bit (64*(i+1)) (64*(j+1)-64*(i+1));rw[show 64*(i+1)+(64*(j+1)-64*(i+1))=64*(j+1)by omega]at this;omega
 obtain⟨b3,o3,rfl,hb3,hc3⟩:=h.x (by omega);have hmf:∀(fn:Fn) (first cap:Array Value) (w:World),(Instr.makeFunc fn first cap).run prog w=.ok (.func fn first cap) w:=fun _ _ _ _=>rfl
 have sg:IntKind.u64.signed=false:=rfl;have hlx:n<xs.length:=by omega
 clear h hp hq hkk hl hk hn;go_enter func171,ntmps171;go_wp2_with fail;rw[<-hW];refine(HS.out _ rfl).mono ?_;rintro e w1 ⟨j,rfl,hj,g1,g2,hb⟩
 obtain⟨hle,r,hr,hsel,hqe⟩:=SE.out j hj (fun i hi=>by simpa using g1 i hi) (fun i x y=>by simpa using g2 i x y);have hG1:=hG.kept hb;have bw1:=bg bW hb;clear g1 g2 hb hG bW hW HS SE
 have x1:=hG1.1.cell 1 rfl;have xb:=hG1.2.1.cell 0 rfl;have y3:=(bw1.cell (p:=⟨b3,o3+j,none⟩) hb3).trans (hc3 j (by omega));have lx2:(j:Int)<(xs.length:Int):=by omega
 have hwb:=yE xs hf bit j;have fl:=Ha xs hf j
 have CS:Hid (∀w0,Qx 194 #[.int .u64 (wb xs bit j:Int),.int .i64 ((k:Int)-(cB xs bit (64*j):Int))] w0 (.int .i64 (r:Int))):=by
  intro w0;have:=tk (wb xs bit j:Int) ((k:Int)-(cB xs bit (64*j):Int)) (Int.natCast_nonneg _) (Int.ofNat_lt.2 hwb) w0;rw[hsel]at this;exact this
 have CC:Hid (Qz w 126 #[.agg #[.int .i64 (m:Int),.slice (some ⟨b3,o3,none⟩) xs.length cap,.slice so su.length sc,.slice tO sb.length tc],.bool bit,.int .i64 ((64*j:Nat):Int)] (.int .i64 ((cB xs bit (64*j):Nat):Int))):=fun w0 hb=>HC.out (64*j) w0 (by omega) hb
 have m1:IntKind.i64.wrap ((j:Int)*64)=((64*j:Nat):Int):=by rw[IntKind.wrap_i64];omega
 have m2:IntKind.i64.wrap ((k:Int)-(cB xs bit (64*j):Int))=(k:Int)-(cB xs bit (64*j):Int):=by rw[IntKind.wrap_i64];omega
 have m3:IntKind.i64.wrap (((64*j:Nat):Int)+(r:Int))=(q:Int):=by rw[IntKind.wrap_i64];omega
 have m4:IntKind.i64.wrap (64*(j:Int)+(r:Int))=(q:Int):=by rw[IntKind.wrap_i64];omega
 have HX:Hid (wb xs true j=gt xs j):=rfl;have HB:Hid (Below w.heap.size w w1):=bw1;clear hsel hqe hc3 hwb hf HC hle;generalize (cB xs bit (64*j))=Z at *;cases bit with
 | true=>
  rw[HX.out]at CS;go_wp2;refine ba [] (fun w'=>iQ w' w.heap.size [.int .i64 (m:Int),.slice (some ⟨b3,o3,none⟩) xs.length cap,.slice so su.length sc,.slice tO sb.length tc] true k) (by kernel_rfl) ?_
  have hS:iQ w1.drew w.heap.size [.int .i64 (m:Int),.slice (some ⟨b3,o3,none⟩) xs.length cap,.slice so su.length sc,.slice tO sb.length tc] true k:=hG1;have bV:Below w.heap.size w w1.drew:=HB.out.drew
  generalize w1.drew=V at *;refine aK 0 hS ?_;refine aK 1 hS ?_;refine aK 2 hS ?_;refine aF 3 hS rfl (fun w0 h0=>by have c0:=h0.2.2.cell 0 rfl;go_simp;try with_reducible rfl) ?_
  refine aF 4 hS rfl (fun w0 h0=>by have c0:=h0.1.cell 0 rfl;have c1:=h0.1.cell 1 rfl;have c2:=h0.1.cell 2 rfl;have c3:=h0.1.cell 3 rfl;go_simp;try with_reducible rfl) ?_
  refine aF 5 hS rfl (fun w0 h0=>by have c0:=h0.2.1.cell 0 rfl;go_simp;try with_reducible rfl) ?_;refine aK 6 hS ?_;refine aK 7 hS ?_;refine aO 8 ?_;intro K hK;go_simp;refine mr (CC.out _ bV) fun w2 hb=>?_;have hS2:=hS.kept hb;have bw2:=bg bV hb;refine hK.out _ _ (fun _=>hS2) ?_;clear hK K;try simp only[Act.put,ar,an,am,ah,aj,ai]
  refine aK 9 hS2 ?_;refine aO 10 ?_;intro K hK;go_simp;refine(CS.out _).mono ?_;rintro e w3 ⟨rfl,rfl⟩;refine hK.out _ _ (fun _=>hS2) ?_;clear hK K;try simp only[Act.put,ar,an,am,ah,aj,ai]
  refine aK 11 hS2 ?_;refine aK 12 hS2 ?_;refine aw.done (by kernel_rfl) ?_ _;go_wp2;go_ret;exact⟨rfl,bw2⟩
 | false=>
  go_wp2;rw[show bits BinOp.xor IntKind.u64 IntKind.u64.max (gt xs j:Int)=(wb xs false j:Int)from fl]
  refine ba [] (fun w'=>iQ w' w.heap.size [.int .i64 (m:Int),.slice (some ⟨b3,o3,none⟩) xs.length cap,.slice so su.length sc,.slice tO sb.length tc] false k) (by kernel_rfl) ?_
  have hS:iQ w1.drew w.heap.size [.int .i64 (m:Int),.slice (some ⟨b3,o3,none⟩) xs.length cap,.slice so su.length sc,.slice tO sb.length tc] false k:=hG1;have bV:Below w.heap.size w w1.drew:=HB.out.drew
  generalize w1.drew=V at *;refine aK 0 hS ?_;refine aK 1 hS ?_;refine aK 2 hS ?_;refine aF 3 hS rfl (fun w0 h0=>by have c0:=h0.2.2.cell 0 rfl;go_simp;try with_reducible rfl) ?_
  refine aF 4 hS rfl (fun w0 h0=>by have c0:=h0.1.cell 0 rfl;have c1:=h0.1.cell 1 rfl;have c2:=h0.1.cell 2 rfl;have c3:=h0.1.cell 3 rfl;go_simp;try with_reducible rfl) ?_
  refine aF 5 hS rfl (fun w0 h0=>by have c0:=h0.2.1.cell 0 rfl;go_simp;try with_reducible rfl) ?_;refine aK 6 hS ?_;refine aK 7 hS ?_;refine aO 8 ?_;intro K hK;go_simp;refine mr (CC.out _ bV) fun w2 hb=>?_;have hS2:=hS.kept hb;have bw2:=bg bV hb;refine hK.out _ _ (fun _=>hS2) ?_;clear hK K;try simp only[Act.put,ar,an,am,ah,aj,ai]
  refine aK 9 hS2 ?_;refine aO 10 ?_;intro K hK;go_simp;refine(CS.out _).mono ?_;rintro e w3 ⟨rfl,rfl⟩;refine hK.out _ _ (fun _=>hS2) ?_;clear hK K;try simp only[Act.put,ar,an,am,ah,aj,ai]
  refine aK 11 hS2 ?_;refine aK 12 hS2 ?_;refine aw.done (by kernel_rfl) ?_ _;go_wp2;go_ret;exact⟨rfl,bw2⟩
theorem C8(N:Int)(ao:Option Addr)(xs:List Nat)(cap:Nat)(w:World)(hx:Wd w ao xs)(hk:az N xs=false):
  Qq 51 #[.agg #[.int .i64 N,.slice ao xs.length cap]] w (.tuple #[.agg #[.int .i64 0,.slice none 0 0,.slice none 0 0,.slice none 0 0],.int .i64 2]):=by
 obtain⟨W,hW⟩:∃W,W=(w.alloc (.cells #[.int .i64 N,.slice ao xs.length cap] 53)).alloc (.cells #[.int .i64 0,.slice none 0 0,.slice none 0 0,.slice none 0 0] 55):=⟨_,rfl⟩;have bW:=cZ hW;have B2:=cQ hW
 have C1:Hid (∀w0,w0=W->Qq 83 #[.agg #[.int .i64 N,.slice ao xs.length cap]] w0 (.bool false)):=fun w0 h=>by
  subst h;have:=cg N ao xs cap w0 (hx.keep bW);rw[hk]at this;exact this
 go_enter func51,ntmps51;go_wp2_with fail;rw[<-hW];refine mr (C1.out _ rfl) fun w1 hb=>?_;have bw1:=bg bW hb;replace B2:=B2.kept hb;clear hb C1 hW bW W;have y0:=B2.cell 0 rfl
 have y1:=B2.cell 1 rfl;have y2:=B2.cell 2 rfl;have y3:=B2.cell 3 rfl;have f0:=B2.frozen 0;have f1:=B2.frozen 1;have f2:=B2.frozen 2;have f3:=B2.frozen 3
 have hC:=(((B2.set 0 (.int .i64 0)).set 1 (.slice none 0 0)).set 2 (.slice none 0 0)).set 3 (.slice none 0 0)
 have HB:=dA (dA (dA (dA bw1 (w.heap.size+1) 0 (.int .i64 0) (Nat.le_succ _)) (w.heap.size+1) 1 (.slice none 0 0) (Nat.le_succ _)) (w.heap.size+1) 2 (.slice none 0 0) (Nat.le_succ _)) (w.heap.size+1) 3 (.slice none 0 0) (Nat.le_succ _)
 have k0:=hC.cell 0 rfl;have k1:=hC.cell 1 rfl;have k2:=hC.cell 2 rfl;have k3:=hC.cell 3 rfl;go_wp2
 exact bodyPost_ret (v:=.tuple #[.agg #[.int .i64 0,.slice none 0 0,.slice none 0 0,.slice none 0 0],.int .i64 2]) (by simp[results,Tryz.results51,go_sem,k0,k1,k2,k3]) rfl ⟨rfl,HB⟩
theorem I_(N:Int)(ao:Option Addr)(xs:List Nat)(cap:Nat)(w:World)(hN: -9223372036854775808<=N/\N<=9223372036854775807)(hx:Wd w ao xs)(hf:aA xs)(hcap:xs.length<=cap)(hl:xs.length<=1048576):
  Calls prog 51 #[.agg #[.int .i64 N,.slice ao xs.length cap]] w fun e w'=>∃bo bc so sc tO tc,e=.returned (.tuple #[.agg #[.int .i64 (iq N xs),.slice bo (fb N xs).length bc,.slice so (fe N xs).length sc,.slice tO (fd N xs).length tc],.int .i64 (kp N xs)])/\kR w.heap.size w' bo (fb N xs) bc so (fe N xs) sc tO (fd N xs) tc/\Below w.heap.size w w':=by
 unfold iq fb fe fd kp;cases hk:az N xs with
 | false=>
  refine mr (C8 N ao xs cap w hx hk) fun w' hb=>?_;exact⟨none,0,none,0,none,0,rfl,⟨cE _ _,Nat.le_refl _,gJ _ _,Nat.le_refl _,gJ _ _,Nat.le_refl _,a_ _,a_ _⟩,hb⟩
 | true=>
  obtain⟨m,rfl,hm,hlen⟩:=rJ N xs hk;refine(C7 m ao xs cap w hx hf hcap hk hm hlen).mono ?_;rintro e w' ⟨bo,bc,so,sc,tO,tc,rfl,h1,hb⟩;exact⟨bo,bc,so,sc,tO,tc,rfl,h1,hb⟩
theorem Jw(N:Int)(ao:Option Addr)(xs:List Nat)(cap:Nat)(so:Option Addr)(su:List Int)(sc:Nat)(tO:Option Addr)(sb:List Int)(tc:Nat)(w:World)(h:gC w N ao xs cap so su sc tO sb tc):
  Calls prog 79 #[.agg #[.int .i64 N,.slice ao xs.length cap,.slice so su.length sc,.slice tO sb.length tc]] w fun e w'=>∃bo bc,e=.returned (.agg #[.int .i64 (dz N xs su sb),.slice bo (cU N xs su sb).length bc])/\Wd w' bo (cU N xs su sb)/\(cU N xs su sb).length<=bc/\Below w.heap.size w w':=by
 unfold dz cU;obtain⟨W,hW⟩:∃W,W=(w.alloc (.cells #[.int .i64 N,.slice ao xs.length cap,.slice so su.length sc,.slice tO sb.length tc] 55)).alloc (.cells #[.int .i64 0,.slice none 0 0] 53):=⟨_,rfl⟩
 have bW:=cZ hW;have B1:=dj hW;have B2:=cQ hW
 have C1:Hid (∀w0,w0=W->Qq 99 #[.agg #[.int .i64 N,.slice ao xs.length cap,.slice so su.length sc,.slice tO sb.length tc]] w0 (.bool (pchk N xs su sb))):=fun w0 e0=>by subst e0;exact ni N ao xs cap so su sc tO sb tc w0 (h.keep bW)
 cases hk:pchk N xs su sb with
 | false=>
  simp only[Bool.false_eq_true,if_false];rw[hk]at C1;go_enter func79,ntmps79;go_wp2_with fail;rw[<-hW];refine mr (C1.out _ rfl) fun w1 hb=>?_;have bw1:=bg bW hb
  replace B1:=B1.kept hb;replace B2:=B2.kept hb;clear hb C1 hW bW W;have y0:=B2.cell 0 rfl;have y1:=B2.cell 1 rfl;have f0:=B2.frozen 0;have f1:=B2.frozen 1;have hC:=(B2.set 0 (.int .i64 0)).set 1 (.slice none 0 0)
  have HB:=dA (dA bw1 (w.heap.size+1) 0 (.int .i64 0) (Nat.le_succ _)) (w.heap.size+1) 1 (.slice none 0 0) (Nat.le_succ _);have k0:=hC.cell 0 rfl;have k1:=hC.cell 1 rfl;go_wp2
  exact bodyPost_ret (v:=.agg #[.int .i64 0,.slice none 0 0]) (by simp[results,Tryz.results79,go_sem,k0,k1]) rfl ⟨none,0,rfl,cE _ _,Nat.le_refl _,HB⟩
 | true=>
  simp only[if_true];rw[hk]at C1
  have C2:Hid (∀w0,Below w.heap.size w w0->Calls prog 84 #[.agg #[.int .i64 N,.slice ao xs.length cap]] w0 fun e w'=>∃bo bc,e=.returned (.agg #[.int .i64 N,.slice bo xs.length bc])/\Wd w' bo xs/\xs.length<=bc/\Below w0.heap.size w0 w'):=fun w0 hb=>ut N ao xs cap w0 (h.x.keep hb) h.l
  clear h;go_enter func79,ntmps79;go_wp2_with fail;rw[<-hW];refine mr (C1.out _ rfl) fun w1 hb=>?_;have bw1:=bg bW hb;replace B1:=B1.kept hb;replace B2:=B2.kept hb
  clear hb C1 hW bW W;have r0:=B1.cell 0 rfl;have r1:=B1.cell 1 rfl;go_wp2_with fail;refine(C2.out _ bw1).mono ?_;rintro e w2 ⟨bo,bc,rfl,hW2,hbc,hb⟩;have bw2:=bg bw1 hb;replace B2:=B2.kept hb
  clear hb bw1 r0 r1 C2;have y0:=B2.cell 0 rfl;have y1:=B2.cell 1 rfl;have f0:=B2.frozen 0;have f1:=B2.frozen 1;have hC:=(B2.set 0 (.int .i64 N)).set 1 (.slice bo xs.length bc)
  have oW:=((aB.refl (w.heap.size+1) w2).set 0 (.int .i64 N)).set 1 (.slice bo xs.length bc);have hWd:=oW.wd hW2 (hW2.apart B2 (by intro v hv n;simp at hv;rcases hv with rfl | rfl<;>simp))
  have HB:=bw2.trans (oW.below (Nat.le_succ _));have k0:=hC.cell 0 rfl;have k1:=hC.cell 1 rfl;have HF:=And.intro hWd HB;replace HF:=Hid.mk' HF;clear hWd HB oW hC hW2 bw2;go_wp2
  exact bodyPost_ret (v:=.agg #[.int .i64 N,.slice bo xs.length bc]) (by simp[results,Tryz.results79,go_sem,k0,k1]) rfl ⟨bo,bc,rfl,HF.out.1,hbc,HF.out.2⟩
theorem zH(N:Int)(ao:Option Addr)(xs:List Nat)(cap:Nat)(so:Option Addr)(su:List Int)(sc:Nat)(tO:Option Addr)(sb:List Int)(tc:Nat)(w:World)(h:gC w N ao xs cap so su sc tO sb tc):
  Qq 67 #[.agg #[.int .i64 N,.slice ao xs.length cap,.slice so su.length sc,.slice tO sb.length tc]] w (.int .i64 (ln N xs su sb)):=by
 unfold ln;obtain⟨W,hW⟩:∃W,W=w.alloc (.cells #[.int .i64 N,.slice ao xs.length cap,.slice so su.length sc,.slice tO sb.length tc] 55):=⟨_,rfl⟩;have bW:=aU hW;have B1:=bn hW
 have C1:Hid (∀w0,w0=W->Qq 99 #[.agg #[.int .i64 N,.slice ao xs.length cap,.slice so su.length sc,.slice tO sb.length tc]] w0 (.bool (pchk N xs su sb))):=fun w0 e0=>by subst e0;exact ni N ao xs cap so su sc tO sb tc w0 (h.keep bW)
 cases hk:pchk N xs su sb with
 | false=>
  simp only[Bool.false_eq_true,if_false];rw[hk]at C1;go_enter func67,ntmps67;go_wp2_with fail;rw[<-hW];refine mr (C1.out _ rfl) fun w1 hb=>?_;have bw1:=bg bW hb
  replace B1:=B1.kept hb;clear hb C1 hW bW W;go_wp2;go_ret;exact⟨rfl,bw1⟩
 | true=>
  simp only[if_true];rw[hk]at C1;obtain⟨m,rfl,hm,hl,z1,z2,z3⟩:=mH _ _ _ _ hk;clear z1 z2 z3;have l1:=h.sl;have l2:=h.tl;obtain⟨A,hA⟩:∃A,A=su.length:=⟨_,rfl⟩
  obtain⟨B,hB⟩:∃B,B=sb.length:=⟨_,rfl⟩;rw[<-hA]at l1 B1⊢;rw[<-hB]at l2 B1⊢;rw[<-hA,<-hB]at C1 hW;clear h hl hk hA hB;go_enter func67,ntmps67;go_wp2_with fail;rw[<-hW];refine mr (C1.out _ rfl) fun w1 hb=>?_;have bw1:=bg bW hb;replace B1:=B1.kept hb;clear hb C1 hW bW W;have x0:=B1.cell 0 rfl;have x2:=B1.cell 2 rfl;have x3:=B1.cell 3 rfl;go_wp2;go_ret;refine⟨dy ?_,bw1⟩
  first | rfl | omega
theorem Ka(N:Int)(ao:Option Addr)(xs:List Nat)(cap:Nat)(so:Option Addr)(su:List Int)(sc:Nat)(tO:Option Addr)(sb:List Int)(tc:Nat)(i:Int)(w:World)(h:gC w N ao xs cap so su sc tO sb tc)(hi: -9223372036854775808<=i/\i<=9223372036854775807):
  Qq 56 #[.agg #[.int .i64 N,.slice ao xs.length cap,.slice so su.length sc,.slice tO sb.length tc],.int .i64 i] w (.tuple #[.bool (oe N xs su sb i),.int .i64 (od N xs su sb i)]):=by
 unfold oe od;obtain⟨W,hW⟩:∃W,W=w.alloc (.cells #[.int .i64 N,.slice ao xs.length cap,.slice so su.length sc,.slice tO sb.length tc] 55):=⟨_,rfl⟩;have bW:=aU hW;have B1:=bn hW
 have C1:Hid (∀w0,w0=W->Qq 99 #[.agg #[.int .i64 N,.slice ao xs.length cap,.slice so su.length sc,.slice tO sb.length tc]] w0 (.bool (pchk N xs su sb))):=fun w0 e0=>by subst e0;exact ni N ao xs cap so su sc tO sb tc w0 (h.keep bW)
 cases hk:pchk N xs su sb with
 | false=>
  simp only[Bool.false_eq_true,if_false,Bool.false_and];rw[hk]at C1;go_enter func56,ntmps56;go_wp2_with fail;rw[<-hW];refine mr (C1.out _ rfl) fun w1 hb=>?_;have bw1:=bg bW hb
  replace B1:=B1.kept hb;clear hb C1 hW bW W;go_wp2;go_ret2;exact⟨rfl,bw1⟩
 | true=>
  simp only[if_true,Bool.true_and];rw[hk]at C1
  have C2:Hid (Qz w 48 #[.agg #[.int .i64 N,.slice ao xs.length cap],.int .i64 i] (.tuple #[.bool (gy N xs i),.int .i64 (du N xs i)])):=fun w0 hb=>wN N ao xs cap i w0 (h.x.keep hb) h.f
  clear h hk;go_enter func56,ntmps56;go_wp2_with fail;rw[<-hW];refine mr (C1.out _ rfl) fun w1 hb=>?_;have bw1:=bg bW hb;replace B1:=B1.kept hb;clear hb C1 hW bW W
  have x0:=B1.cell 0 rfl;have x1:=B1.cell 1 rfl;go_wp2_with fail;refine mr (C2.out _ bw1) fun w2 hb=>?_;have bw2:=bg bw1 hb;clear hb;go_wp2;go_ret2;exact⟨rfl,bw2⟩
theorem Bh(N:Int)(ao:Option Addr)(xs:List Nat)(cap:Nat)(so:Option Addr)(su:List Int)(sc:Nat)(tO:Option Addr)(sb:List Int)(tc:Nat)(bit:Bool)(i:Int)(w:World)(h:gC w N ao xs cap so su sc tO sb tc)(hi: -9223372036854775808<=i/\i<=9223372036854775807):
  Qq 76 #[.agg #[.int .i64 N,.slice ao xs.length cap,.slice so su.length sc,.slice tO sb.length tc],.bool bit,.int .i64 i] w (.tuple #[.int .i64 (ip N xs su sb bit i),.int .i64 (gG N xs su sb i)]):=by
 obtain⟨W,hW⟩:∃W,W=w.alloc (.cells #[.int .i64 N,.slice ao xs.length cap,.slice so su.length sc,.slice tO sb.length tc] 55):=⟨_,rfl⟩;have bW:=aU hW;have B1:=bn hW
 have C1:Hid (∀w0,w0=W->Qq 99 #[.agg #[.int .i64 N,.slice ao xs.length cap,.slice so su.length sc,.slice tO sb.length tc]] w0 (.bool (pchk N xs su sb))):=fun w0 e0=>by subst e0;exact ni N ao xs cap so su sc tO sb tc w0 (h.keep bW)
 cases hk:pchk N xs su sb with
 | false=>
  have R1:Hid (gG N xs su sb i=2):=by show gG N xs su sb i=2;unfold gG;rw[hk];rfl
  have R2:Hid (ip N xs su sb bit i=0):=by show ip N xs su sb bit i=0;unfold ip;rw[R1.out];rfl
  rw[R1.out,R2.out];rw[hk]at C1;go_enter func76,ntmps76;go_wp2_with fail;rw[<-hW];refine mr (C1.out _ rfl) fun w1 hb=>?_;have bw1:=bg bW hb;replace B1:=B1.kept hb
  clear hb C1 hW bW W;go_wp2;go_ret2;exact⟨rfl,bw1⟩
 | true=>
  rw[hk]at C1;obtain⟨m,rfl,hm,hl,z1,z2,z3⟩:=mH _ _ _ _ hk;clear z1 z2 z3;by_cases h0:i<0\/(m:Int)<i
  .have R1:Hid (gG (m:Int) xs su sb i=3):=by show gG (m:Int) xs su sb i=3;unfold gG;rw[hk,if_pos rfl,if_pos h0]
   have R2:Hid (ip (m:Int) xs su sb bit i=0):=by show ip (m:Int) xs su sb bit i=0;unfold ip;rw[R1.out];rfl
   rw[R1.out,R2.out];clear h hl hk;by_cases h1:i<0
   .go_enter func76,ntmps76;go_wp2_with fail;rw[<-hW];refine mr (C1.out _ rfl) fun w1 hb=>?_;have bw1:=bg bW hb;replace B1:=B1.kept hb;clear hb C1 hW bW W;go_wp2;go_ret2
    exact⟨rfl,bw1⟩
   .have h2:(m:Int)<i:=by omega
    go_enter func76,ntmps76;go_wp2_with fail;rw[<-hW];refine mr (C1.out _ rfl) fun w1 hb=>?_;have bw1:=bg bW hb;replace B1:=B1.kept hb;clear hb C1 hW bW W;have x0:=B1.cell 0 rfl
    go_wp2;go_ret2;exact⟨rfl,bw1⟩
  .obtain⟨k,rfl⟩:=Int.eq_ofNat_of_zero_le (show 0<=i by omega);have R1:Hid (gG (m:Int) xs su sb (k:Int)=0):=by show gG (m:Int) xs su sb (k:Int)=0;unfold gG;rw[hk,if_pos rfl,if_neg h0]
   have R2:Hid (ip (m:Int) xs su sb bit (k:Int)=((cB xs bit k:Nat):Int)):=by show ip (m:Int) xs su sb bit (k:Int)=_;unfold ip;rw[R1.out,if_pos rfl,Int.toNat_natCast]
   rw[R1.out,R2.out]
   have C2:Hid (Qz w 126 #[.agg #[.int .i64 (m:Int),.slice ao xs.length cap,.slice so su.length sc,.slice tO sb.length tc],.bool bit,.int .i64 (k:Int)] (.int .i64 ((cB xs bit k:Nat):Int))):=fun w0 hb=>pj m ao xs cap so su sc tO sb tc bit k w0 (h.keep hb) hk (by omega)
   have h3:¬(m:Int)<(k:Int):=by omega
   clear h hl hk h0 hi;go_enter func76,ntmps76;go_wp2_with fail;rw[<-hW];refine mr (C1.out _ rfl) fun w1 hb=>?_;have bw1:=bg bW hb;replace B1:=B1.kept hb;clear hb C1 hW bW W
   have x0:=B1.cell 0 rfl;have x1:=B1.cell 1 rfl;have x2:=B1.cell 2 rfl;have x3:=B1.cell 3 rfl;go_wp2_with fail;refine mr (C2.out _ bw1) fun w2 hb=>?_;have bw2:=bg bw1 hb;clear hb;go_wp2
   go_ret2;exact⟨rfl,bw2⟩
theorem zS(N:Int)(ao:Option Addr)(xs:List Nat)(cap:Nat)(so:Option Addr)(su:List Int)(sc:Nat)(tO:Option Addr)(sb:List Int)(tc:Nat)(bit:Bool)(k:Int)(w:World)(h:gC w N ao xs cap so su sc tO sb tc)(hk0: -9223372036854775808<=k/\k<=9223372036854775807):
  Qq 123 #[.agg #[.int .i64 N,.slice ao xs.length cap,.slice so su.length sc,.slice tO sb.length tc],.bool bit,.int .i64 k] w (.tuple #[.int .i64 (im N xs su sb bit k),.int .i64 (io N xs su sb bit k)]):=by
 obtain⟨W,hW⟩:∃W,W=w.alloc (.cells #[.int .i64 N,.slice ao xs.length cap,.slice so su.length sc,.slice tO sb.length tc] 55):=⟨_,rfl⟩;have bW:=aU hW;have B1:=bn hW
 have C1:Hid (∀w0,w0=W->Qq 99 #[.agg #[.int .i64 N,.slice ao xs.length cap,.slice so su.length sc,.slice tO sb.length tc]] w0 (.bool (pchk N xs su sb))):=fun w0 e0=>by subst e0;exact ni N ao xs cap so su sc tO sb tc w0 (h.keep bW)
 cases hk:pchk N xs su sb with
 | false=>
  have R1:Hid (io N xs su sb bit k=2):=by show io N xs su sb bit k=2;unfold io;rw[hk];rfl
  have R2:Hid (im N xs su sb bit k=0):=by show im N xs su sb bit k=0;unfold im;rw[hk];rfl
  rw[R1.out,R2.out];rw[hk]at C1;go_enter func123,ntmps123;go_wp2_with fail;rw[<-hW];refine mr (C1.out _ rfl) fun w1 hb=>?_;have bw1:=bg bW hb;replace B1:=B1.kept hb
  clear hb C1 hW bW W;go_wp2;go_ret2;exact⟨rfl,bw1⟩
 | true=>
  rw[hk]at C1;obtain⟨m,rfl,hm,hl,z1,z2,z3⟩:=mH _ _ _ _ hk;clear z1 z2 z3
  have C2:Hid (Qz w 126 #[.agg #[.int .i64 (m:Int),.slice ao xs.length cap,.slice so su.length sc,.slice tO sb.length tc],.bool bit,.int .i64 (m:Int)] (.int .i64 ((cB xs bit m:Nat):Int))):=fun w0 hb=>pj m ao xs cap so su sc tO sb tc bit m w0 (h.keep hb) hk (Nat.le_refl _)
  have hps:=kj (m:Int) xs bit k;rw[Int.toNat_natCast]at hps;by_cases h0:0<=k/\k<(cB xs bit m:Int)
  .obtain⟨q,hq⟩:=Option.isSome_iff_exists.1 (hps.2 h0);obtain⟨n,rfl⟩:=Int.eq_ofNat_of_zero_le h0.1
   have R1:Hid (io (m:Int) xs su sb bit (n:Int)=0):=by show io (m:Int) xs su sb bit (n:Int)=0;unfold io;rw[hk,if_pos rfl,hq];rfl
   have R2:Hid (im (m:Int) xs su sb bit (n:Int)=(q:Int)):=by show im (m:Int) xs su sb bit (n:Int)=_;unfold im;rw[hk,if_pos rfl,hq];rfl
   rw[R1.out,R2.out]
   have C3:Hid (Qz w 171 #[.agg #[.int .i64 (m:Int),.slice ao xs.length cap,.slice so su.length sc,.slice tO sb.length tc],.bool bit,.int .i64 (n:Int)] (.int .i64 (q:Int))):=fun w0 hb=>Cj m ao xs cap so su sc tO sb tc bit n q w0 (h.keep hb) hk hq
   have h3:¬((cB xs bit m:Nat):Int)<=(n:Int):=by omega
   have h3':(n:Int)<((cB xs bit m:Nat):Int):=by omega
   have h4:¬(n:Int)<0:=by omega
   clear h hl hk h0 hk0 hps;generalize cB xs bit m=Z at *;go_enter func123,ntmps123;go_wp2_with fail;rw[<-hW];refine mr (C1.out _ rfl) fun w1 hb=>?_;have bw1:=bg bW hb
   replace B1:=B1.kept hb;clear hb C1 hW bW W;have x0:=B1.cell 0 rfl;have x1:=B1.cell 1 rfl;have x2:=B1.cell 2 rfl;have x3:=B1.cell 3 rfl;go_wp2_with fail;refine mr (C2.out _ bw1) fun w2 hb=>?_
   have bw2:=bg bw1 hb;replace B1:=B1.kept hb;clear hb bw1 x0 x1 x2 x3;have x0:=B1.cell 0 rfl;have x1:=B1.cell 1 rfl;have x2:=B1.cell 2 rfl;have x3:=B1.cell 3 rfl;go_wp2_with fail
   refine mr (C3.out _ bw2) fun w3 hb=>?_;have bw3:=bg bw2 hb;clear hb;go_wp2;go_ret2;exact⟨rfl,bw3⟩
  .have hn:(dc (m:Int) xs bit k).isSome=false:=by
    cases e:(dc (m:Int) xs bit k).isSome with
    | false=>rfl
    | true=>exact absurd (hps.1 e) h0
   have hn2:dc (m:Int) xs bit k=none:=by simpa using hn
   have R1:Hid (io (m:Int) xs su sb bit k=3):=by show io (m:Int) xs su sb bit k=3;unfold io;rw[hk,if_pos rfl,hn2];rfl
   have R2:Hid (im (m:Int) xs su sb bit k=0):=by show im (m:Int) xs su sb bit k=_;unfold im;rw[hk,if_pos rfl,hn2];rfl
   rw[R1.out,R2.out];clear h hl hk hps hn hn2;by_cases h1:k<0
   .go_enter func123,ntmps123;go_wp2_with fail;rw[<-hW];refine mr (C1.out _ rfl) fun w1 hb=>?_;have bw1:=bg bW hb;replace B1:=B1.kept hb;clear hb C1 hW bW W;go_wp2;go_ret2
    exact⟨rfl,bw1⟩
   .have h2:((cB xs bit m:Nat):Int)<=k:=by omega
    clear h0;generalize cB xs bit m=Z at *;go_enter func123,ntmps123;go_wp2_with fail;rw[<-hW];refine mr (C1.out _ rfl) fun w1 hb=>?_;have bw1:=bg bW hb;replace B1:=B1.kept hb
    clear hb C1 hW bW W;have x0:=B1.cell 0 rfl;have x1:=B1.cell 1 rfl;have x2:=B1.cell 2 rfl;have x3:=B1.cell 3 rfl;go_wp2_with fail;refine mr (C2.out _ bw1) fun w2 hb=>?_
    have bw2:=bg bw1 hb;clear hb;go_wp2;go_ret2;exact⟨rfl,bw2⟩
theorem Dd(N:Int)(xs:List Nat)(S T:List Int)(i:Int):oe N xs S T i=gaB (pchk N xs S T) (dz N xs S T) (cU N xs S T) i:=by
 unfold oe gaB dz cU;cases pchk N xs S T<;>rfl
theorem Dc(N:Int)(xs:List Nat)(S T:List Int)(i:Int):od N xs S T i=gaE (pchk N xs S T) (dz N xs S T) (cU N xs S T) i:=by
 unfold od gaE dz cU;cases pchk N xs S T<;>rfl
theorem uv(N:Int)(xs:List Nat)(S T:List Int)(i:Int):gG N xs S T i=grE (pchk N xs S T) (dz N xs S T) i:=by
 unfold gG grE dz;cases pchk N xs S T<;>rfl
theorem Db(N:Int)(xs:List Nat)(S T:List Int)(b:Bool)(i:Int):ip N xs S T b i=grN (pchk N xs S T) (dz N xs S T) (cU N xs S T) b i:=by
 unfold ip grN;rw[uv];unfold grE dz cU;cases pchk N xs S T<;>rfl
theorem C_(N:Int)(xs:List Nat)(S T:List Int)(b:Bool)(i:Int):im N xs S T b i=gsX (pchk N xs S T) (dz N xs S T) (cU N xs S T) b i:=by
 unfold im gsX dz cU;cases pchk N xs S T<;>rfl
theorem Da(N:Int)(xs:List Nat)(S T:List Int)(b:Bool)(i:Int):io N xs S T b i=gsE (pchk N xs S T) (dz N xs S T) (cU N xs S T) b i:=by
 unfold io gsE dz cU;cases pchk N xs S T<;>rfl
theorem kR.ki{base:Nat}{w:World}{bo:Option Addr}{bc:Nat}{so:Option Addr}{sc:Nat}{tO:Option Addr}{tc:Nat}(N:Int)(xs:List Nat)(hn:aD N)(hf:aA xs)(hl:xs.length<=1048576)(h:kR base w bo (fb N xs) bc so (fe N xs) sc tO (fd N xs) tc):
  b_ w [.int .i64 (iq N xs),.slice bo (fb N xs).length bc,.slice so (fe N xs).length sc,.slice tO (fd N xs).length tc] (kB7 N xs):=by
 have hp:=h.plin N xs hn hf hl;exact⟨⟨bo,bc,so,sc,tO,tc,rfl,⟨hp.n,hp.x,hp.f,hp.c,hp.s,hp.sf,hp.sc,hp.t,hp.tf,hp.tc⟩⟩,hp.l,hp.sl,hp.tl⟩
theorem Jd(N:Int)(ao:Option Addr)(xs:List Nat)(cap:Nat)(w:World)(hN:aD N)(hx:Wd w ao xs)(hf:aA xs)(hcap:xs.length<=cap)(hl:xs.length<=1048576):
  Calls prog 51 #[.agg #[.int .i64 N,.slice ao xs.length cap]] w fun e w'=>∃cs:List Value,e=.returned (.tuple #[.agg cs.toArray,.int .i64 (kE7 N xs)])/\b_ w' cs (kB7 N xs)/\NF w.heap.size 2 cs/\Below w.heap.size w w':=by
 refine(I_ N ao xs cap w hN hx hf hcap hl).mono ?_;rintro e w' ⟨bo,bc,so,sc,tO,tc,rfl,ho,hb⟩;exact⟨_,rfl,ho.ki N xs hN hf hl,cW ho.sn ho.tn,hb⟩
theorem JA(cs:List Value)(a:cD)(w:World)(h:b_ w cs a):
  Calls prog 79 #[.agg cs.toArray] w fun e w'=>∃bo bc,e=.returned (.agg #[.int .i64 (kBN7 a),.slice bo (kBX7 a).length bc])/\Wd w' bo (kBX7 a)/\(kBX7 a).length<=bc/\Below w.heap.size w w':=by
 obtain⟨⟨ao,cap,so,sc,tO,tc,rfl,h⟩,xl,sl,tl⟩:=h;exact Jw a.N ao a.xs cap so a.S sc tO a.T tc w (h.plin xl sl tl)
theorem zK(cs:List Value)(a:cD)(w:World)(h:b_ w cs a):
  Qq 67 #[.agg cs.toArray] w (.int .i64 (kZ7 a)):=by
 obtain⟨⟨ao,cap,so,sc,tO,tc,rfl,h⟩,xl,sl,tl⟩:=h;exact zH a.N ao a.xs cap so a.S sc tO a.T tc w (h.plin xl sl tl)
theorem Kd(cs:List Value)(a:cD)(i:Int)(w:World)(h:b_ w cs a)(hi:aD i):
  Qq 56 #[.agg cs.toArray,.int .i64 i] w (.tuple #[.bool (gaB (kOk7 a) (kBN7 a) (kBX7 a) i),.int .i64 (gaE (kOk7 a) (kBN7 a) (kBX7 a) i)]):=by
 obtain⟨⟨ao,cap,so,sc,tO,tc,rfl,h⟩,xl,sl,tl⟩:=h;have:=Ka a.N ao a.xs cap so a.S sc tO a.T tc i w (h.plin xl sl tl) hi;rw[Dd,Dc]at this;exact this
theorem Bk(cs:List Value)(a:cD)(bit:Bool)(i:Int)(w:World)(h:b_ w cs a)(hi:aD i):
  Qq 76 #[.agg cs.toArray,.bool bit,.int .i64 i] w (.tuple #[.int .i64 (grN (kOk7 a) (kBN7 a) (kBX7 a) bit i),.int .i64 (grE (kOk7 a) (kBN7 a) i)]):=by
 obtain⟨⟨ao,cap,so,sc,tO,tc,rfl,h⟩,xl,sl,tl⟩:=h;have:=Bh a.N ao a.xs cap so a.S sc tO a.T tc bit i w (h.plin xl sl tl) hi;rw[Db,uv]at this;exact this
theorem zY(cs:List Value)(a:cD)(bit:Bool)(k:Int)(w:World)(h:b_ w cs a)(hi:aD k):
  Qq 123 #[.agg cs.toArray,.bool bit,.int .i64 k] w (.tuple #[.int .i64 (gsX (kOk7 a) (kBN7 a) (kBX7 a) bit k),.int .i64 (gsE (kOk7 a) (kBN7 a) (kBX7 a) bit k)]):=by
 obtain⟨⟨ao,cap,so,sc,tO,tc,rfl,h⟩,xl,sl,tl⟩:=h;have:=zS a.N ao a.xs cap so a.S sc tO a.T tc bit k w (h.plin xl sl tl) hi;rw[C_,Da]at this;exact this
end Go.Proofs.YtleegaihbgbcjabGreatDoor
namespace Go.Proofs.YtleegaihbgbcjabGreatDoor
open Num Bit Bn
theorem Iu(n:Nat):cnt 0 n=0:=by
 induction n with
 | zero=>rfl
 | succ n ih=>rw[cnt,ih,Nat.zero_div]
theorem DH(n:Nat):off 0 n=0:=by
 induction n with
 | zero=>rfl
 | succ n ih=>rw[off,ih,Nat.zero_div];rfl
theorem xF:∀n k o,o<ch n k->cnt (blk n k o) n=k/\off (blk n k o) n=o:=by
 intro n;induction n with
 | zero=>
  intro k o h;cases k with
  | zero=>
   have h:o<1:=h;exact⟨rfl,by show 0=o;omega⟩
  | succ k=>exact absurd h (by show ¬o<0;omega)
 | succ n ih=>
  intro k o h;by_cases hk:k=0
  .subst hk;rw[jA]at h;rw[kO,Iu,DH];exact⟨rfl,by omega⟩
  .obtain⟨j,rfl⟩:∃j,k=j+1:=⟨k-1,by omega⟩;rw[i9]at h;have P:=Nat.two_pow_pos n;by_cases c:ch n (j+1)<=o
   .rw[nB n (j+1) o hk c,Nat.add_sub_cancel];obtain⟨h1,h2⟩:=ih j (o-ch n (j+1)) (by omega);have hb:=jY n j (o-ch n (j+1));generalize blk n j (o-ch n (j+1))=b at *
    have e1:(2^n+b)/2^n=1:=by rw[Nat.add_div_left _ P,Nat.div_eq_of_lt hb]
    have e2:(2^n+b)%2^n=b:=by rw[Nat.add_mod_left,Nat.mod_eq_of_lt hb]
    have e3:cnt (2^n+b) n=j:=by rw[<-pm (2^n+b) n n (Nat.le_refl _),e2,h1]
    have e4:off (2^n+b) n=o-ch n (j+1):=by rw[<-DI (2^n+b) n n (Nat.le_refl _),e2,h2]
    have e5:cnt (2^n+b) (n+1)=j+1:=by rw[cnt,e3,e1]
    refine⟨e5,?_⟩;rw[off,e1,if_pos rfl,e5,e4];omega
   .rw[nA n (j+1) o hk c];obtain⟨h1,h2⟩:=ih (j+1) o (by omega);have hb:=jY n (j+1) o;generalize blk n (j+1) o=b at *;have e1:b/2^n=0:=Nat.div_eq_of_lt hb;refine⟨by rw[cnt,h1,e1],?_⟩
    rw[off,e1,h2];simp
def cls(xs:List Nat)(i:Nat):Nat:=numAt 4 xs i
def cOn(xs:List Nat):Nat->Nat
 | 0=>0
 | i+1=>cOn xs i+cls xs i
def cAt(xs:List Nat):Nat->Nat
 | 0=>0
 | i+1=>cAt xs i+kwd (cls xs i)
def iP(L:Int)(ys xs:List Nat)(i:Nat):Int:=slcE L ys (cAt xs i) (kwd (cls xs i))
def cOff(L:Int)(ys xs:List Nat)(i:Nat):Nat:=slcX L ys (cAt xs i) (kwd (cls xs i))
def jV(L:Int)(ys xs:List Nat)(i:Nat):Nat:=blk 15 (cls xs i) (cOff L ys xs i)
theorem iZ(xs:List Nat)(i:Nat):cls xs i<=15:=by
 have:cls xs i<2^4:=fg _ _;omega
theorem IX(xs:List Nat)(i:Nat):cOn xs i<=15*i:=by
 induction i with
 | zero=>exact Nat.le_refl _
 | succ i ih=>have:=iZ xs i;rw[cOn];omega
theorem IZ(xs:List Nat)(i:Nat):cAt xs i<=13*i:=by
 induction i with
 | zero=>exact Nat.le_refl _
 | succ i ih=>have:=kG (cls xs i) (iZ xs i);rw[cAt];omega
theorem IY(L:Int)(ys xs:List Nat)(i:Nat):cOff L ys xs i<8192:=by
 have k:=kG (cls xs i) (iZ xs i);unfold cOff slcX;split
 .rw[Int.toNat_natCast];refine Nat.lt_of_lt_of_le (fg _ _) ?_;exact Nat.pow_le_pow_right (n:=2) (j:=13) (by decide) k
 .decide
theorem I1(xs:List Nat):∀n j,j<cAt xs n->∃i t,i<n/\t<kwd (cls xs i)/\j=cAt xs i+t:=by
 intro n;induction n with
 | zero=>intro j h;exact absurd h (by show ¬j<0;omega)
 | succ n ih=>
  intro j h;rw[cAt]at h;by_cases c:j<cAt xs n
  .obtain⟨i,t,h1,h2,h3⟩:=ih j c;exact⟨i,t,by omega,h2,h3⟩
  .exact⟨n,j-cAt xs n,by omega,by omega,by omega⟩
structure CK (a:aP) (m:Nat):Prop where
 nN:a.N=m
 le:m<=1048576
 nk:a.k=nb m
 nV:a.V=4
 ic:aQ a.k a.V a.M a.xs=true
 oc:az a.L a.ys=true
 sl:a.S.length=gN m
 tl:a.T.length=gN m
 s0:gi a.S 0=0
 t0:gi a.T 0=0
 each:∀i,i<nb m->iP a.L a.ys a.xs i=0/\cOff a.L a.ys a.xs i<ch 15 (cls a.xs i)/\(i%8=0->gi a.S (i/8)=cOn a.xs i/\gi a.T (i/8)=cAt a.xs i)
 done:(cAt a.xs (nb m):Int)=a.L
 last:0<nb m->jV a.L a.ys a.xs (nb m-1)<2^(m-15*(nb m-1))
theorem oM(m:Nat)(X:List Nat)(hk:az (m:Int) X=true):kB8 (m:Int) X=⟨m,nb m,4,(nb m:Int)*4,rC m (bitAt X),bat m (bitAt X) (nb m),rO m (bitAt X),rS m (bitAt X),rT m (bitAt X)⟩:=by
 unfold kB8 fM fQ fK fN dY fP dX dW dU;rw[hk,Int.toNat_natCast];rfl
theorem jT(m j:Nat)(h:j<gN m)(h0:j≠0):8*j<nb m:=by unfold gN at h;omega
theorem ID(a:aP)(m:Nat)(hfx:aA a.xs)(hfy:aA a.ys)(h:CK a m):∃X,aA X/\az (m:Int) X=true/\a=kB8 m X:=by
 obtain⟨N,k,V,M,xs,L,ys,S,T⟩:=a;obtain⟨hN,hm,hk,hV,ic,oc,sl,tl,s0,t0,ea,en,la⟩:=h;dsimp only at *;subst hN hk hV;obtain⟨_,_,_,hM,ck,_,_,_⟩:=dZ _ _ _ _ ic
 obtain⟨f,hf⟩:∃f:Nat->Bool,f=fun j=>(jV L ys xs (j/15)).testBit (j%15):=⟨_,rfl⟩;obtain⟨X,hX⟩:∃X,X=rowOf m f:=⟨_,rfl⟩;have fX:aA X:=by rw[hX];exact cY _ _
 have cX:az (m:Int) X=true:=by rw[hX];exact gB _ _ hm
 have bX:∀j,bitAt X j=(decide (j<m)&&f j):=fun j=>by rw[hX];exact fk _ _ _
 have B:∀i,i<nb m->blv m (bitAt X) i=jV L ys xs i:=by
  intro i hi;unfold blv;refine(iY 15 _ _ fun t=>?_).symm;have hw:jV L ys xs i<2^15:=jY _ _ _;by_cases c:t<15
  .have e1:(15*i+t)/15=i:=by omega
   have e2:(15*i+t)%15=t:=by omega
   rw[bX,hf];dsimp only;rw[e1,e2];by_cases d:15*i+t<m
   .simp[c,d]
   .have hi2:i=nb m-1:=by unfold nb at hi⊢;omega
    have l:=la (by omega);rw[<-hi2]at l;have:jV L ys xs i<2^t:=Nat.lt_of_lt_of_le l (Nat.pow_le_pow_right (by decide) (by omega));rw[Nat.testBit_lt_two_pow this];simp[d]
  .rw[Nat.testBit_lt_two_pow (Nat.lt_of_lt_of_le hw (Nat.pow_le_pow_right (by decide) (by omega)))];simp[c]
 have C:∀i,i<nb m->bcl m (bitAt X) i=cls xs i/\bof m (bitAt X) i=cOff L ys xs i:=by
  intro i hi;unfold bcl bof;rw[B i hi];exact xF 15 _ _ (ea i hi).2.1
 have A:∀i,i<=nb m->bat m (bitAt X) i=cAt xs i/\bon m (bitAt X) i=cOn xs i:=by
  intro i;induction i with
  | zero=>intro _;exact⟨rfl,rfl⟩
  | succ i ih=>
   intro hi;obtain⟨h1,h2⟩:=ih (by omega);obtain⟨c1,c2⟩:=C i (by omega);rw[bat,bon,cAt,cOn,h1,h2,d_,c1];exact⟨rfl,rfl⟩
 have x1:xs=rC m (bitAt X):=by
  unfold rC mkS;rw[eJ];refine(kK _ xs hfx ck).trans ?_;rw[<-hM,show((nb m:Int)*4).toNat=nb m*4 by omega];refine da _ _ _ fun j hj=>?_;have hj4:j/4<nb m:=by omega
  rw[o_ _ _ _ _ hj4,(C _ hj4).1];unfold cls numAt;rw[ie,show j/4*4+j%4=j by omega];simp[hj,show j%4<4 by omega]
 have x2:ys=rO m (bitAt X):=by
  unfold rO;rw[me];refine(kK _ ys hfy oc).trans ?_;rw[<-en,Int.toNat_natCast,(A (nb m) (Nat.le_refl _)).1];refine da _ _ _ fun j hj=>?_;obtain⟨i,t,hi,ht,rfl⟩:=I1 xs (nb m) j hj
  have hb:t<d_ m (bitAt X) i:=by rw[d_,(C i hi).1];exact ht
  have g:=rU m (bitAt X) (nb m) i t hi hb;rw[(A i (by omega)).1]at g;rw[List.getD_eq_getElem?_getD,g,(C i hi).2];unfold cOff slcX
  rw[if_pos (show slcE L ys (cAt xs i) (kwd (cls xs i))=0 from(ea i hi).1),ie,Int.toNat_natCast,Int.toNat_natCast];simp[ht]
 have x3:S=rS m (bitAt X):=by
  unfold rS;refine jy (by rw[sl,kA]) fun j hj=>?_;unfold de;rw[ju _ _ _ (by omega)];by_cases c:j=0
  .subst c;exact s0
  .have h8:=jT m j (by omega) c;have:=((ea (8*j) h8).2.2 (by omega)).1;rw[show 8*j/8=j by omega]at this;rw[this,(A (8*j) (by omega)).2]
 have x4:T=rT m (bitAt X):=by
  unfold rT;refine jy (by rw[tl,ku]) fun j hj=>?_;unfold db;rw[ju _ _ _ (by omega)];by_cases c:j=0
  .subst c;exact t0
  .have h8:=jT m j (by omega) c;have:=((ea (8*j) h8).2.2 (by omega)).2;rw[show 8*j/8=j by omega]at this;rw[this,(A (8*j) (by omega)).1]
 refine⟨X,fX,cX,?_⟩;rw[oM m X cX,<-x1,<-x2,<-x3,<-x4,(A (nb m) (Nat.le_refl _)).1,en,<-hM]
theorem IC(a:aP)(m:Nat)(hfx:aA a.xs)(hfy:aA a.ys)(h:CK a m):kOk8 a=true:=by
 obtain⟨X,f,c,e⟩:=ID a m hfx hfy h;rw[e];exact(vJ m X f c).1
theorem uA(a:aP)(h:kOk8 a=true):∃m:Nat,kBN8 a=(m:Int)/\m<=1048576/\aA (kBX8 a)/\az (m:Int) (kBX8 a)=true/\a=kB8 m (kBX8 a):=by
 have c:=oQ a h;have f:=qZ a;have hr:cH a.N a.k a.V a.M a.xs a.L a.ys a.S a.T=true:=h;obtain⟨h0,_,_,h4⟩:=lj _ _ _ _ _ _ _ _ _ hr
 obtain⟨e1,e2,e3,e4,e5,e6,e7,e8,e9⟩:=qg _ _ _ _ _ _ _ _ _ _ _ h4;have n:kBN8 a=((rwN (rDec a.N a.k a.V a.xs a.L a.ys):Nat):Int):=by unfold kBN8 fR;rw[if_pos hr]
 have x:rwX (rDec a.N a.k a.V a.xs a.L a.ys)=kBX8 a:=by unfold kBX8 dI;rw[if_pos hr]
 rw[x]at e5 e6 e7 e8 e9;refine⟨rwN (rDec a.N a.k a.V a.xs a.L a.ys),n,by omega,f,by rw[<-n];exact c,?_⟩;generalize rwN (rDec a.N a.k a.V a.xs a.L a.ys)=m at *;rw[n]at c;rw[oM m _ c];generalize kBX8 a=X at *
 obtain⟨N,k,V,M,xs,L,ys,S,T⟩:=a;dsimp only at *;subst e1 e2 e3 e4 e5 e6 e7 e8 e9;rfl
theorem vD(m:Nat)(X:List Nat)(hm:m<=1048576)(hk:az (m:Int) X=true):
  (∀i,i<nb m->cls (rC m (bitAt X)) i=bcl m (bitAt X) i)/\(∀i,i<=nb m->cAt (rC m (bitAt X)) i=bat m (bitAt X) i/\cOn (rC m (bitAt X)) i=bon m (bitAt X) i)/\
  (∀i,i<nb m->iP (bat m (bitAt X) (nb m)) (rO m (bitAt X)) (rC m (bitAt X)) i=0/\cOff (bat m (bitAt X) (nb m)) (rO m (bitAt X)) (rC m (bitAt X)) i=bof m (bitAt X) i/\jV (bat m (bitAt X) (nb m)) (rO m (bitAt X)) (rC m (bitAt X)) i=blv m (bitAt X) i):=by
 have C:∀i,i<nb m->cls (rC m (bitAt X)) i=bcl m (bitAt X) i:=by
  intro i hi;have:=uE (cC m (bitAt X) (nb m)) 4 (by decide) (pC m (bitAt X) (nb m)) i (by rw[eJ];exact hi);rw[eJ,o_ m (bitAt X) _ i hi]at this;exact this
 have A:∀i,i<=nb m->cAt (rC m (bitAt X)) i=bat m (bitAt X) i/\cOn (rC m (bitAt X)) i=bon m (bitAt X) i:=by
  intro i;induction i with
  | zero=>intro _;exact⟨rfl,rfl⟩
  | succ i ih=>
   intro hi;obtain⟨h1,h2⟩:=ih (by omega);rw[bat,bon,cAt,cOn,h1,h2,d_,C i (by omega)];exact⟨rfl,rfl⟩
 refine⟨C,A,fun i hi=>?_⟩;have R:=tP m (bitAt X) hm i hi;rw[<-me,nH _ (jd _ _ _)]at R;unfold jV iP cOff;rw[C i hi,(A i (by omega)).1];refine⟨R.1,R.2,?_⟩
 have e:slcX (bat m (bitAt X) (nb m):Int) (rO m (bitAt X)) (bat m (bitAt X) i:Int) (kwd (bcl m (bitAt X) i):Int)=bof m (bitAt X) i:=R.2;rw[e];have:=rW (blv m (bitAt X) i) 15;unfold bcl bof
 rw[this,Nat.mod_eq_of_lt (jX m (bitAt X) i)]
theorem vE(m:Nat)(X:List Nat)(hm:m<=1048576)(hk:az (m:Int) X=true):CK (kB8 m X) m:=by
 obtain⟨C,A,R⟩:=vD m X hm hk;have hn:=gK m hm;have hb:=j4 m (bitAt X) (nb m);rw[oM m X hk]
 have i1:aQ (nb m:Int) 4 ((nb m:Int)*4) (rC m (bitAt X))=true:=by
  have:=v_ (cC m (bitAt X) (nb m)) 4 (by decide) (by decide) (by rw[eJ];omega);rw[eJ]at this;unfold rC;rw[show((nb m:Int)*4)=((nb m*4:Nat):Int)by omega];exact this
 have i2:az (bat m (bitAt X) (nb m):Int) (rO m (bitAt X))=true:=by
  unfold rO;rw[me];exact gB _ _ (by omega)
 have hg:0<gN m:=by unfold gN;omega
 have gs:∀j,j<gN m->gi (rS m (bitAt X)) j=(bon m (bitAt X) (8*j):Int):=fun j hj=>by unfold rS de;rw[ju _ _ _ hj]
 have gt':∀j,j<gN m->gi (rT m (bitAt X)) j=(bat m (bitAt X) (8*j):Int):=fun j hj=>by unfold rT db;rw[ju _ _ _ hj]
 refine⟨rfl,hm,rfl,rfl,i1,i2,by unfold rS;rw[kA],by unfold rT;rw[ku],gs 0 hg,gt' 0 hg,?_,?_,?_⟩
 .intro i hi;dsimp only;obtain⟨r1,r2,_⟩:=R i hi;refine⟨r1,by rw[r2,C i hi];exact rR _ _ _,fun h8=>?_⟩;have hj:i/8<gN m:=by unfold gN;omega
  rw[gs _ hj,gt' _ hj,show 8*(i/8)=i by omega,(A i (by omega)).1,(A i (by omega)).2];exact⟨rfl,rfl⟩
 .dsimp only;rw[(A (nb m) (Nat.le_refl _)).1]
 .intro h0;dsimp only;rw[(R (nb m-1) (by omega)).2.2];unfold blv;have hr:m-15*(nb m-1)<=15:=by unfold nb at h0⊢;omega
  have e:numOf 15 (fun k=>decide (15*(nb m-1)+k<m)&&bitAt X (15*(nb m-1)+k))=numOf (m-15*(nb m-1)) (fun k=>decide (15*(nb m-1)+k<m)&&bitAt X (15*(nb m-1)+k)):=by
   refine iY _ _ _ fun t=>?_;rw[ie];by_cases c:t<m-15*(nb m-1)
   .simp[c,show t<15 by omega]
   .simp[c,show ¬15*(nb m-1)+t<m by omega]
  rw[e];exact fg _ _
theorem rV(m:Nat)(X:List Nat)(j:Nat):∀r,r<=15->15*j+r<=m->cntB X (15*j+r)=cntB X (15*j)+cnt (blv m (bitAt X) j) r:=by
 intro r;induction r with
 | zero=>intro _ _;rfl
 | succ r ih=>
  intro h1 h2;have e:=ih (by omega) (by omega);rw[show 15*j+(r+1)=15*j+r+1 by omega,cntB,e,cnt]
  have t:(blv m (bitAt X) j).testBit r=bitAt X (15*j+r):=by
   unfold blv;rw[ie];simp[show r<15 by omega,show 15*j+r<m by omega]
  rw[kP]at t;rw[<-t];have:(blv m (bitAt X) j/2^r%2)<2:=Nat.mod_lt _ (by decide);by_cases c:blv m (bitAt X) j/2^r%2=1
  .simp[c];omega
  .simp[c];omega
theorem xE(m:Nat)(X:List Nat):∀j,15*j<=m->bon m (bitAt X) j=cntB X (15*j):=by
 intro j;induction j with
 | zero=>intro _;rfl
 | succ j ih=>
  intro h;have e:=rV m X j 15 (Nat.le_refl _) (by omega);rw[bon,ih (by omega),show 15*(j+1)=15*j+15 by omega,e];rfl
def obI(bit:Bool)(i n:Nat):Nat:=if bit then n else i-n
def wbk(m:Nat)(X:List Nat)(bit:Bool)(i:Nat):Nat:=if bit then blv m (bitAt X) i else 18446744073709551615-blv m (bitAt X) i
theorem kW(m:Nat)(X:List Nat)(bit:Bool)(i r:Nat)(hr:r<=15)(hm:15*i+r<=m):cB X bit (15*i+r)=cB X bit (15*i)+cnt (wbk m X bit i) r:=by
 have a:=rV m X i r hr hm;have l:=fW X (15*i);have l2:=dL (blv m (bitAt X) i) r;have hb:=jX m (bitAt X) i;unfold cB wbk;cases bit with
 | true=>simp only[if_true];exact a
 | false=>
  have f:=pn (blv m (bitAt X) i) r 64 (by omega) (by omega);rw[show(2^64-1-blv m (bitAt X) i)=18446744073709551615-blv m (bitAt X) i by omega]at f;simp only[Bool.false_eq_true,if_false];rw[a,f];omega
theorem yC(m:Nat)(X:List Nat)(bit:Bool)(i r:Nat)(hr:r<15)(hm:15*i+r<m)(h:bitAt X (15*i+r)=bit):wbk m X bit i/2^r%2=1:=by
 have a:=kW m X bit i r (by omega) (by omega);have b:=kW m X bit i (r+1) (by omega) (by omega);have c:=jB X bit (15*i+r);rw[if_pos h]at c;rw[show 15*i+(r+1)=15*i+r+1 by omega]at b
 simp only[cnt]at b;have:(wbk m X bit i/2^r%2)<2:=Nat.mod_lt _ (by decide);revert b;generalize wbk m X bit i/2^r%2=z at *;intro b;omega
theorem zn(m:Nat)(X:List Nat)(bit:Bool)(k i:Nat)(hk:k<cB X bit m)(hi:i<nb m)(h1:cB X bit (15*i)<=k)(h2:k<cB X bit (15*i)+obI bit 15 (bcl m (bitAt X) i)):
  ∃r:Nat,r<15/\jf (wbk m X bit i:Int) ((k:Int)-(cB X bit (15*i):Int))=(r:Int)/\dc (m:Int) X bit (k:Int)=some (15*i+r):=by
 have hs:(dc (m:Int) X bit (k:Int)).isSome=true:=(kj _ _ _ _).2 ⟨by omega,by rw[Int.toNat_natCast];omega⟩;obtain⟨q,hq⟩:=Option.isSome_iff_exists.1 hs;obtain⟨g1,g2,g3⟩:=qi _ _ _ _ _ hq
 rw[Int.toNat_natCast]at g1
 have e1:15*i<=q:=by
  apply Nat.le_of_not_lt;intro c;have a:=jB X bit q;rw[if_pos g2]at a;have b:=jC X bit (q+1) (15*i-(q+1));rw[show q+1+(15*i-(q+1))=15*i by omega]at b;omega
 have e2:q<15*(i+1):=by
  apply Nat.lt_of_not_le;intro c;have w:=kW m X bit i 15 (Nat.le_refl _) (by omega);have b:=jC X bit (15*i+15) (q-(15*i+15));rw[show 15*i+15+(q-(15*i+15))=q by omega]at b
  have f:cnt (wbk m X bit i) 15=obI bit 15 (bcl m (bitAt X) i):=by
   unfold wbk obI bcl;cases bit with
   | true=>rfl
   | false=>
    have hb:=jX m (bitAt X) i;have f:=pn (blv m (bitAt X) i) 15 64 (by omega) (by omega);rw[show(2^64-1-blv m (bitAt X) i)=18446744073709551615-blv m (bitAt X) i by omega]at f;exact f
  omega
 have ei:q=15*i+(q-15*i):=by omega
 refine⟨q-15*i,by omega,?_,by rw[<-ei];exact hq⟩;have w1:=yC m X bit i (q-15*i) (by omega) (by omega) (by rw[<-ei];exact g2);have w2:=kW m X bit i (q-15*i) (by omega) (by omega);rw[<-ei]at w2
 unfold jf;rw[Int.toNat_natCast];have:=tt (wbk m X bit i) ((k:Int)-(cB X bit (15*i):Int)) (q-15*i) w1 (by omega) (q-15*i) 0 (by omega) (by omega);rw[show 64-0=64 from rfl]at this;rw[this]
end Go.Proofs.YtleegaihbgbcjabGreatDoor
namespace Go.Proofs.YtleegaihbgbcjabGreatDoor
open Go.RowKit Num Bn
namespace Ow
theorem kM{w:World}{g:Nat}{ys:List Nat}{T:TypeId}(h:aa w g (wv ys) T)(j:Nat)(hj:j<ys.length):w.cell? ⟨g,j,none⟩=some (.int .u64 (gt ys j)):=
 h.cell j (by simp[wv,gt_get ys j hj])
theorem xw{w:World}{g:Nat}{ys:List Nat}{T:TypeId}(h:aa w g (wv ys) T)(j v:Nat):aa (w.setCell ⟨g,j,none⟩ (.int .u64 v)) g (wv (ys.set j v)) T:=by
 have:=h.set j (.int .u64 v);rwa [show(wv ys).set j (.int .u64 v)=wv (ys.set j v)by simp[wv,List.map_set]]at this
theorem C9(n i q:Nat)(hi:1<=i)(hq:q+1<=n):(ff n i q).set (q+1) (ch i (q+1)-ch (i-1) q)=ff n i (q+1):=by
 refine list_ext (by rw[List.length_set,gh,gh]) fun t ht=>?_;rw[List.length_set,gh]at ht;rw[gt_set _ _ _ _ (by rw[gh];omega),jP _ _ _ _ (by omega),jP _ _ _ _ (by omega)]
 by_cases c:q+1=t
 .subst c;obtain⟨a,rfl⟩:∃a,i=a+1:=⟨i-1,by omega⟩;rw[if_pos rfl,if_neg (by omega),i9,Nat.add_sub_cancel];omega
 .rw[if_neg c];by_cases d:q<t
  .rw[if_pos d,if_pos (by omega)]
  .rw[if_neg d,if_neg (by omega)]
theorem wG(g i:Nat)(hi:i<62)(w:World)(h:aa w g (wv (rowP 62 i)) 225):
  Calls prog 200 #[.pointer (some ⟨g,0,none⟩),.int .i64 i] w fun e w'=>e=.returned (.tuple #[])/\aa w' g (wv (rowP 62 (i+1))) 225/\Below g w w':=by
 go_enter func200,ntmps200;go_wp2;go_loopw [4] (fun j wz=>∃q:Nat,q<=i+1/\j=.int .i64 q/\aa wz g (wv (ff 62 (i+1) q)) 225/\Below g w wz) (fun j _=>(intOf j).toNat)
 case atStart=>exact⟨i+1,Nat.le_refl _,by go_num,by rw[qp];exact h,Below.refl _ _⟩
 case round=>
  obtain⟨q,hq,rfl,hOz,hwz⟩:=hrel;clear h;by_cases h0:q=0
  .subst h0;rw[qm]at hOz;have HO:Hid (aa wr g (wv (rowP 62 (i+1))) 225):=hOz;clear hOz;go_wp2;refine bodyPost_end (results_none rfl _ _ _) rfl ?_;exact⟨rfl,HO.out,hwz⟩
  .have q0:(0:Int)<(q:Int):=by omega
   have e1:=kM hOz q (by rw[gh];omega);have e2:=kM hOz (q-1) (by rw[gh];omega);have fz:=hOz.frozen q;have l1:(q:Int)<63:=by omega
   have l2:(q:Int)-1<63:=by omega
   rw[jP _ _ _ _ (by omega),if_neg (by omega),Nat.add_sub_cancel]at e1 e2;have b1:=gW i q (by omega);have b2:=gW i (q-1) (by omega);have st:=xw hOz q (ch i q+ch i (q-1))
   have ps:=uu 62 (i+1) q (by omega) (by omega) (by omega);rw[Nat.add_sub_cancel]at ps;rw[ps]at st
   have HO:Hid (aa (wr.setCell ⟨g,q,none⟩ (.int .u64 ((ch i q+ch i (q-1):Nat):Int))).drew g (wv (ff 62 (i+1) (q-1))) 225):=st
   have HB:Hid (Below g w (wr.setCell ⟨g,q,none⟩ (.int .u64 ((ch i q+ch i (q-1):Nat):Int))).drew):=(hwz.setCell (Nat.le_refl _) _).drew;have ez:((q:Int)-1).toNat=q-1:=by omega
   have ad:IntKind.u64.wrap ((ch i q:Int)+(ch i (q-1):Int))=((ch i q+ch i (q-1):Nat):Int):=by rw[IntKind.wrap_u64];omega
   clear st ps hOz;generalize ch i q=A at *;generalize ch i (q-1)=B at *;go_wp2;go_region;go_wp2;exact⟨⟨q-1,by omega,by go_num,HO.out,HB.out⟩,by simp only[intOf];omega⟩
theorem zM(g i:Nat)(h1:1<=i)(hi:i<=62)(w:World)(h:aa w g (wv (rowP 62 i)) 225):
  Calls prog 206 #[.pointer (some ⟨g,0,none⟩),.int .i64 i] w fun e w'=>e=.returned (.tuple #[])/\aa w' g (wv (rowP 62 (i-1))) 225/\Below g w w':=by
 go_enter func206,ntmps206;go_wp2;go_loopw [4] (fun j wz=>∃q:Nat,q<=i/\j=.int .i64 ((q:Int)+1)/\aa wz g (wv (ff 62 i q)) 225/\Below g w wz) (fun j _=>(i+1-intOf j).toNat)
 case atStart=>exact⟨0,Nat.zero_le _,by go_num,by rw[qm];exact h,Below.refl _ _⟩
 case round=>
  obtain⟨q,hq,rfl,hOz,hwz⟩:=hrel;clear h;by_cases h0:q=i
  .subst h0;rw[qp]at hOz;have HO:Hid (aa wr g (wv (rowP 62 (q-1))) 225):=hOz;clear hOz;go_wp2;refine bodyPost_end (results_none rfl _ _ _) rfl ?_;exact⟨rfl,HO.out,hwz⟩
  .have q0:(q:Int)+1<=(i:Int):=by omega
   have e1:=kM hOz (q+1) (by rw[gh];omega);have e2:=kM hOz q (by rw[gh];omega);have fz:=hOz.frozen (q+1);have l1:(q:Int)+1<63:=by omega
   have l2:(q:Int)<63:=by omega
   rw[jP _ _ _ _ (by omega),if_pos (by omega)]at e1;rw[jP _ _ _ _ (by omega),if_neg (by omega)]at e2;have b1:=gW i (q+1) (by omega)
   have le:ch (i-1) q<=ch i (q+1):=by
    obtain⟨a,rfl⟩:∃a,i=a+1:=⟨i-1,by omega⟩;rw[i9,Nat.add_sub_cancel];omega
   have st:=xw hOz (q+1) (ch i (q+1)-ch (i-1) q);rw[C9 62 i q h1 (by omega)]at st
   have HO:Hid (aa (wr.setCell ⟨g,q+1,none⟩ (.int .u64 ((ch i (q+1)-ch (i-1) q:Nat):Int))).drew g (wv (ff 62 i (q+1))) 225):=st
   have HB:Hid (Below g w (wr.setCell ⟨g,q+1,none⟩ (.int .u64 ((ch i (q+1)-ch (i-1) q:Nat):Int))).drew):=(hwz.setCell (Nat.le_refl _) _).drew;have ez:((q:Int)+1).toNat=q+1:=by omega
   have ad:IntKind.u64.wrap ((ch i (q+1):Int)-(ch (i-1) q:Int))=((ch i (q+1)-ch (i-1) q:Nat):Int):=by rw[IntKind.wrap_u64];omega
   have ad2:((ch i (q+1):Int)-(ch (i-1) q:Int))=((ch i (q+1)-ch (i-1) q:Nat):Int):=by omega
   clear st hOz;generalize ch i (q+1)=A at *;generalize ch (i-1) q=B at *;go_wp2;go_region;go_wp2;exact⟨⟨q+1,by omega,by go_num,HO.out,HB.out⟩,by simp only[intOf];omega⟩
theorem vR:(prog.info? 225).map (fun i=>(i.zero,i.size))=some (some (.agg (wv (List.replicate 63 0)).toArray),63):=by kernel_rfl
theorem I7:prog.built 225 [(0,.int .u64 1)]=some (wv ((List.replicate 63 0).set 0 1)).toArray:=by kernel_rfl
theorem DA(ys:List Nat):(wv ys).toArray.all (·.oneCell')=true:=by
 rw[Array.all_eq_true_iff_forall_mem];intro v hv;simp only[wv,List.mem_toArray,List.mem_map]at hv;obtain⟨y,_,rfl⟩:=hv;rfl
end Ow
namespace Ow
theorem pX(ys:List Nat)(h:ys.length=63):(prog.info? 225).map (·.size)=some (wv ys).toArray.size:=by
 rw[(zero_of_info vR).2,List.size_toArray,length_wv,h]
theorem JK(w:World)(g:Nat)(cs:Array Value):Below g w (w.setRow g cs):=by
 refine⟨rfl,rfl,rfl,?_,fun k hk=>?_⟩
 .simp[World.setRow]
 .simp only[World.setRow,Array.getElem?_modify];rw[if_neg (by omega)]
theorem nF{ops:Array Oper}{rest:List Oper}{d:Option Tmp}{ty:TypeId}{ps:String}{af:Array Edge}{a:Act}{w:World}{Q:Exit->Act->World->Prop}
  (h:∀w1,aa w1 w.heap.size (wv (List.replicate 63 0)) 225->Below w.heap.size w w1->w.heap.size<w1.heap.size->wpList prog ops Q rest (a.put d (.pointer (some ⟨w.heap.size,0,none⟩))) w1):
  wpList prog ops Q (⟨d,.alloc 225,ty,ps,af,none⟩::rest) a w:=by
 refine wpList_plain rfl fun K hK=>?_;unfold Oper.wp execOp;have z:=(zero_of_info vR).1;have nw:=h _ (aa.new w _ _) (below_alloc w _) (by simp);refine cast ?_ (hK _ _ nw)
 simp[Instr.alloc,Sem.run_bind,z,newVar,Value.cells,go_sem]
theorem I8{ops:Array Oper}{rest:List Oper}{d:Option Tmp}{ty:TypeId}{ps:String}{af:Array Edge}{a:Act}{w:World}{Q:Exit->Act->World->Prop}
  (h:wpList prog ops Q rest (a.put d (.agg (wv (rowP 62 0)).toArray)) w):
  wpList prog ops Q (⟨d,.build 225 #[(0,.const (.int .u64 1))],ty,ps,af,none⟩::rest) a w:=by
 have e:prog.built 225 ((#[((0:Nat),Operand.const (.int .u64 1))].map fun(i,x)=>(i,a.eval x)).toList)=some (wv (rowP 62 0)).toArray:=by
  rw[<-tG 62,<-I7];congr 1;simp;rfl
 refine wpList_build rfl _ _ rfl (by rw[e];rfl) ?_;rw[e];exact h
theorem mB{ops:Array Oper}{rest:List Oper}{d:Option Tmp}{ty:TypeId}{ps:String}{af:Array Edge}{a:Act}{w:World}{Q:Exit->Act->World->Prop}{x y:Operand}
  (g:Nat) (old ys:List Nat) (hx:a.eval x=.pointer (some ⟨g,0,none⟩)) (hy:a.eval y=.agg (wv ys).toArray) (hc:aa w g (wv old) 225) (lo:old.length=63) (ly:ys.length=63)
  (h:∀w1,aa w1 g (wv ys) 225->Below g w w1->wpList prog ops Q rest (a.put d undef) w1):
  wpList prog ops Q (⟨d,.store 225 x y,ty,ps,af,none⟩::rest) a w:=
 wpList_store_row rfl _ x y rfl g _ hx hy _ _ hc (pX ys ly) (by simp[length_wv,lo,ly]) (DA ys) (h _ (setRow_heap w g _ _ _ _ hc) (JK w g _))
theorem Fd{ops:Array Oper}{rest:List Oper}{d:Option Tmp}{ty:TypeId}{ps:String}{af:Array Edge}{a:Act}{w:World}{Q:Exit->Act->World->Prop}{x:Operand}
  (g:Nat) (ys:List Nat) (hx:a.eval x=.pointer (some ⟨g,0,none⟩)) (hc:aa w g (wv ys) 225) (ly:ys.length=63)
  (h:wpList prog ops Q rest (a.put d (.agg (wv ys).toArray)) w):
  wpList prog ops Q (⟨d,.load 225 x,ty,ps,af,none⟩::rest) a w:=
 wpList_load_row rfl _ x rfl g hx _ _ _ _ hc underlying225 rfl (pX ys ly) h
theorem p9(n:Nat)(hn:n<=62)(w:World):
  Qq 199 #[.int .i64 n] w (.agg (wv (rowP 62 n)).toArray):=by
 have G:Hid (∀(g i:Nat),i<62->∀w,aa w g (wv (rowP 62 i)) 225->Calls prog 200 #[.pointer (some ⟨g,0,none⟩),.int .i64 i] w fun e w'=>e=.returned (.tuple #[])/\aa w' g (wv (rowP 62 (i+1))) 225/\Below g w w'):=wG
 go_enter func199,ntmps199;go_wp2_with (refine nF ?_);intro w1 hc1 hb1 hs1;go_wp2_with (first | refine I8 ?_ | refine nF ?_);intro w2 hc2 hb2 hs2
 go_wp2_with (refine mB w1.heap.size _ _ rfl rfl hc2 (by simp) (length_rowP 62 0) ?_);intro w3 hc3 hb3;have hA:Below w.heap.size w w3:=(hb1.trans (hb2.mono (by omega))).trans (hb3.mono (by omega))
 have hR:=(hc1.kept hb2).keep hb3 hs1;have hlt:w.heap.size<w1.heap.size:=hs1;clear hc1 hb1 hs1 hc2 hb2 hs2 hb3 w2;go_wp2;generalize w1.heap.size=g at *
 go_loopw [4,7] (fun _ s wr=>∃i:Nat,i<=n/\s=.int .i64 i/\aa wr g (wv (rowP 62 i)) 225/\aa wr w.heap.size (wv (List.replicate 63 0)) 225/\Below w.heap.size w wr) (fun _ s _=>n-(intOf s).toNat)
 case atStart=>exact⟨0,Nat.zero_le _,rfl,hc3,hR,hA⟩
 case round=>
  obtain⟨i,hin,rfl,hc,hr,hb⟩:=hrel;clear hc3 hR hA;by_cases hi:i<n
  .have hi2:(i:Int)<(n:Int):=by omega
   go_wp2_with fail;refine(G.out g i (by omega) _ hc).mono ?_;rintro e w4 ⟨rfl,hc4,hb4⟩;have hr4:=hr.keep hb4 hlt;have hb5:=hb.trans (hb4.mono (by omega));clear hc hr hb hb4;go_wp2
   exact⟨⟨i+1,by omega,by go_num,hc4,hr4,hb5⟩,by simp only[intOf];omega⟩
  .obtain rfl:i=n:=by omega
   have HB:Hid (Below w.heap.size w wr):=hb;clear hb G;go_wp2_with (first | refine Fd g _ rfl hc (length_rowP 62 i) ?_ | refine mB w.heap.size _ _ rfl rfl hr (by simp) (length_rowP 62 i) ?_);intro w5 hc5 hb5
   have HC:Hid (aa w5 w.heap.size (wv (rowP 62 i)) 225):=hc5;have HB5:Hid (Below w.heap.size w w5):=HB.out.trans hb5;clear hc5 hb5 hc hr;go_wp2
   (try simp only[Exit.inBlock,Exit.then]);exact bodyPost_ret (results_cell_row rfl _ _ _ _ _ _ _ rfl HC.out underlying225 rfl (pX _ (length_rowP 62 i))) rfl ⟨rfl,HB5.out⟩
end Ow
open Go.RowKit Num Bn Ow
theorem sO(n:Int)(h0:0<=n)(h1:n<=62)(w:World):
  Qx 198 #[.int .i64 n] w (.bool true):=by
 go_enter func198,ntmps198;go_wp2;go_ret;exact⟨rfl,rfl⟩
theorem sN(n:Int)(h:n<0\/62<n)(w:World):
  Qx 198 #[.int .i64 n] w (.bool false):=by
 by_cases h0:n<0
 .go_enter func198,ntmps198;go_wp2;go_ret;exact⟨rfl,rfl⟩
 .have h1:62<n:=by omega
  have h2:0<=n:=by omega
  have h3:¬n<=62:=by omega
  clear h h0;go_enter func198,ntmps198;go_wp2;go_ret;exact⟨rfl,rfl⟩
theorem IG(n k:Int)(hn: -9223372036854775808<=n/\n<=9223372036854775807)(hk: -9223372036854775808<=k/\k<=9223372036854775807)(w:World):
  Qq 185 #[.int .i64 n,.int .i64 k] w (.int .u64 (chN n k)):=by
 by_cases hw:n<0\/62<n
 .rw[show chN n k=0 by unfold chN;rw[if_pos (by omega)]];have W:Hid (∀w,Qx 198 #[.int .i64 n] w (.bool false)):=sN n hw;clear hw
  go_enter func185,ntmps185;go_wp2_with fail;refine mr (W.out _) fun w1 hw1=>?_;rw[hw1];clear hw1 w1;go_wp2;go_ret;exact⟨rfl,Below.refl _ _⟩
 have W:Hid (∀w,Qx 198 #[.int .i64 n] w (.bool true)):=sO n (by omega) (by omega);by_cases h3:k<0
 .rw[show chN n k=0 by unfold chN;rw[if_pos (by omega)]];go_enter func185,ntmps185;go_wp2_with fail;refine mr (W.out _) fun w1 hw1=>?_;rw[hw1];clear hw1 w1;go_wp2;go_ret;exact⟨rfl,Below.refl _ _⟩
 by_cases h4:n<k
 .rw[show chN n k=0 by unfold chN;rw[if_pos (by omega)]];go_enter func185,ntmps185;go_wp2_with fail;refine mr (W.out _) fun w1 hw1=>?_;rw[hw1];clear hw1 w1;go_wp2;go_ret;exact⟨rfl,Below.refl _ _⟩
 rw[show chN n k=ch n.toNat k.toNat by unfold chN;rw[if_neg (by omega)]];obtain⟨a,rfl⟩:=Int.eq_ofNat_of_zero_le (show 0<=n by omega);obtain⟨b,rfl⟩:=Int.eq_ofNat_of_zero_le (show 0<=k by omega)
 rw[Int.toNat_natCast,Int.toNat_natCast];have ha:a<=62:=by omega
 have hba:b<=a:=by omega
 have b63:(b:Int)<63:=by omega
 have R:Hid (∀w,Qq 199 #[.int .i64 a] w (.agg (wv (rowP 62 a)).toArray)):=p9 a ha;clear hw;go_enter func185,ntmps185;go_wp2_with fail
 refine mr (W.out _) fun w1 hw1=>?_;rw[hw1];clear hw1 w1 W;go_wp2_with fail;refine mr (R.out _) fun w1 hb1=>?_;go_wp2_with (refine nF ?_);intro w2 hc2 hb2 hs2
 go_wp2_with (refine mB w1.heap.size _ _ rfl rfl hc2 (by simp) (length_rowP 62 a) ?_);intro w3 hc3 hb3;have HB:Hid (Below w.heap.size w w3):=(bg hb1 hb2).trans (hb3.mono hb1.size)
 clear hb1 hc2 hb2 hs2 hb3 w2 R;have e1:=kM hc3 b (by rw[length_rowP];omega);rw[m6 _ _ _ (by omega)]at e1;obtain⟨Z,hZ⟩:∃Z,Hid (Z=ch a b):=⟨_,rfl⟩;rw[<-hZ.out]at e1;clear hc3;go_wp2;go_ret;rw[<-hZ.out]
 exact⟨rfl,HB.out⟩
end Go.Proofs.YtleegaihbgbcjabGreatDoor
