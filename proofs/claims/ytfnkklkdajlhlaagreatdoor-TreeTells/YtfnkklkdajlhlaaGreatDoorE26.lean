import Derived.Test.YtfnkklkdajlhlaaGreatDoorE25
set_option linter.unusedVariables false
set_option linter.unusedSimpArgs false
set_option maxRecDepth 100000
set_option maxHeartbeats 16000000
namespace Go.Proofs.YtfnkklkdajlhlaaGreatDoor
open Go.RowKit Num Bit
def sof(t:List Nat)(l p i:Nat):List Nat:=(List.range p).flatMap (Tw.seg t l)++Tw.sg t l p i
theorem sof_next(t:List Nat)(l p:Nat):sof t l p t.length=sof t l (p+1) 0:=by
 unfold sof;rw[List.range_succ,List.flatMap_append];simp[Tw.seg,Tw.sg]
theorem sof_all(t:List Nat)(l:Nat):sof t l (2^l) 0=Tw.plc t l:=by
 unfold sof Tw.plc;simp[Tw.sg]
theorem sof_yes(t:List Nat)(l p i:Nat)(h:Tw.hi l (gt t i)=p):sof t l p (i+1)=sof t l p i++[i]:=by
 unfold sof Tw.sg;rw[List.range_succ,List.filter_append,List.append_assoc];simp[h]
theorem sof_no(t:List Nat)(l p i:Nat)(h:Tw.hi l (gt t i)≠p):sof t l p (i+1)=sof t l p i:=by
 unfold sof Tw.sg;rw[List.range_succ,List.filter_append];simp[h]
theorem sof_len(t:List Nat)(l p i:Nat)(hl:l≤8)(hB:Tw.Byt t)(hi:i≤t.length)(hp:p<2^l):(sof t l p i).length≤t.length:=by
 have e:=congrArg List.length (Tw.plc_take t l p i hp hi);have h1:=Tw.st_le t l p;rw[List.length_append,List.length_take,List.length_take,Tw.length_plc t l hl hB]at e;unfold sof;rw[List.length_append,Tw.st_flat]
 unfold Tw.rk at e;omega
theorem shl1(l:Nat)(h:l≤8):IntKind.i64.wrap ((2:Int)^l)=((2^l:Nat):Int):=by
 have:(2:Nat)^l≤2^8:=Nat.pow_le_pow_right (by decide) h;have e:(2:Int)^l=((2^l:Nat):Int):=by simp
 rw[e];generalize (2:Nat)^l=y at *;rw[IntKind.wrap_i64];omega
def pli(L:List Nat)(t:List Nat):List Value:=L.map fun x=>.int .i64 (x:Nat)
theorem pli_snoc(L t:List Nat)(i:Nat):pli L t++[.int .i64 (i:Nat)]=pli (L++[i]) t:=by simp[pli]
theorem rsorted_c(ao:Option Addr)(t:List Nat)(cap l:Nat)(w:World)(hx:Bd w ao t)(hB:Tw.Byt t)(hl:l≤8)(hn:t.length≤8192):
  Calls Tryz.prog 132 #[.slice ao t.length cap,.int .i64 l] w fun e w'=>∃v,e=.returned v∧w'.ownsRow w.heap.size 3 1 v (Tw.plc t l).length (pli (Tw.plc t l) t)∧Below w.heap.size w w':=by
 obtain⟨i3,hi3,za3,zb3,zc3⟩:=info_parts info3_9;have HX:=Hid.mkt hx;have hpw:(2:Nat)^l≤256:=Nat.le_trans (Nat.pow_le_pow_right (by decide) hl) (by decide);have sh:=shl1 l hl
 obtain⟨W,hW⟩:∃W:Nat,Hid (W=(2:Nat)^l):=⟨_,rfl⟩;rw[←hW.out]at sh hpw;obtain⟨k,hk⟩:∃k,8-l=k:=⟨_,rfl⟩;have mk:IntKind.i64.wrap (8-(l:Int))=(k:Int):=by rw[IntKind.wrap_i64];omega
 have hk0:(0:Int)≤(k:Int):=by omega
 have hk8:(k:Int)≤8:=by omega
 have hl0:(0:Int)≤(l:Int):=by omega
 have hl8:(l:Int)≤8:=by omega
 obtain⟨n,hnn⟩:∃n,Hid (n=t.length):=⟨_,rfl⟩;have hn2:n≤8192:=by rw[hnn.out];exact hn
 rw[←hnn.out];clear hx hn;go_enter Tryz.func132,Tryz.ntmps132;go_wp2
 go_loopw [6,5] (fun s v wr=>∃p:Nat,p≤W∧s=.int .i64 p∧wr.ownsRow w.heap.size 3 1 v (sof t l p 0).length (pli (sof t l p 0) t)∧Below w.heap.size w wr) (fun s _ _=>W-(intOf s).toNat)
 case atStart=>exact⟨0,Nat.zero_le _,rfl,World.ownsRow_nil _ _ _ _,Below.refl _ _⟩
 case round=>
  obtain⟨p,hp,rfl,hown,hw⟩:=hrel;obtain⟨vo,vc,rfl,hvc, -⟩:=Ap.owns_shape hown;by_cases hlt:p<W
  ·have hlt2:(p:Int)<(W:Int):=by omega
   go_wp2;go_loopw [7,5] (fun s v wr=>∃i:Nat,i≤n∧s=.int .i64 i∧wr.ownsRow w.heap.size 3 1 v (sof t l p i).length (pli (sof t l p i) t)∧Below w.heap.size w wr) (fun s _ _=>n-(intOf s).toNat)
   case atStart=>exact⟨0,Nat.zero_le _,rfl,hown,hw⟩
   case round=>
    obtain⟨i,hi,rfl,jown,jw⟩:=hrel;clear hown hw hvc;obtain⟨uo,uc,rfl,huc, -⟩:=Ap.owns_shape jown;by_cases hin:i<n
    ·have hin2:(i:Int)<(n:Int):=by omega
     have hit:i<t.length:=by rw[←hnn.out];exact hin
     have sl:=sof_len t l p i hl hB (by omega) (by rw[←hW.out];exact hlt);rw[←hnn.out]at sl;obtain⟨b,off,rfl,hbl,hcc⟩:=HX.out (by omega);have e2:=(jw.cell (p:=⟨b,off+i,none⟩) hbl).trans (hcc i hit)
     have hc:=hB i;have es:=shr8 (gt t i) l;rw[hk]at es;obtain⟨H,hH⟩:∃H,Hid (H=Tw.hi l (gt t i)):=⟨_,rfl⟩;rw[←hH.out]at es;obtain⟨C,hC⟩:∃C,Hid (C=gt t i):=⟨_,rfl⟩;rw[←hC.out]at es hc e2
     clear hcc;by_cases hq:H=p
     ·have HP:=Hid.mkt (sof_yes t l p i (by rw[←hH.out];exact hq));subst hq;have bA:=below_alloc wr (.cells #[.int .i64 (i:Int)] 3);have own3:=Ap.owns_below jown bA
      have src3:(wr.alloc (.cells #[.int .i64 (i:Int)] 3)).cell? ⟨wr.heap.size,0,none⟩=some (.int .i64 (i:Int)):=(Cel.new wr [.int .i64 (i:Int)] 3).cell 0 rfl;have jw3:=bg jw bA
      have g3:w.heap.size≤(wr.alloc (.cells #[.int .i64 (i:Int)] 3)).heap.size:=jw3.size;obtain⟨L,hL⟩:∃L,Hid (L=sof t l H i):=⟨_,rfl⟩;rw[←hL.out]at own3 HP sl⊢
      go_wp2_with (at_builtin;refine Ap.wpList_append_u rfl _ _ 35 rfl w.heap.size 3 i3 (.int .i64 0) 8 Tryz.underlying35 hi3 za3 zb3 zc3 rfl (.slice uo L.length uc) L.length (pli L t) rfl own3 (some ⟨wr.heap.size,0,none⟩) 1 1 [.int .i64 (i:Int)] rfl rfl ?d1 ?d2 ?d3 ?d4 ?d5 ?_)
      case d1=>exact fun _=>⟨_,rfl,fun j u hj=>by
       match j,hj with
       | 0,hj=>simp at hj;subst hj;exact src3⟩
      case d2=>intro u hu;simp at hu;subst hu;rfl
      case d3=>unfold maxLen;omega
      case d4=>omega
      case d5=>exact g3
      intro so sc w4 own4 hle4 hB4;have HO:=Hid.mkt (And.intro own4 (jw3.trans hB4));clear own4 own3 jown hB4 jw3 jw bA src3 g3;go_wp2;refine⟨⟨i+1,by omega,by go_num,?_,HO.out.2⟩,by simp only[intOf];omega⟩
      rw[HP.out,List.length_append,←pli_snoc];exact HO.out.1
     ·have HP:=Hid.mkt (sof_no t l p i (by rw[←hH.out];exact hq));have hq2:((H:Int)==(p:Int))=false:=by simp;omega
      have HO:=Hid.mkt (And.intro jown jw);clear jown jw;go_wp2;refine⟨⟨i+1,by omega,by go_num,?_,HO.out.2⟩,by simp only[intOf];omega⟩;rw[HP.out];exact HO.out.1
    ·obtain rfl:i=n:=by omega
     have HO:=Hid.mkt (And.intro jown jw);have E9:=Hid.mkt (sof_next t l p);rw[←hnn.out]at E9;clear jown jw;go_wp2;refine⟨⟨p+1,by omega,by go_num,?_,HO.out.2⟩,by simp only[intOf];omega⟩;rw[←E9.out]
     exact HO.out.1
  ·obtain rfl:p=W:=by omega
   have E9:=Hid.mkt (sof_all t l);rw[←hW.out]at E9;rw[E9.out]at hown;have HO:=Hid.mkt (And.intro hown hw);obtain⟨m,hm⟩:∃m,Hid (m=(Tw.plc t l).length):=⟨_,rfl⟩;rw[E9.out,←hm.out];rw[←hm.out]at HO
   clear hown hw hvc;go_wp2;go_ret;exact⟨_,rfl,by rw[hm.out]at HO⊢;exact HO.out.1,HO.out.2⟩
def plb(L:List Nat)(t:List Nat):List Value:=L.map fun x=>.int .u8 (gt t x:Nat)
theorem plb_snoc(L t:List Nat)(i:Nat):plb L t++[.int .u8 (gt t i:Nat)]=plb (L++[i]) t:=by simp[plb]
theorem rord_c(ao:Option Addr)(t:List Nat)(cap l:Nat)(w:World)(hx:Bd w ao t)(hB:Tw.Byt t)(hl:l≤8)(hn:t.length≤8192):
  Calls Tryz.prog 38 #[.slice ao t.length cap,.int .i64 l] w fun e w'=>∃v,e=.returned v∧w'.ownsRow w.heap.size 5 1 v (Tw.plc t l).length (plb (Tw.plc t l) t)∧Below w.heap.size w w':=by
 obtain⟨i3,hi3,za3,zb3,zc3⟩:=info_parts Tryz.info5;have HX:=Hid.mkt hx;have hpw:(2:Nat)^l≤256:=Nat.le_trans (Nat.pow_le_pow_right (by decide) hl) (by decide);have sh:=shl1 l hl
 obtain⟨W,hW⟩:∃W:Nat,Hid (W=(2:Nat)^l):=⟨_,rfl⟩;rw[←hW.out]at sh hpw;obtain⟨k,hk⟩:∃k,8-l=k:=⟨_,rfl⟩;have mk:IntKind.i64.wrap (8-(l:Int))=(k:Int):=by rw[IntKind.wrap_i64];omega
 have hk0:(0:Int)≤(k:Int):=by omega
 have hk8:(k:Int)≤8:=by omega
 have hl0:(0:Int)≤(l:Int):=by omega
 have hl8:(l:Int)≤8:=by omega
 obtain⟨n,hnn⟩:∃n,Hid (n=t.length):=⟨_,rfl⟩;have hn2:n≤8192:=by rw[hnn.out];exact hn
 rw[←hnn.out];clear hx hn;go_enter Tryz.func38,Tryz.ntmps38;go_wp2
 go_loopw [6,5] (fun s v wr=>∃p:Nat,p≤W∧s=.int .i64 p∧wr.ownsRow w.heap.size 5 1 v (sof t l p 0).length (plb (sof t l p 0) t)∧Below w.heap.size w wr) (fun s _ _=>W-(intOf s).toNat)
 case atStart=>exact⟨0,Nat.zero_le _,rfl,World.ownsRow_nil _ _ _ _,Below.refl _ _⟩
 case round=>
  obtain⟨p,hp,rfl,hown,hw⟩:=hrel;obtain⟨vo,vc,rfl,hvc, -⟩:=Ap.owns_shape hown;by_cases hlt:p<W
  ·have hlt2:(p:Int)<(W:Int):=by omega
   go_wp2;go_loopw [7,5] (fun s v wr=>∃i:Nat,i≤n∧s=.int .i64 i∧wr.ownsRow w.heap.size 5 1 v (sof t l p i).length (plb (sof t l p i) t)∧Below w.heap.size w wr) (fun s _ _=>n-(intOf s).toNat)
   case atStart=>exact⟨0,Nat.zero_le _,rfl,hown,hw⟩
   case round=>
    obtain⟨i,hi,rfl,jown,jw⟩:=hrel;clear hown hw hvc;obtain⟨uo,uc,rfl,huc, -⟩:=Ap.owns_shape jown;by_cases hin:i<n
    ·have hin2:(i:Int)<(n:Int):=by omega
     have hit:i<t.length:=by rw[←hnn.out];exact hin
     have sl:=sof_len t l p i hl hB (by omega) (by rw[←hW.out];exact hlt);rw[←hnn.out]at sl;obtain⟨b,off,rfl,hbl,hcc⟩:=HX.out (by omega);have e2:=(jw.cell (p:=⟨b,off+i,none⟩) hbl).trans (hcc i hit)
     have hc:=hB i;have es:=shr8 (gt t i) l;rw[hk]at es;obtain⟨H,hH⟩:∃H,Hid (H=Tw.hi l (gt t i)):=⟨_,rfl⟩;rw[←hH.out]at es;obtain⟨C,hC⟩:∃C,Hid (C=gt t i):=⟨_,rfl⟩;rw[←hC.out]at es hc e2
     clear hcc;by_cases hq:H=p
     ·have HP:=Hid.mkt (sof_yes t l p i (by rw[←hH.out];exact hq));subst hq;have bA:=below_alloc wr (.cells #[.int .u8 (C:Int)] 5);have own3:=Ap.owns_below jown bA
      have src3:(wr.alloc (.cells #[.int .u8 (C:Int)] 5)).cell? ⟨wr.heap.size,0,none⟩=some (.int .u8 (C:Int)):=(Cel.new wr [.int .u8 (C:Int)] 5).cell 0 rfl;have jw3:=bg jw bA
      have g3:w.heap.size≤(wr.alloc (.cells #[.int .u8 (C:Int)] 5)).heap.size:=jw3.size;obtain⟨L,hL⟩:∃L,Hid (L=sof t l H i):=⟨_,rfl⟩;rw[←hL.out]at own3 HP sl⊢
      go_wp2_with (at_builtin;refine Ap.wpList_append_u rfl _ _ 22 rfl w.heap.size 5 i3 (.int .u8 0) 1 Tryz.underlying22 hi3 za3 zb3 zc3 rfl (.slice uo L.length uc) L.length (plb L t) rfl own3 (some ⟨wr.heap.size,0,none⟩) 1 1 [.int .u8 (C:Int)] rfl rfl ?d1 ?d2 ?d3 ?d4 ?d5 ?_)
      case d1=>exact fun _=>⟨_,rfl,fun j u hj=>by
       match j,hj with
       | 0,hj=>simp at hj;subst hj;exact src3⟩
      case d2=>intro u hu;simp at hu;subst hu;rfl
      case d3=>unfold maxLen;omega
      case d4=>omega
      case d5=>exact g3
      intro so sc w4 own4 hle4 hB4;have HO:=Hid.mkt (And.intro own4 (jw3.trans hB4));clear own4 own3 jown hB4 jw3 jw bA src3 g3;go_wp2;refine⟨⟨i+1,by omega,by go_num,?_,HO.out.2⟩,by simp only[intOf];omega⟩
      rw[HP.out,List.length_append,←plb_snoc,←hC.out];exact HO.out.1
     ·have HP:=Hid.mkt (sof_no t l p i (by rw[←hH.out];exact hq));have hq2:((H:Int)==(p:Int))=false:=by simp;omega
      have HO:=Hid.mkt (And.intro jown jw);clear jown jw;go_wp2;refine⟨⟨i+1,by omega,by go_num,?_,HO.out.2⟩,by simp only[intOf];omega⟩;rw[HP.out];exact HO.out.1
    ·obtain rfl:i=n:=by omega
     have HO:=Hid.mkt (And.intro jown jw);have E9:=Hid.mkt (sof_next t l p);rw[←hnn.out]at E9;clear jown jw;go_wp2;refine⟨⟨p+1,by omega,by go_num,?_,HO.out.2⟩,by simp only[intOf];omega⟩;rw[←E9.out]
     exact HO.out.1
  ·obtain rfl:p=W:=by omega
   have E9:=Hid.mkt (sof_all t l);rw[←hW.out]at E9;rw[E9.out]at hown;have HO:=Hid.mkt (And.intro hown hw);obtain⟨m,hm⟩:∃m,Hid (m=(Tw.plc t l).length):=⟨_,rfl⟩;rw[E9.out,←hm.out];rw[←hm.out]at HO
   clear hown hw hvc;go_wp2;go_ret;exact⟨_,rfl,by rw[hm.out]at HO⊢;exact HO.out.1,HO.out.2⟩
theorem p7whole_k(cs:List Value)(a:RA7)(w:World)(h:KI7 w cs a):
  Calls Tryz.prog 57 #[.agg cs.toArray] w fun e w'=>∃bo bc,e=.returned (.tuple #[.agg #[.int .i64 (kBN7 a),.slice bo (kBX7 a).length bc],.bool (kOk7 a)])∧Wd w' bo (kBX7 a)∧(kBX7 a).length≤bc∧Below w.heap.size w w':=by
 obtain⟨⟨ao,cap,so,sc,tO,tc,rfl,h⟩,xl,sl,tl⟩:=h;refine mr (rwhole_c a.N ao a.xs cap so a.S sc tO a.T tc w h.x h.f h.c h.s sl h.t tl) fun w' hb=>?_
 exact⟨_,_,rfl,(pi_wd a.N a.S a.T h.x).keep hb,pi_cap a.N a.xs a.S a.T cap h.c,hb⟩
theorem p7size_k(cs:List Value)(a:RA7)(w:World)(h:KI7 w cs a):
  Qq 77 #[.agg cs.toArray] w (.int .i64 (kZ7 a)):=by
 obtain⟨⟨ao,cap,so,sc,tO,tc,rfl,h⟩,xl,sl,tl⟩:=h;exact rsize_c a.N ao a.xs cap so a.S sc tO a.T tc w h.x h.f h.c h.s sl h.t tl
theorem p7build_k(N:Int)(ao:Option Addr)(xs:List Nat)(cap:Nat)(w:World)(hN:I64 N)(hx:Wd w ao xs)(hf:Fit xs)(hcap:xs.length≤cap)(hl:xs.length≤1048576):
  Calls Tryz.prog 69 #[.agg #[.int .i64 N,.slice ao xs.length cap]] w fun e w'=>∃cs:List Value,e=.returned (.tuple #[.agg cs.toArray,.int .i64 (kE7 N xs)])∧KI7 w' cs (kB7 N xs)∧NF w.heap.size 2 cs∧Below w.heap.size w w':=by
 refine(rbuild_c N ao xs cap w hx hf hcap).mono ?_;rintro e w' ⟨bo,bc,so,sc,tO,tc,rfl,ho,hb⟩;exact⟨_,rfl,ho.ki N xs hN hf hl,nf_mk ho.sn ho.tn,hb⟩
def ROut(o:Option (List Nat))(w:World)(e:Ending)(w':World):Prop:=
 match o with
 | none=>e=.returned (.tuple #[.slice none 0 0,.bool false])∧Below w.heap.size w w'
 | some l=>∃so sc,e=.returned (.tuple #[.slice so l.length sc,.bool true])∧Nd w' so (lz l)∧l.length≤sc∧Below w.heap.size w w'
theorem fRow_bad(a:FA)(h:¬((0≤a.N∧a.N≤1048576∧0≤a.M∧a.M≤a.N)∧ichk a.k a.V a.LM a.xs=true∧chk a.H a.ys=true∧((plc (bitAt a.ys) a.H.toNat).length:Int)=a.M∧(wdF a.N.toNat a.M.toNat=0∨(((List.range a.k.toNat).map (numAt a.V.toNat a.xs)).length:Int)=a.M))):fRow a=none:=by
 unfold fRow;exact if_neg h
theorem row9_bad(N M k V LM H:Int)(ao:Option Addr)(xs:List Nat)(cap:Nat)(qo:Option Addr)(ys:List Nat)(dap:Nat)(w:World)(hx:Wd w ao xs)(fx:Fit xs)(hy:Wd w qo ys)(fy:Fit ys)(h:¬((0≤N∧N≤1048576∧0≤M∧M≤N)∧ichk k V LM xs=true∧chk H ys=true)):
  Calls Tryz.prog 111 #[.agg #[.int .i64 N,.int .i64 M,.int .i64 k,.int .i64 V,.int .i64 LM,.slice ao xs.length cap,.int .i64 H,.slice qo ys.length dap]] w (ROut none w):=by
 unfold ROut
 have C1:Hid (Qz w 108 #[.agg #[.int .i64 k,.int .i64 V,.int .i64 LM,.slice ao xs.length cap]] (.bool (ichk k V LM xs))):=fun w0 hb=>irefcheck_c k V LM ao xs cap w0 (hx.keep hb) fx
 have C2:Hid (Qz w 30 #[.agg #[.int .i64 H,.slice qo ys.length dap]] (.bool (chk H ys))):=fun w0 hb=>refcheck_c H qo ys dap w0 (hy.keep hb) fy
 obtain⟨W,hW⟩:∃W,W=w.alloc (.cells #[.int .i64 N,.int .i64 M,.int .i64 k,.int .i64 V,.int .i64 LM,.slice ao xs.length cap,.int .i64 H,.slice qo ys.length dap] 43):=⟨_,rfl⟩;have bW:=yb1 hW;have B1:=yc1 hW
 clear hx hy fx fy;by_cases n0:N<0
 ·clear C1 C2 h;go_enter Tryz.func111,Tryz.ntmps111;go_wp2;go_ret2;rw[←hW];exact⟨rfl,bW⟩
 by_cases n1:1048576<N
 ·clear C1 C2 h;go_enter Tryz.func111,Tryz.ntmps111;go_wp2;go_ret2;rw[←hW];exact⟨rfl,bW⟩
 by_cases m0:M<0
 ·clear C1 C2 h;go_enter Tryz.func111,Tryz.ntmps111;go_wp2;go_ret2;rw[←hW];exact⟨rfl,bW⟩
 by_cases m1:N<M
 ·clear C1 C2 h;go_enter Tryz.func111,Tryz.ntmps111;go_wp2;go_ret2;rw[←hW];exact⟨rfl,bW⟩
 cases hk:ichk k V LM xs with
 | false=>
  rw[hk]at C1;clear C2 h hk;go_enter Tryz.func111,Tryz.ntmps111;go_wp2_with fail;rw[←hW];refine mr (C1.out _ bW) fun w1 hb=>?_;have bw1:=bg bW hb;clear hW hb;go_wp2;go_ret2;exact⟨rfl,bw1⟩
 | true=>
  have hc:chk H ys=false:=by
   cases hc:chk H ys with
   | false=>rfl
   | true=>exact absurd ⟨by omega,hk,hc⟩ h
  rw[hk]at C1;rw[hc]at C2;clear h hk hc;go_enter Tryz.func111,Tryz.ntmps111;go_wp2_with fail;rw[←hW];refine mr (C1.out _ bW) fun w1 hb=>?_;have bw1:=bg bW hb;replace B1:=B1.kept hb
  have q6:=B1.cell 6 rfl;have q7:=B1.cell 7 rfl;clear hW hb;go_wp2_with fail;refine mr (C2.out _ bw1) fun w2 hb=>?_;have bw2:=bg bw1 hb;clear hb;go_wp2;go_ret2;exact⟨rfl,bw2⟩
theorem hide9{p:Prop}(h:p):Hid p:=h
theorem sum9(DD y p:Nat)(h:p=DD+y):(DD:Int)+(y:Int)=(p:Int):=by omega
theorem le9(DD y p:Nat)(h:p=DD+y)(h1:DD≤1099511627776)(h2:y<1048576):p≤1099512676352:=by omega
theorem row9_main(n mm kn vn hh:Nat)(LM:Int)(ao:Option Addr)(xs:List Nat)(cap:Nat)(qo:Option Addr)(ys:List Nat)(dap:Nat)(w:World)(hx:Wd w ao xs)(fx:Fit xs)(hy:Wd w qo ys)(fy:Fit ys)(hn:n≤1048576)(hmn:mm≤n)(ik:ichk (kn:Int) (vn:Int) LM xs=true)(ck:chk (hh:Int) ys=true):
  Calls Tryz.prog 111 #[.agg #[.int .i64 (n:Nat),.int .i64 (mm:Nat),.int .i64 (kn:Nat),.int .i64 (vn:Nat),.int .i64 LM,.slice ao xs.length cap,.int .i64 (hh:Nat),.slice qo ys.length dap]] w (ROut (fRow ⟨n,mm,kn,vn,LM,xs,hh,ys⟩) w):=by
 obtain⟨i3,hi3,za3,zb3,zc3⟩:=info_parts info3_9;obtain⟨_,_,_,_,_,_,lm1,knl⟩:=ichk_out _ _ _ _ ik;obtain⟨_,hhl,_,_⟩:=chk_out _ _ ck
 have C1:Hid (Qz w 108 #[.agg #[.int .i64 (kn:Nat),.int .i64 (vn:Nat),.int .i64 LM,.slice ao xs.length cap]] (.bool true)):=fun w0 hb=>by
  have:=irefcheck_c kn vn LM ao xs cap w0 (hx.keep hb) fx;rw[ik]at this;exact this
 have C2:Hid (Qz w 30 #[.agg #[.int .i64 (hh:Nat),.slice qo ys.length dap]] (.bool true)):=fun w0 hb=>by
  have:=refcheck_c hh qo ys dap w0 (hy.keep hb) fy;rw[ck]at this;exact this
 have C3:Hid (∀w0,Qq 172 #[.int .i64 (n:Nat),.int .i64 (mm:Nat)] w0 (.int .i64 (wdF n mm:Nat))):=fun w0=>f9width_c n mm hn hmn w0
 have C4:Hid (∀w0,Below w.heap.size w w0→Calls Tryz.prog 166 #[.agg #[.int .i64 (kn:Nat),.int .i64 (vn:Nat),.int .i64 LM,.slice ao xs.length cap]] w0 fun e w'=>∃lo' lc,e=.returned (.slice lo' kn lc)∧Wd w' lo' ((List.range kn).map (numAt vn xs))∧Below w0.heap.size w0 w'):=fun w0 hb=>by
  refine(reflist_ok LM kn vn ao xs cap w0 (hx.keep hb) fx ik).mono ?_;rintro e w' ⟨v,rfl,ho,hb2⟩;obtain⟨lo',lc,rfl,_,_⟩:=Ap.owns_shape ho;exact⟨lo',lc,rfl,wd_own9 ho,hb2⟩
 have C5:Hid (∀w0,Below w.heap.size w w0→Calls Tryz.prog 128 #[.agg #[.int .i64 (hh:Nat),.slice qo ys.length dap]] w0 fun e w'=>∃ho' hc,e=.returned (.slice ho' (plc (bitAt ys) hh).length hc)∧Nd w' ho' (lz (plc (bitAt ys) hh))∧Below w0.heap.size w0 w'):=fun w0 hb=>by
  refine(places_c hh qo ys dap w0 (hy.keep hb) ck).mono ?_;rintro e w' ⟨v,rfl,ho,hb2⟩;obtain⟨ho',hc,rfl,_,_⟩:=Ap.owns_shape ho;exact⟨ho',hc,rfl,nd_own9 ho,hb2⟩
 have HR:Hid (fRow ⟨n,mm,kn,vn,LM,xs,hh,ys⟩=if ((plc (bitAt ys) hh).length=mm)∧(wdF n mm=0∨kn=mm)then fdec n (wdF n mm) ((List.range kn).map (numAt vn xs)) (plc (bitAt ys) hh) (plc (bitAt ys) hh).length else none):=by
  show fRow _=_;unfold fRow;simp only[Int.toNat_natCast,List.length_map,List.length_range];by_cases c:(plc (bitAt ys) hh).length=mm∧(wdF n mm=0∨kn=mm)
  ·rw[if_pos c,if_pos ⟨⟨by omega,by omega,by omega,by omega⟩,ik,ck,by omega,by omega⟩]
  ·rw[if_neg c,if_neg (fun h=>c ⟨by omega,by omega⟩)]
 have RS:=plc_rise (bitAt ys) hh;have w20:wdF n mm≤20:=wdF_le n mm (by omega)
 have fL:Fit ((List.range kn).map (numAt vn xs)):=by
  obtain⟨_,v64,_⟩:=ichk_out _ _ _ _ ik;exact fit_map _ _ fun i=>numAt_lt vn (by omega) xs i
 have lL:((List.range kn).map (numAt vn xs)).length=kn:=by simp
 rw[HR.out]
 obtain⟨OO,hOO⟩:∃OO,Hid (OO=if ((plc (bitAt ys) hh).length=mm)∧(wdF n mm=0∨kn=mm)then fdec n (wdF n mm) ((List.range kn).map (numAt vn xs)) (plc (bitAt ys) hh) (plc (bitAt ys) hh).length else none):=⟨_,rfl⟩
 rw[←hOO.out]
 obtain⟨W,hW⟩:∃W,W=w.alloc (.cells #[.int .i64 (n:Nat),.int .i64 (mm:Nat),.int .i64 (kn:Nat),.int .i64 (vn:Nat),.int .i64 LM,.slice ao xs.length cap,.int .i64 (hh:Nat),.slice qo ys.length dap] 43):=⟨_,rfl⟩
 have bW:=yb1 hW;have B1:=yc1 hW;have i1:¬(n:Int)<0:=by omega
 have i2:¬(1048576:Int)<(n:Int):=by omega
 have i4:¬(mm:Int)<0:=by omega
 have i5:¬(n:Int)<(mm:Int):=by omega
 clear hx hy fx fy ik ck HR;generalize (List.range kn).map (numAt vn xs)=lo at *;generalize plc (bitAt ys) hh=hi at *;generalize wdF n mm=v at *;go_enter Tryz.func111,Tryz.ntmps111;go_wp2_with fail;rw[←hW]
 refine mr (C1.out _ bW) fun w1 hb=>?_;have bw1:=bg bW hb;replace B1:=B1.kept hb;have q0:=B1.cell 0 rfl;have q1:=B1.cell 1 rfl;have q2:=B1.cell 2 rfl;have q3:=B1.cell 3 rfl
 have q4:=B1.cell 4 rfl;have q5:=B1.cell 5 rfl;have q6:=B1.cell 6 rfl;have q7:=B1.cell 7 rfl;clear hb hW bW C1;go_wp2_with fail;refine mr (C2.out _ bw1) fun w2 hb=>?_;have bw2:=bg bw1 hb
 replace B1:=B1.kept hb;clear hb bw1 C2 q0 q1 q2 q3 q4 q5 q6 q7;have q0:=B1.cell 0 rfl;have q1:=B1.cell 1 rfl;have q2:=B1.cell 2 rfl;have q3:=B1.cell 3 rfl;have q4:=B1.cell 4 rfl;have q5:=B1.cell 5 rfl
 have q6:=B1.cell 6 rfl;have q7:=B1.cell 7 rfl;go_wp2_with fail;refine mr (C3.out _) fun w3 hb=>?_;have bw3:=bg bw2 hb;replace B1:=B1.kept hb;clear hb bw2 C3 q0 q1 q2 q3 q4 q5 q6 q7
 have q0:=B1.cell 0 rfl;have q1:=B1.cell 1 rfl;have q2:=B1.cell 2 rfl;have q3:=B1.cell 3 rfl;have q4:=B1.cell 4 rfl;have q5:=B1.cell 5 rfl;have q6:=B1.cell 6 rfl;have q7:=B1.cell 7 rfl;go_wp2_with fail
 refine(C4.out _ bw3).mono ?_;rintro e w4 ⟨lo',lc,rfl,hLo,hb⟩;have bw4:=bg bw3 hb;replace B1:=B1.kept hb;clear hb bw3 C4 q0 q1 q2 q3 q4 q5 q6 q7;have q0:=B1.cell 0 rfl;have q1:=B1.cell 1 rfl
 have q2:=B1.cell 2 rfl;have q3:=B1.cell 3 rfl;have q4:=B1.cell 4 rfl;have q5:=B1.cell 5 rfl;have q6:=B1.cell 6 rfl;have q7:=B1.cell 7 rfl;go_wp2_with fail;refine(C5.out _ bw4).mono ?_
 rintro e w5 ⟨ho',hc,rfl,hHi,hb⟩;have bw5:=bg bw4 hb;replace B1:=B1.kept hb;replace hLo:=hLo.keep hb;clear hb bw4 C5 q0 q1 q2 q3 q4 q5 q6 q7;have q1:=B1.cell 1 rfl;by_cases e1:hi.length=mm
 ·have e12:((hi.length:Int) != (mm:Int))=false:=by simp[e1]
  by_cases e2:v=0∨kn=mm
  ·have HO:Hid (OO=fdec n v lo hi hi.length):=by
    show OO=_;rw[hOO.out,if_pos ⟨e1,e2⟩]
   clear hOO;have z5:=bw5.size;subst e1;have vv:(v:Int)<64:=by omega
   by_cases hv0:v=0
   ·have nv1:¬(0:Int)<(v:Int):=by omega
    have PV:Hid (∀q,fpl v lo hi q=gt hi q-q):=fun q=>by unfold fpl;rw[hv0];simp
    go_wp2
    go_loopw [7,8] (fun t i wr=>∃(q:Nat) (out:List Nat) (so:Option Addr) (sc:Nat),q≤hi.length∧i=.int .i64 q∧t=.slice so q sc∧q≤sc∧Hid (fdec n v lo hi q=some out)∧wr.ownsRow w5.heap.size 3 1 (.slice so q sc) q (lv out)∧Below w5.heap.size w5 wr) (fun _ i _=>hi.length-(intOf i).toNat)
    case atStart=>exact⟨0,[],none,0,Nat.zero_le _,rfl,rfl,Nat.le_refl _,rfl,World.ownsRow_nil _ _ _ _,Below.refl _ _⟩
    case round=>
     obtain⟨q,out,so,sc,hq,rfl,rfl,hsc,HD,hown,hwr⟩:=hrel;obtain⟨lo_,hrise⟩:=fdec_len n v lo hi q out HD.out;by_cases hlt:q<hi.length
     ·have hlt2:(q:Int)<(hi.length:Int):=by omega
      obtain⟨b,off,rfl,hbl,hcel⟩:=hHi (by rw[length_lz];omega);have cq:=(hwr.cell (p:=⟨b,off+q,none⟩) hbl).trans (hcel q (by rw[length_lz];exact hlt));rw[gi_lz]at cq;have hge:=RS.step q 0 (by omega)
      rw[Nat.zero_add]at hge;have hll:=RS.1 q hlt;obtain⟨d,hd⟩:∃d,Hid (d=gt hi q-q):=⟨_,rfl⟩;have hd2:(gt hi q:Int)-(q:Int)=(d:Int):=by rw[hd.out];omega
      have dl:d≤1048576:=by rw[hd.out];omega
      have n0:=(B1.kept hwr).cell 0 rfl;have PQ:=PV.out q;obtain⟨p,hp⟩:∃p,Hid (p=fpl v lo hi q):=⟨_,rfl⟩;have hpd:p=d:=by rw[hp.out,PQ,hd.out]
      have FS:Hid (fdec n v lo hi (q+1)=if n≤p∨(0<q∧p≤gt out (q-1))then none else some (out++[p])):=by
       show fdec n v lo hi (q+1)=_;rw[fdec,HD.out,hp.out]
      have FN:Hid (fdec n v lo hi (q+1)=none→OO=none):=fun h=>by
       rw[HO.out];have:=fdec_none n v lo hi (q+1) h (hi.length-(q+1));rwa [show q+1+(hi.length-(q+1))=hi.length by omega]at this
      have bwr:=bw5.trans (hwr.mono z5);subst hpd;clear hd PQ;by_cases a1:n≤p
      ·obtain rfl:OO=none:=FN.out (by rw[FS.out,if_pos (.inl a1)]);have a12:(n:Int)≤(p:Int):=by omega
       go_wp2;go_ret2;exact(show ROut none w _ _ from⟨rfl,bwr⟩)
      ·have a12:¬(n:Int)≤(p:Int):=by omega
       by_cases a2:0<q
       ·have a22:(0:Int)<(q:Int):=by omega
        have nd:=nd_own9 hown;obtain⟨b2,off2,rfl,hbl2,hcel2⟩:=nd (by rw[length_lz];omega);have co:=hcel2 (q-1) (by rw[length_lz];omega);rw[gi_lz]at co
        have q11:(q:Int)-1=((q-1:Nat):Int):=by omega
        have q12:(((q-1:Nat):Nat):Int)<(q:Int):=by omega
        by_cases a3:p≤gt out (q-1)
        ·obtain rfl:OO=none:=FN.out (by rw[FS.out,if_pos (.inr ⟨a2,a3⟩)]);have a32:(p:Int)≤(gt out (q-1):Int):=by omega
         go_wp2;go_ret2;exact(show ROut none w _ _ from⟨rfl,bwr⟩)
        ·have a32:¬(p:Int)≤(gt out (q-1):Int):=by omega
         have HD2:Hid (fdec n v lo hi (q+1)=some (out++[p])):=by
          show fdec n v lo hi (q+1)=_;rw[FS.out,if_neg (by omega)]
         have hq5:=hwr.size
         go_wp2_with (at_builtin;refine Ap.wpList_append_x (by rfl) _ _ _ (by rfl) w5.heap.size 3 i3 (.int .i64 0) 8 Tryz.underlying35 hi3 za3 zb3 zc3 rfl (.slice (some ⟨b2,off2,none⟩) q sc) q (lv out) (by rfl) (hown.alloc _) (some ⟨wr.heap.size,0,none⟩) 1 1 [.int .i64 (p:Nat)] (by rfl) rfl ?c1_11 ?c2_11 ?c3_11 ?c4_11 ?c5_11 ?_)
         case c2_11=>first | rfl | (intro u hu;simp at hu;subst hu;rfl)
         case c3_11=>unfold maxLen;omega
         case c4_11=>omega
         case c5_11=>first | omega | (simp;omega)
         intro so2 sc2 w9 own9 hle9 hB9 hblk9 hkeep9 hsz9;rw[lv_snoc]at own9;have hw9:Below w5.heap.size w5 w9:=(hwr.trans ((below_alloc wr _).mono hwr.size)).trans hB9;have HX:=hide9 own9
         clear own9 hB9 hblk9 hkeep9 hown FS FN HO hcel B1 bwr;go_wp2;exact⟨⟨q+1,out++[p],so2,sc2,by omega,by go_num,rfl,hle9,HD2,HX.out,hw9⟩,by simp only[intOf];omega⟩
       ·have a22:¬(0:Int)<(q:Int):=by omega
        have HD2:Hid (fdec n v lo hi (q+1)=some (out++[p])):=by
         show fdec n v lo hi (q+1)=_;rw[FS.out,if_neg (by omega)]
        have hq5:=hwr.size
        go_wp2_with (at_builtin;refine Ap.wpList_append_x (by rfl) _ _ _ (by rfl) w5.heap.size 3 i3 (.int .i64 0) 8 Tryz.underlying35 hi3 za3 zb3 zc3 rfl (.slice so q sc) q (lv out) (by rfl) (hown.alloc _) (some ⟨wr.heap.size,0,none⟩) 1 1 [.int .i64 (p:Nat)] (by rfl) rfl ?c1_21 ?c2_21 ?c3_21 ?c4_21 ?c5_21 ?_)
        case c2_21=>first | rfl | (intro u hu;simp at hu;subst hu;rfl)
        case c3_21=>unfold maxLen;omega
        case c4_21=>omega
        case c5_21=>first | omega | (simp;omega)
        intro so2 sc2 w9 own9 hle9 hB9 hblk9 hkeep9 hsz9;rw[lv_snoc]at own9;have hw9:Below w5.heap.size w5 w9:=(hwr.trans ((below_alloc wr _).mono hwr.size)).trans hB9;have HX:=hide9 own9
        clear own9 hB9 hblk9 hkeep9 hown FS FN HO hcel B1 bwr;go_wp2;exact⟨⟨q+1,out++[p],so2,sc2,by omega,by go_num,rfl,hle9,HD2,HX.out,hw9⟩,by simp only[intOf];omega⟩
     ·obtain rfl:q=hi.length:=by omega
      have HO2:OO=some out:=HO.out.trans HD.out;subst HO2;have nd:=nd_own9 hown;have bwr:=bw5.trans (hwr.mono z5);go_wp2;go_ret2;exact(show ROut (some out) w _ _ from⟨so,sc,by rw[lo_];rfl,nd,by omega,bwr⟩)
   ·have nv1:(0:Int)<(v:Int):=by omega
    have e4:((kn:Int) != (hi.length:Int))=false:=by simp;omega
    have hkn:kn=hi.length:=by omega
    have PV:Hid (∀q,fpl v lo hi q=(gt hi q-q)*2^v+gt lo q%2^v):=fun q=>by unfold fpl;rw[if_neg hv0]
    go_wp2
    go_loopw [7,8] (fun t i wr=>∃(q:Nat) (out:List Nat) (so:Option Addr) (sc:Nat),q≤hi.length∧i=.int .i64 q∧t=.slice so q sc∧q≤sc∧Hid (fdec n v lo hi q=some out)∧wr.ownsRow w5.heap.size 3 1 (.slice so q sc) q (lv out)∧Below w5.heap.size w5 wr) (fun _ i _=>hi.length-(intOf i).toNat)
    case atStart=>exact⟨0,[],none,0,Nat.zero_le _,rfl,rfl,Nat.le_refl _,rfl,World.ownsRow_nil _ _ _ _,Below.refl _ _⟩
    case round=>
     obtain⟨q,out,so,sc,hq,rfl,rfl,hsc,HD,hown,hwr⟩:=hrel;obtain⟨lo_,hrise⟩:=fdec_len n v lo hi q out HD.out;by_cases hlt:q<hi.length
     ·have hlt2:(q:Int)<(hi.length:Int):=by omega
      obtain⟨b,off,rfl,hbl,hcel⟩:=hHi (by rw[length_lz];omega);have cq:=(hwr.cell (p:=⟨b,off+q,none⟩) hbl).trans (hcel q (by rw[length_lz];exact hlt));rw[gi_lz]at cq;have hge:=RS.step q 0 (by omega)
      rw[Nat.zero_add]at hge;have hll:=RS.1 q hlt;obtain⟨d,hd⟩:∃d,Hid (d=gt hi q-q):=⟨_,rfl⟩;have hd2:(gt hi q:Int)-(q:Int)=(d:Int):=by rw[hd.out];omega
      have dl:d≤1048576:=by rw[hd.out];omega
      have n0:=(B1.kept hwr).cell 0 rfl;have PQ:=hide9 (PV.out q);obtain⟨p,hp⟩:∃p,Hid (p=fpl v lo hi q):=⟨_,rfl⟩;obtain⟨b3,off3,rfl,hbl3,hcel3⟩:=hLo (by omega)
      have cl:=(hwr.cell (p:=⟨b3,off3+q,none⟩) hbl3).trans (hcel3 q (by omega));have xl:=fL q;obtain⟨x,hx⟩:∃x,Hid (x=gt lo q):=⟨_,rfl⟩;rw[←hx.out]at cl xl
      obtain⟨P2,hP2⟩:∃P2:Nat,Hid ((2:Nat)^v=P2):=⟨2^v,(rfl:(2:Nat)^v=2^v)⟩;have p20:P2≤1048576:=by rw[←hP2.out];exact Nat.pow_le_pow_right (show 0<2 by decide) w20
      have p00:0<P2:=by rw[←hP2.out];exact Nat.two_pow_pos v
      have pw:IntKind.u64.wrap ((2:Int)^v)=(P2:Int):=by rw[Bit.shl_one v (by omega),hP2.out]
      have p0:((P2:Int)==0)=false:=by simp;omega
      obtain⟨y,hy_⟩:∃y,Hid (y=x%P2):=⟨_,rfl⟩;have yl:y<1048576:=by rw[hy_.out];exact Nat.lt_of_lt_of_le (Nat.mod_lt _ p00) p20
      have ym:(x:Int)%(P2:Int)=(y:Int):=by rw[hy_.out];omega
      have yt:(x:Int).tmod (P2:Int)=(y:Int):=by rw[Int.tmod_eq_emod_of_nonneg (by omega)];exact ym
      obtain⟨DD,hDD⟩:∃DD,Hid (DD=d*P2):=⟨_,rfl⟩;have dl2:DD≤1099511627776:=by rw[hDD.out];exact Nat.le_trans (Nat.mul_le_mul dl p20) (by decide)
      have dw:(d:Int)*2^v=(DD:Int):=by rw[hDD.out,←hP2.out,Int.natCast_mul,Int.natCast_pow];rfl
      have hpn:Hid (p=DD+y):=by
       show p=DD+y;rw[hDD.out,hy_.out,hp.out,PQ.out,hP2.out,hd.out,hx.out]
      have hps:=sum9 DD y p hpn.out;have pl2:=le9 DD y p hpn.out dl2 yl;clear hcel3
      have FS:Hid (fdec n v lo hi (q+1)=if n≤p∨(0<q∧p≤gt out (q-1))then none else some (out++[p])):=by
       show fdec n v lo hi (q+1)=_;rw[fdec,HD.out,hp.out]
      have FN:Hid (fdec n v lo hi (q+1)=none→OO=none):=fun h=>by
       rw[HO.out];have:=fdec_none n v lo hi (q+1) h (hi.length-(q+1));rwa [show q+1+(hi.length-(q+1))=hi.length by omega]at this
      have bwr:=bw5.trans (hwr.mono z5);clear hd PQ;by_cases a1:n≤p
      ·obtain rfl:OO=none:=FN.out (by rw[FS.out,if_pos (.inl a1)]);have a12:(n:Int)≤(p:Int):=by omega
       go_wp2;go_ret2;exact(show ROut none w _ _ from⟨rfl,bwr⟩)
      ·have a12:¬(n:Int)≤(p:Int):=by omega
       by_cases a2:0<q
       ·have a22:(0:Int)<(q:Int):=by omega
        have nd:=nd_own9 hown;obtain⟨b2,off2,rfl,hbl2,hcel2⟩:=nd (by rw[length_lz];omega);have co:=hcel2 (q-1) (by rw[length_lz];omega);rw[gi_lz]at co
        have q11:(q:Int)-1=((q-1:Nat):Int):=by omega
        have q12:(((q-1:Nat):Nat):Int)<(q:Int):=by omega
        by_cases a3:p≤gt out (q-1)
        ·obtain rfl:OO=none:=FN.out (by rw[FS.out,if_pos (.inr ⟨a2,a3⟩)]);have a32:(p:Int)≤(gt out (q-1):Int):=by omega
         go_wp2;go_ret2;exact(show ROut none w _ _ from⟨rfl,bwr⟩)
        ·have a32:¬(p:Int)≤(gt out (q-1):Int):=by omega
         have HD2:Hid (fdec n v lo hi (q+1)=some (out++[p])):=by
          show fdec n v lo hi (q+1)=_;rw[FS.out,if_neg (by omega)]
         have hq5:=hwr.size
         go_wp2_with (at_builtin;refine Ap.wpList_append_x (by rfl) _ _ _ (by rfl) w5.heap.size 3 i3 (.int .i64 0) 8 Tryz.underlying35 hi3 za3 zb3 zc3 rfl (.slice (some ⟨b2,off2,none⟩) q sc) q (lv out) (by rfl) (hown.alloc _) (some ⟨wr.heap.size,0,none⟩) 1 1 [.int .i64 (p:Nat)] (by rfl) rfl ?c1_11v ?c2_11v ?c3_11v ?c4_11v ?c5_11v ?_)
         case c2_11v=>first | rfl | (intro u hu;simp at hu;subst hu;rfl)
         case c3_11v=>unfold maxLen;omega
         case c4_11v=>omega
         case c5_11v=>first | omega | (simp;omega)
         intro so2 sc2 w9 own9 hle9 hB9 hblk9 hkeep9 hsz9;rw[lv_snoc]at own9;have hw9:Below w5.heap.size w5 w9:=(hwr.trans ((below_alloc wr _).mono hwr.size)).trans hB9;have HX:=hide9 own9
         clear own9 hB9 hblk9 hkeep9 hown FS FN HO hcel B1 bwr;go_wp2;exact⟨⟨q+1,out++[p],so2,sc2,by omega,by go_num,rfl,hle9,HD2,HX.out,hw9⟩,by simp only[intOf];omega⟩
       ·have a22:¬(0:Int)<(q:Int):=by omega
        have HD2:Hid (fdec n v lo hi (q+1)=some (out++[p])):=by
         show fdec n v lo hi (q+1)=_;rw[FS.out,if_neg (by omega)]
        have hq5:=hwr.size
        go_wp2_with (at_builtin;refine Ap.wpList_append_x (by rfl) _ _ _ (by rfl) w5.heap.size 3 i3 (.int .i64 0) 8 Tryz.underlying35 hi3 za3 zb3 zc3 rfl (.slice so q sc) q (lv out) (by rfl) (hown.alloc _) (some ⟨wr.heap.size,0,none⟩) 1 1 [.int .i64 (p:Nat)] (by rfl) rfl ?c1_21v ?c2_21v ?c3_21v ?c4_21v ?c5_21v ?_)
        case c2_21v=>first | rfl | (intro u hu;simp at hu;subst hu;rfl)
        case c3_21v=>unfold maxLen;omega
        case c4_21v=>omega
        case c5_21v=>first | omega | (simp;omega)
        intro so2 sc2 w9 own9 hle9 hB9 hblk9 hkeep9 hsz9;rw[lv_snoc]at own9;have hw9:Below w5.heap.size w5 w9:=(hwr.trans ((below_alloc wr _).mono hwr.size)).trans hB9;have HX:=hide9 own9
        clear own9 hB9 hblk9 hkeep9 hown FS FN HO hcel B1 bwr;go_wp2;exact⟨⟨q+1,out++[p],so2,sc2,by omega,by go_num,rfl,hle9,HD2,HX.out,hw9⟩,by simp only[intOf];omega⟩
     ·obtain rfl:q=hi.length:=by omega
      have HO2:OO=some out:=HO.out.trans HD.out;subst HO2;have nd:=nd_own9 hown;have bwr:=bw5.trans (hwr.mono z5);go_wp2;go_ret2;exact(show ROut (some out) w _ _ from⟨so,sc,by rw[lo_];rfl,nd,by omega,bwr⟩)
  ·obtain rfl:OO=none:=by rw[hOO.out,if_neg (fun c=>e2 c.2)]
   have e3:(0:Int)<(v:Int):=by omega
   have e4:((kn:Int) != (mm:Int))=true:=by simp;omega
   clear hOO;go_wp2;go_ret2;exact(show ROut none w _ _ from⟨rfl,bw5⟩)
 ·obtain rfl:OO=none:=by rw[hOO.out,if_neg (fun c=>e1 c.1)]
  have e12:((hi.length:Int) != (mm:Int))=true:=by simp;omega
  clear hOO;go_wp2;go_ret2;exact(show ROut none w _ _ from⟨rfl,bw5⟩)
theorem isame_c9(aN aW aM:Int)(ao:Option Addr)(ax:List Nat)(ac:Nat)(bN bW bM:Int)(bo:Option Addr)(bx:List Nat)(bc:Nat)(w:World)(hx:Wd w ao ax)(hy:Wd w bo bx)(hl:ax.length≤1048576):
  Qq 169 #[.agg #[.int .i64 aN,.int .i64 aW,.int .i64 aM,.slice ao ax.length ac],.agg #[.int .i64 bN,.int .i64 bW,.int .i64 bM,.slice bo bx.length bc]] w (.bool (decide (aN=bN)&&(decide (aW=bW)&&(decide (aM=bM)&&decide (ax=bx))))):=by
 obtain⟨W,hW⟩:∃W,W=(w.alloc (.cells #[.int .i64 aN,.int .i64 aW,.int .i64 aM,.slice ao ax.length ac] 39)).alloc (.cells #[.int .i64 bN,.int .i64 bW,.int .i64 bM,.slice bo bx.length bc] 39):=⟨_,rfl⟩
 have bZ:Below w.heap.size w W:=by rw[hW];exact(below_alloc w _).alloc (by simp) _
 have B1:=yc3 hW;have B2:=yc2 hW
 have C1:Hid (∀w0,w0=W→Qq 170 #[.agg #[.int .i64 aM,.slice ao ax.length ac],.agg #[.int .i64 bM,.slice bo bx.length bc]] w0 (.bool (decide (aM=bM)&&decide (ax=bx)))):=fun w0 h=>by subst h;exact same_c aM ao ax ac bM bo bx bc w0 (hx.keep bZ) (hy.keep bZ) hl
 generalize (decide (aM=bM)&&decide (ax=bx))=z at *;by_cases h1:aN=bN
 ·by_cases h2:aW=bW
  ·rw[decide_eq_true h1,decide_eq_true h2];subst h1 h2;go_enter Tryz.func169,Tryz.ntmps169;go_wp2_with fail;rw[←hW];refine mr (C1.out _ rfl) fun w1 hb=>?_;have bw:=bg bZ hb;go_wp2;go_ret
   exact⟨by cases z<;>rfl,bw⟩
  ·rw[decide_eq_true h1,decide_eq_false h2];have e2:(aW==bW)=false:=by simpa using h2
   subst h1
   have bw:Below w.heap.size w ((w.alloc (.cells #[.int .i64 aN,.int .i64 aW,.int .i64 aM,.slice ao ax.length ac] 39)).alloc (.cells #[.int .i64 aN,.int .i64 bW,.int .i64 bM,.slice bo bx.length bc] 39)):=(below_alloc w _).alloc (by simp) _
   clear C1 B1 B2 bZ hW W;go_enter Tryz.func169,Tryz.ntmps169;go_wp2;go_ret;exact⟨rfl,bw⟩
 ·rw[decide_eq_false h1];have e1:(aN==bN)=false:=by simpa using h1
  have bw:Below w.heap.size w ((w.alloc (.cells #[.int .i64 aN,.int .i64 aW,.int .i64 aM,.slice ao ax.length ac] 39)).alloc (.cells #[.int .i64 bN,.int .i64 bW,.int .i64 bM,.slice bo bx.length bc] 39)):=(below_alloc w _).alloc (by simp) _
  clear C1 B1 B2 bZ hW W;go_enter Tryz.func169,Tryz.ntmps169;go_wp2;go_ret;exact⟨rfl,bw⟩
theorem f9same_c(aN aM ak aV aL:Int)(ao:Option Addr)(ax:List Nat)(ac:Nat)(aH:Int)(aq:Option Addr)(ay:List Nat)(ad:Nat)(bN bM bk bV bL:Int)(bo:Option Addr)(bx:List Nat)(bc:Nat)(bH:Int)(bq:Option Addr)(by_:List Nat)(bd:Nat)(w:World)(hx:Wd w ao ax)(hbx:Wd w bo bx)(hy:Wd w aq ay)(hby:Wd w bq by_)(hl:ax.length≤1048576)(hly:ay.length≤1048576):
  Qq 113 #[.agg #[.int .i64 aN,.int .i64 aM,.int .i64 ak,.int .i64 aV,.int .i64 aL,.slice ao ax.length ac,.int .i64 aH,.slice aq ay.length ad],.agg #[.int .i64 bN,.int .i64 bM,.int .i64 bk,.int .i64 bV,.int .i64 bL,.slice bo bx.length bc,.int .i64 bH,.slice bq by_.length bd]] w (.bool (decide (aN=bN)&&(decide (aM=bM)&&((decide (ak=bk)&&(decide (aV=bV)&&(decide (aL=bL)&&decide (ax=bx))))&&(decide (aH=bH)&&decide (ay=by_)))))):=by
 obtain⟨W,hW⟩:∃W,W=(w.alloc (.cells #[.int .i64 aN,.int .i64 aM,.int .i64 ak,.int .i64 aV,.int .i64 aL,.slice ao ax.length ac,.int .i64 aH,.slice aq ay.length ad] 43)).alloc (.cells #[.int .i64 bN,.int .i64 bM,.int .i64 bk,.int .i64 bV,.int .i64 bL,.slice bo bx.length bc,.int .i64 bH,.slice bq by_.length bd] 43):=⟨_,rfl⟩
 have bZ:Below w.heap.size w W:=by rw[hW];exact(below_alloc w _).alloc (by simp) _
 have B1:=yc3 hW;have B2:=yc2 hW
 have C1:Hid (∀w0,w0=W→Qq 169 #[.agg #[.int .i64 ak,.int .i64 aV,.int .i64 aL,.slice ao ax.length ac],.agg #[.int .i64 bk,.int .i64 bV,.int .i64 bL,.slice bo bx.length bc]] w0 (.bool (decide (ak=bk)&&(decide (aV=bV)&&(decide (aL=bL)&&decide (ax=bx)))))):=fun w0 h=>by subst h;exact isame_c9 ak aV aL ao ax ac bk bV bL bo bx bc w0 (hx.keep bZ) (hbx.keep bZ) hl
 have C2:Hid (Qz w 170 #[.agg #[.int .i64 aH,.slice aq ay.length ad],.agg #[.int .i64 bH,.slice bq by_.length bd]] (.bool (decide (aH=bH)&&decide (ay=by_)))):=fun w0 h=>same_c aH aq ay ad bH bq by_ bd w0 (hy.keep h) (hby.keep h) hly
 generalize (decide (ak=bk)&&(decide (aV=bV)&&(decide (aL=bL)&&decide (ax=bx))))=z1 at *;generalize (decide (aH=bH)&&decide (ay=by_))=z2 at *;clear hx hbx hy hby;by_cases h1:aN=bN
 ·have e1:(aN==bN)=true:=by simpa using h1
  by_cases h2:aM=bM
  ·have e2:(aM==bM)=true:=by simpa using h2
   rw[decide_eq_true h1,decide_eq_true h2];clear h1 h2;go_enter Tryz.func113,Tryz.ntmps113;go_wp2_with fail;rw[←hW];refine mr (C1.out _ rfl) fun w1 hb=>?_;have bw:=bg bZ hb
   replace B1:=B1.kept hb;replace B2:=B2.kept hb;have p6:=B1.cell 6 rfl;have p7:=B1.cell 7 rfl;have q6:=B2.cell 6 rfl;have q7:=B2.cell 7 rfl;clear hb bZ hW C1;cases z1 with
   | false=>
    go_wp2;go_ret;exact⟨rfl,bw⟩
   | true=>
    go_wp2_with fail;refine mr (C2.out _ bw) fun w2 hb=>?_;have bw2:=bg bw hb;clear hb;go_wp2;go_ret;exact⟨by cases z2<;>rfl,bw2⟩
  ·have e2:(aM==bM)=false:=by simpa using h2
   rw[decide_eq_false h2];clear C1 C2 B1 B2 h1 h2;go_enter Tryz.func113,Tryz.ntmps113;go_wp2;go_ret;rw[←hW];exact⟨by simp,bZ⟩
 ·have e1:(aN==bN)=false:=by simpa using h1
  rw[decide_eq_false h1];clear C1 C2 B1 B2 h1;go_enter Tryz.func113,Tryz.ntmps113;go_wp2;go_ret;rw[←hW];exact⟨by simp,bZ⟩
theorem row9_c(N M k V LM:Int)(ao:Option Addr)(xs:List Nat)(cap:Nat)(H:Int)(qo:Option Addr)(ys:List Nat)(dap:Nat)(w:World)(hx:Wd w ao xs)(fx:Fit xs)(hy:Wd w qo ys)(fy:Fit ys):
  Calls Tryz.prog 111 #[.agg #[.int .i64 N,.int .i64 M,.int .i64 k,.int .i64 V,.int .i64 LM,.slice ao xs.length cap,.int .i64 H,.slice qo ys.length dap]] w (ROut (fRow ⟨N,M,k,V,LM,xs,H,ys⟩) w):=by
 by_cases P:(0≤N∧N≤1048576∧0≤M∧M≤N)∧ichk k V LM xs=true∧chk H ys=true
 ·obtain⟨⟨p1,p2,p3,p4⟩,p5,p6⟩:=P;obtain⟨v1,v2,v3,v4,v5,v6,v7,v8⟩:=ichk_out _ _ _ _ p5;obtain⟨u1,u2,u3,u4⟩:=chk_out _ _ p6;obtain⟨n,rfl⟩:=Int.eq_ofNat_of_zero_le p1
  obtain⟨mm,rfl⟩:=Int.eq_ofNat_of_zero_le p3;obtain⟨kn,rfl⟩:=Int.eq_ofNat_of_zero_le v3;obtain⟨vn,rfl⟩:=Int.eq_ofNat_of_zero_le (show 0≤V by omega);obtain⟨hh,rfl⟩:=Int.eq_ofNat_of_zero_le u1
  exact row9_main n mm kn vn hh LM ao xs cap qo ys dap w hx fx hy fy (by omega) (by omega) p5 p6
 ·rw[fRow_bad ⟨N,M,k,V,LM,xs,H,ys⟩ (fun h=>P ⟨h.1,h.2.1,h.2.2.1⟩)];exact row9_bad N M k V LM H ao xs cap qo ys dap w hx fx hy fy P
def WO9(N:Int)(X:List Nat)(S:Bool)(w:World)(e:Ending)(w':World):Prop:=∃bo bc,e=.returned (.tuple #[.agg #[.int .i64 N,.slice bo X.length bc],.bool S])∧Wd w' bo X∧X.length≤bc∧Below w.heap.size w w'
theorem fRow_n(a:FA)(l:List Nat)(h:fRow a=some l):0≤a.N∧Rise l a.N.toNat:=by
 unfold fRow at h;simp only at h;split at h
 ·rename_i c;exact⟨c.1.1,(fdec_len _ _ _ _ _ _ h).2⟩
 ·cases h
theorem f9whole_none(N M k V LM:Int)(ao:Option Addr)(xs:List Nat)(cap:Nat)(H:Int)(qo:Option Addr)(ys:List Nat)(dap:Nat)(w:World)(RC:Hid (Qz w 111 #[.agg #[.int .i64 N,.int .i64 M,.int .i64 k,.int .i64 V,.int .i64 LM,.slice ao xs.length cap,.int .i64 H,.slice qo ys.length dap]] (.tuple #[.slice none 0 0,.bool false]))):
  Qq 59 #[.agg #[.int .i64 N,.int .i64 M,.int .i64 k,.int .i64 V,.int .i64 LM,.slice ao xs.length cap,.int .i64 H,.slice qo ys.length dap]] w (.tuple #[.agg #[.int .i64 0,.slice none 0 0],.bool false]):=by
 obtain⟨W,hW⟩:∃W,W=(w.alloc (.cells #[.int .i64 N,.int .i64 M,.int .i64 k,.int .i64 V,.int .i64 LM,.slice ao xs.length cap,.int .i64 H,.slice qo ys.length dap] 43)).alloc (.cells #[.int .i64 0,.slice none 0 0] 33):=⟨_,rfl⟩
 have bW:=yb2 hW;have B1:=yc3 hW;have B2:=yc2 hW;go_enter Tryz.func59,Tryz.ntmps59;go_wp2_with fail;rw[←hW];refine mr (RC.out _ bW) fun w1 hb=>?_;have bw1:=bg bW hb
 replace B2:=B2.kept hb;clear hb bW hW RC B1;go_wp2_with (refine store_cel (w.heap.size+1) [.int .i64 0,.slice none 0 0] [.int .i64 0,.slice none 0 0] rfl rfl B2 rfl info_b2 (by simp[Value.oneCell']) ?_);intro w3 B3 O3
 have HZ:=hide9 (And.intro B3 (bw1.trans (O3.below (Nat.le_succ _))));clear B3 O3 B2;go_wp2
 (try simp only[Exit.inBlock,Exit.then]);exact bodyPost_ret (result_cel rfl (w.heap.size+1) _ rfl HZ.out.1 Tryz.underlying33 info_b2) rfl ⟨rfl,HZ.out.2⟩
theorem f9whole_some(n:Nat)(M k V LM:Int)(ao:Option Addr)(xs:List Nat)(cap:Nat)(H:Int)(qo:Option Addr)(ys:List Nat)(dap:Nat)(l:List Nat)(w:World)(hn:n≤3000)(hr:Rise l n)(y1 y2 y3 y4 y5 y7:Int)(y6 y8:Nat)(S:Bool)
  (RC:Hid (∀w0,Below w.heap.size w w0→Calls Tryz.prog 111 #[.agg #[.int .i64 (n:Nat),.int .i64 M,.int .i64 k,.int .i64 V,.int .i64 LM,.slice ao xs.length cap,.int .i64 H,.slice qo ys.length dap]] w0 fun e w'=>∃so sc,e=.returned (.tuple #[.slice so l.length sc,.bool true])∧Nd w' so (lz l)∧l.length≤sc∧Below w0.heap.size w0 w'))
  (YP:World→Option Addr→Nat→Option Addr→Nat→Prop) (yk:∀w1 w2 yo yc zo zc,YP w1 yo yc zo zc→Below w1.heap.size w1 w2→YP w2 yo yc zo zc)
  (OC:Hid (∀w0 so sc,Nd w0 so (lz l)→Calls Tryz.prog 112 #[.int .i64 (n:Nat),.slice so l.length sc] w0 fun e w'=>∃yo yc zo zc,e=.returned (.tuple #[.agg #[.int .i64 y1,.int .i64 y2,.int .i64 y3,.int .i64 y4,.int .i64 y5,.slice yo y6 yc,.int .i64 y7,.slice zo y8 zc],.int .i64 0])∧YP w' yo yc zo zc∧Below w0.heap.size w0 w'))
  (SC:Hid (∀w0 yo yc zo zc,Below w.heap.size w w0→YP w0 yo yc zo zc→Qq 113 #[.agg #[.int .i64 (n:Nat),.int .i64 M,.int .i64 k,.int .i64 V,.int .i64 LM,.slice ao xs.length cap,.int .i64 H,.slice qo ys.length dap],.agg #[.int .i64 y1,.int .i64 y2,.int .i64 y3,.int .i64 y4,.int .i64 y5,.slice yo y6 yc,.int .i64 y7,.slice zo y8 zc]] w0 (.bool S))):
  Calls Tryz.prog 59 #[.agg #[.int .i64 (n:Nat),.int .i64 M,.int .i64 k,.int .i64 V,.int .i64 LM,.slice ao xs.length cap,.int .i64 H,.slice qo ys.length dap]] w (WO9 (if S=true then (n:Int)else 0) (if S=true then rowOf n (isIn l)else []) S w):=by
 obtain⟨i4,hi4,za4,zb4,zc4⟩:=info_parts info4_9
 obtain⟨W,hW⟩:∃W,W=(w.alloc (.cells #[.int .i64 (n:Nat),.int .i64 M,.int .i64 k,.int .i64 V,.int .i64 LM,.slice ao xs.length cap,.int .i64 H,.slice qo ys.length dap] 43)).alloc (.cells #[.int .i64 0,.slice none 0 0] 33):=⟨_,rfl⟩
 have bW:=yb2 hW;have B1:=yc3 hW;have B2:=yc2 hW;cases S with
 | false=>
  go_enter Tryz.func59,Tryz.ntmps59;go_wp2_with fail;rw[←hW];refine(RC.out _ bW).mono ?_;rintro e w1 ⟨so,sc,rfl,hN,hsc,hb⟩;have bw1:=bg bW hb;replace B1:=B1.kept hb;replace B2:=B2.kept hb
  have q0:=B1.cell 0 rfl;clear hb bW hW RC;go_wp2_with fail;refine(OC.out _ _ _ hN).mono ?_;rintro e w2 ⟨yo,yc,zo,zc,rfl,hY,hb⟩;have bw2:=bg bw1 hb;replace B1:=B1.kept hb;replace B2:=B2.kept hb
  clear hb OC bw1 q0;have bA:=below_alloc w2 (.cells #[.int .i64 y1,.int .i64 y2,.int .i64 y3,.int .i64 y4,.int .i64 y5,.slice yo y6 yc,.int .i64 y7,.slice zo y8 zc] 43)
  have D6:=Cel.new w2 [.int .i64 y1,.int .i64 y2,.int .i64 y3,.int .i64 y4,.int .i64 y5,.slice yo y6 yc,.int .i64 y7,.slice zo y8 zc] 43;have E1:=B1.kept bA;have E2:=B2.kept bA;have hY2:=yk _ _ _ _ _ _ hY bA
  have bw3:=bg bw2 bA;clear B1 B2 hY bA
  go_wp2_with (first | refine load_obj w.heap.size _ (by rfl) rfl E1 Tryz.underlying43 info_f8 ?_ | refine load_obj w2.heap.size _ (by rfl) rfl D6 Tryz.underlying43 info_f8 ?_);refine mr (SC.out _ _ _ _ _ bw3 hY2) fun w4 hb=>?_;have bw4:=bg bw3 hb;replace E2:=E2.kept hb;clear hb SC D6 E1 hY2 bw3
  go_wp2_with (refine store_cel (w.heap.size+1) [.int .i64 0,.slice none 0 0] [.int .i64 0,.slice none 0 0] rfl rfl E2 rfl info_b2 (by simp[Value.oneCell']) ?_);intro w5 B3 O3
  have HZ:=hide9 (And.intro B3 (bw4.trans (O3.below (Nat.le_succ _))));clear B3 O3 E2;go_wp2
  (try simp only[Exit.inBlock,Exit.then]);exact bodyPost_ret (result_cel rfl (w.heap.size+1) _ rfl HZ.out.1 Tryz.underlying33 info_b2) rfl (show WO9 0 [] false w _ _ from⟨none,0,rfl,wd0' _ _,Nat.zero_le _,HZ.out.2⟩)
 | true=>
  have FR:Hid (∀(w0:World) (g:Nat),Cel w0 g (bvs n (isIn l)) 4→Calls Tryz.prog 39 #[.slice (some ⟨g,0,none⟩) n n] w0 fun e w'=>∃g',e=.returned (.tuple #[.agg #[.int .i64 (n:Nat),.slice (some ⟨g',0,none⟩) (rowOf n (isIn l)).length (rowOf n (isIn l)).length],.int .i64 0])∧w0.heap.size≤g'∧Own w' g' (rowOf n (isIn l))∧Below w0.heap.size w0 w'):=fun w0 g h=>by
   have hlen:(bls n (isIn l)).length=n:=by simp[bls]
   have h3:=reffrom_ok (some ⟨g,0,none⟩) (bls n (isIn l)) n _ w0 (bl_cel h) (by rw[hlen];omega) rfl;rw[fromS_all]at h3
   have e6:frL (bls n (isIn l))=rowOf n (isIn l):=by
    unfold frL;rw[hlen];refine rowOf_congr n _ _ fun i hi=>?_;unfold bt bls;rw[List.getD_eq_getElem?_getD,List.getElem?_map,List.getElem?_range hi];rfl
   have e5:(rowOf n (isIn l)).length=(n+63)/64:=length_rowOf _ _;rw[hlen,e6]at h3;rw[e5];exact h3
  generalize hYY:rowOf n (isIn l)=YY at *;clear hYY;go_enter Tryz.func59,Tryz.ntmps59;go_wp2_with fail;rw[←hW];refine(RC.out _ bW).mono ?_;rintro e w1 ⟨so,sc,rfl,hN,hsc,hb⟩;have bw1:=bg bW hb
  replace B1:=B1.kept hb;replace B2:=B2.kept hb;have q0:=B1.cell 0 rfl;clear hb bW hW RC;go_wp2_with fail;refine(OC.out _ _ _ hN).mono ?_;rintro e w2 ⟨yo,yc,zo,zc,rfl,hY,hb⟩;have bw2:=bg bw1 hb
  replace B1:=B1.kept hb;replace B2:=B2.kept hb;replace hN:=Nd.keep hN hb;clear hb OC bw1 q0
  have bA:=below_alloc w2 (.cells #[.int .i64 y1,.int .i64 y2,.int .i64 y3,.int .i64 y4,.int .i64 y5,.slice yo y6 yc,.int .i64 y7,.slice zo y8 zc] 43)
  have D6:=Cel.new w2 [.int .i64 y1,.int .i64 y2,.int .i64 y3,.int .i64 y4,.int .i64 y5,.slice yo y6 yc,.int .i64 y7,.slice zo y8 zc] 43;have E1:=B1.kept bA;have E2:=B2.kept bA;have hY2:=yk _ _ _ _ _ _ hY bA
  have bw3:=bg bw2 bA;replace hN:=Nd.keep hN bA;clear B1 B2 hY bA
  go_wp2_with (first | refine load_obj w.heap.size _ (by rfl) rfl E1 Tryz.underlying43 info_f8 ?_ | refine load_obj w2.heap.size _ (by rfl) rfl D6 Tryz.underlying43 info_f8 ?_);refine mr (SC.out _ _ _ _ _ bw3 hY2) fun w4 hb=>?_;have bw4:=bg bw3 hb;replace E1:=E1.kept hb;replace E2:=E2.kept hb;replace hN:=Nd.keep hN hb;clear hb SC D6 hY2 bw3 bw2;have gl:=E2.lt;have q0:=E1.cell 0 rfl
  go_wp2_with (at_make;refine wpList_make_full _ rfl _ _ 85 rfl w4.heap.size 4 i4 (.bool false) 1 Tryz.underlying85 hi4 za4 zb4 .i64 .i64 _ _ n rfl rfl rfl rfl ?b2 ?b3 ?b4 ?_)
  case b2=>rw[zc4];omega
  case b3=>unfold maxLen;omega
  case b4=>exact Nat.le_refl _
  intro w5 hown hgr;have hB:=bcel_made hown;have bG:Below w4.heap.size w4 w5:=(Below.refl _ _).grown hgr (Nat.le_refl _) (fun k h=>by cases h);replace E2:=E2.kept bG;have bw5:=bg bw4 bG
  have bz:=bw4.size;clear hown hgr bw4 E1 q0
  have hN2:Hid (∀q,q<l.length→∃b off,so=some ⟨b,off,none⟩∧b<w4.heap.size∧w5.cell? ⟨b,off+q,none⟩=some (.int .i64 (gt l q:Nat))):=fun q hq=>by
   obtain⟨b,off,e,hbl,hcel⟩:=hN (by rw[length_lz];omega);have h1:=hcel q (by rw[length_lz];exact hq);rw[gi_lz]at h1;exact⟨b,off,e,hbl,(bG.cell (p:=⟨b,off+q,none⟩) hbl).trans h1⟩
  clear hN bG;generalize w4.heap.size=g at *;go_wp2;go_loopw [9] (fun iv wr=>∃q:Nat,q≤l.length∧iv=.int .i64 q∧Cel wr g (bvs n (isIn (l.take q))) 4∧Only g w5 wr) (fun iv _=>l.length-(intOf iv).toNat)
  case atStart=>exact⟨0,Nat.zero_le _,rfl,by rw[bvs_congr n (isIn (l.take 0)) (fun _=>false) (fun i _=>by simp[isIn])];exact hB,Only.refl _ _⟩
  case round=>
   obtain⟨q,hq,rfl,hC,hOn⟩:=hrel;by_cases hlt:q<l.length
   ·have hlt2:(q:Int)<(l.length:Int):=by omega
    obtain⟨b,off,rfl,hbl,hc5⟩:=hN2.out q hlt;have cq:wr.cell? ⟨b,off+q,none⟩=some (.int .i64 (gt l q:Nat)):=(World.cell?_of_block (w:=w5) (hOn.block b (by omega))).trans hc5;have xl:=hr.1 q hlt
    have lln:=hr.len;have ql3:q<3000:=by omega
    clear lln;have ST:=hide9 (isIn_snoc (l.take q) (gt l q));have TK:=hide9 (take_snoc' l q hlt);have cj:=hC.cell (gt l q) (bvs_get _ _ _ xl);have fj:=hC.frozen (gt l q);have st:=hC.set (gt l q) (.bool true)
    rw[bvs_set]at st
    have HS:Hid (Cel (wr.setCell ⟨g,gt l q,none⟩ (.bool true)) g (bvs n (isIn (l.take (q+1)))) 4∧Only g w5 (wr.setCell ⟨g,gt l q,none⟩ (.bool true))):=by
     refine⟨?_,hOn.set _ _⟩;rw[TK.out,bvs_congr n _ _ (fun i _=>ST.out i)];exact st
    have xl2:(gt l q:Int)<(n:Int):=by omega
    clear st hc5 hC hOn;generalize gt l q=x at *;go_wp2;exact⟨⟨q+1,by omega,by go_num,HS.out.1,HS.out.2⟩,by simp only[intOf];omega⟩
   ·obtain rfl:q=l.length:=by omega
    rw[List.take_of_length_le (Nat.le_refl _)]at hC;have F1:=hide9 (FR.out wr g hC);have E3:=hOn.cel E2 (by omega);have bw6:=bw5.trans (hOn.below (by omega));have e3l:=E3.lt;clear FR hC hOn hB E2 bw5;go_wp2_with fail
    refine F1.out.mono ?_;rintro e w6 ⟨g',rfl,hg',hO,hb⟩;replace E3:=E3.kept hb;have bw7:=bg bw6 hb;clear hb F1
    have bA:=below_alloc w6 (.cells #[.int .i64 (n:Nat),.slice (some ⟨g',0,none⟩) YY.length YY.length] 33);have D7:=Cel.new w6 [.int .i64 (n:Nat),.slice (some ⟨g',0,none⟩) YY.length YY.length] 33
    have E4:=E3.kept bA;have hO2:=hO.keep bA;have bw8:=bg bw7 bA;have gx:g'≠w.heap.size+1:=by omega
    clear E3 hO bA bw6 bw7
    go_wp2_with (first | refine load_cel w6.heap.size _ rfl D7 Tryz.underlying33 info_b2 ?_ | refine store_cel (w.heap.size+1) [.int .i64 0,.slice none 0 0] _ rfl rfl E4 rfl info_b2 (by simp[Value.oneCell']) ?_)
    intro w9 B3 O3;have hO3:Own w9 g' YY:=(O3.block g' gx).trans hO2;have HZ:=hide9 (And.intro B3 (And.intro hO3 (bw8.trans (O3.below (Nat.le_succ _)))));clear B3 O3 hO2 hO3 D7 E4 bw8;go_wp2
    (try simp only[Exit.inBlock,Exit.then])
    exact bodyPost_ret (result_cel rfl (w.heap.size+1) _ rfl HZ.out.1 Tryz.underlying33 info_b2) rfl (show WO9 (n:Int) YY true w _ _ from⟨some ⟨g',0,none⟩,YY.length,rfl,HZ.out.2.1.wd,Nat.le_refl _,HZ.out.2.2⟩)
theorem f9check_g(c0 c1 c2 c3 c4 c5 c6 c7:Value)(ok:Bool)(N:Int)(X:List Nat)(w:World)(hf:Fit X)(hck:ok=true→chk N X=true)(C1:Hid (∀w0,Below w.heap.size w w0→Calls Tryz.prog 59 #[.agg #[c0,c1,c2,c3,c4,c5,c6,c7]] w0 fun e w'=>∃bo bc,e=.returned (.tuple #[.agg #[.int .i64 N,.slice bo X.length bc],.bool ok])∧Wd w' bo X∧X.length≤bc∧Below w0.heap.size w0 w')):
  Qq 131 #[.agg #[c0,c1,c2,c3,c4,c5,c6,c7]] w (.bool ok):=by
 obtain⟨W,hW⟩:∃W,W=w.alloc (.cells #[c0,c1,c2,c3,c4,c5,c6,c7] 43):=⟨_,rfl⟩;have bW:=yb1 hW;go_enter Tryz.func131,Tryz.ntmps131;go_wp2_with fail;rw[←hW];refine(C1.out _ bW).mono ?_
 rintro e w1 ⟨bo,bc,rfl,hx,hbc,hb⟩;have bw1:=bg bW hb;clear hb C1;have bA:=below_alloc w1 (.cells #[.int .i64 N,.slice bo X.length bc] 33);have bw2:=bg bw1 bA;go_wp2;go_ret
 exact⟨rfl,bw2⟩
theorem kOk_nat9(a:RA9)(h:kOk9 a=true):∃(n mm kn vn hh:Nat) (LM:Int) (xs ys:List Nat),a=⟨n,mm,kn,vn,LM,xs,hh,ys⟩:=by
 obtain⟨_,e⟩:=kOk_row a h;rw[e];exact⟨_,_,_,_,_,_,_,_,rfl⟩
theorem fSame_as(a b:FA):(decide (a.N=b.N)&&(decide (a.M=b.M)&&((decide (a.k=b.k)&&(decide (a.V=b.V)&&(decide (a.LM=b.LM)&&decide (a.xs=b.xs))))&&(decide (a.H=b.H)&&decide (a.ys=b.ys)))))=fSame a b:=by
 unfold fSame;simp only[Bool.and_assoc]
theorem f9whole_k(cs:List Value)(a:RA9)(w:World)(h:KI9 w cs a):
  Calls Tryz.prog 59 #[.agg cs.toArray] w fun e w'=>∃bo bc,e=.returned (.tuple #[.agg #[.int .i64 (kBN9 a),.slice bo (kBX9 a).length bc],.bool (kOk9 a)])∧Wd w' bo (kBX9 a)∧(kBX9 a).length≤bc∧Below w.heap.size w w':=by
 obtain⟨⟨ao,cap,qo,dap,rfl,_,a1,a2,a3,a4,a5,a6⟩,n3,xl,yl⟩:=h;obtain⟨N,M,k,V,LM,xs,H,ys⟩:=a;dsimp only at *
 have RC:=fun(w0:World) (hb:Below w.heap.size w w0)=>row9_c N M k V LM ao xs cap H qo ys dap w0 (a1.keep hb) a2 (a4.keep hb) a5;cases hrow:fRow ⟨N,M,k,V,LM,xs,H,ys⟩with
 | none=>
  rw[hrow]at RC;have ok:kOk9 ⟨N,M,k,V,LM,xs,H,ys⟩=false:=by unfold kOk9;rw[hrow]
  have e1:kBN9 ⟨N,M,k,V,LM,xs,H,ys⟩=0:=by unfold kBN9;rw[ok];rfl
  have e2:kBX9 ⟨N,M,k,V,LM,xs,H,ys⟩=[]:=by unfold kBX9;rw[ok];rfl
  rw[ok,e1,e2];refine mr (f9whole_none N M k V LM ao xs cap H qo ys dap w RC) fun w' hb=>?_;exact⟨none,0,rfl,wd0' _ _,Nat.zero_le _,hb⟩
 | some l=>
  rw[hrow]at RC;obtain⟨n0,hr⟩:=fRow_n _ l hrow;dsimp only at n0 hr;obtain⟨n,rfl⟩:=Int.eq_ofNat_of_zero_le n0;rw[Int.toNat_natCast]at hr;have hn:n≤3000:=by omega
  have ok:kOk9 ⟨n,M,k,V,LM,xs,H,ys⟩=fSame ⟨n,M,k,V,LM,xs,H,ys⟩ (fOf n l):=by unfold kOk9;rw[hrow];rfl
  have e0:kRow ⟨n,M,k,V,LM,xs,H,ys⟩=l:=by unfold kRow;rw[hrow];rfl
  have e1:kBN9 ⟨n,M,k,V,LM,xs,H,ys⟩=if kOk9 ⟨n,M,k,V,LM,xs,H,ys⟩=true then (n:Int)else 0:=rfl
  have e2:kBX9 ⟨n,M,k,V,LM,xs,H,ys⟩=if kOk9 ⟨n,M,k,V,LM,xs,H,ys⟩=true then rowOf n (isIn l)else []:=by unfold kBX9;rw[e0];rfl
  rw[e1,e2]
  refine f9whole_some n M k V LM ao xs cap H qo ys dap l w hn hr (fOf n l).N (fOf n l).M (fOf n l).k (fOf n l).V (fOf n l).LM (fOf n l).H (fOf n l).xs.length (fOf n l).ys.length _ RC (fun w0 yo yc zo zc=>Wd w0 yo (fOf n l).xs∧Wd w0 zo (fOf n l).ys) (fun w1 w2 yo yc zo zc h hb=>⟨h.1.keep hb,h.2.keep hb⟩) ?_ ?_
  ·intro w0 so sc hN;refine(of9_c n so l sc w0 hN hr hn).mono ?_;rintro e w' ⟨bo,bc,qo',qc,rfl,⟨h1,_,h2,_⟩,hb⟩;exact⟨bo,bc,qo',qc,rfl,⟨h1,h2⟩,hb⟩
  ·intro w0 yo yc zo zc hb hY
   have:=f9same_c (n:Int) M k V LM ao xs cap H qo ys dap (fOf n l).N (fOf n l).M (fOf n l).k (fOf n l).V (fOf n l).LM yo (fOf n l).xs yc (fOf n l).H zo (fOf n l).ys zc w0 (a1.keep hb) hY.1 (a4.keep hb) hY.2 xl yl
   rw[fSame_as ⟨n,M,k,V,LM,xs,H,ys⟩ (fOf n l),←ok]at this;exact this
theorem f9check_k(cs:List Value)(a:RA9)(w:World)(h:KI9 w cs a):
  Qq 131 #[.agg cs.toArray] w (.bool (kOk9 a)):=by
 have W:=fun(w0:World) (hb:Below w.heap.size w w0)=>f9whole_k cs a w0 (h.keep hb);obtain⟨⟨ao,cap,qo,dap,rfl,_⟩,_⟩:=h;exact f9check_g _ _ _ _ _ _ _ _ (kOk9 a) (kBN9 a) (kBX9 a) w (kB_fit9 a) (kB_chk9 a) W
theorem f9size_k(cs:List Value)(a:RA9)(w:World)(h:KI9 w cs a):
  Qq 79 #[.agg cs.toArray] w (.int .i64 (kZ9 a)):=by
 have C:=fun(w0:World) (hb:Below w.heap.size w w0)=>f9check_k cs a w0 (h.keep hb);obtain⟨⟨ao,cap,qo,dap,rfl,_⟩,_,_,_⟩:=h;obtain⟨N,M,k,V,LM,xs,H,ys⟩:=a;dsimp only at *
 obtain⟨Z,hZ⟩:∃Z,Hid (Z=kZ9 ⟨N,M,k,V,LM,xs,H,ys⟩):=⟨_,rfl⟩;rw[←hZ.out]
 obtain⟨W,hW⟩:∃W,W=w.alloc (.cells #[.int .i64 N,.int .i64 M,.int .i64 k,.int .i64 V,.int .i64 LM,.slice ao xs.length cap,.int .i64 H,.slice qo ys.length dap] 43):=⟨_,rfl⟩;have bW:=yb1 hW;have B1:=yc1 hW
 have CH:Hid (Qz w 131 #[.agg #[.int .i64 N,.int .i64 M,.int .i64 k,.int .i64 V,.int .i64 LM,.slice ao xs.length cap,.int .i64 H,.slice qo ys.length dap]] (.bool (kOk9 ⟨N,M,k,V,LM,xs,H,ys⟩))):=C
 clear C;cases hk:kOk9 ⟨N,M,k,V,LM,xs,H,ys⟩with
 | false=>
  rw[hk]at CH
  have E:Hid (Z=0):=by
   show Z=0;rw[hZ.out];unfold kZ9;rw[hk];rfl
  clear hk hZ;go_enter Tryz.func79,Tryz.ntmps79;go_wp2_with fail;rw[←hW];refine mr (CH.out _ bW) fun w1 hb=>?_;have bw1:=bg bW hb;clear hW;go_wp2;go_ret;rw[E.out];exact⟨rfl,bw1⟩
 | true=>
  rw[hk]at CH
  have E:Hid (Z=LM+H+64):=by
   show Z=_;rw[hZ.out];unfold kZ9;rw[if_pos hk]
  obtain⟨n,mm,kn,vn,hh,LM',xs',ys',e⟩:=kOk_nat9 _ hk;simp only[FA.mk.injEq]at e;obtain⟨rfl,rfl,rfl,rfl,rfl,rfl,rfl,rfl⟩:=e;obtain⟨F,_⟩:=ok_fits n mm kn vn hh LM xs ys hk
  obtain⟨_,_,_,_,_,m1,m2,_⟩:=ichk_out _ _ _ _ F.ik;obtain⟨l1,l2,_,_⟩:=chk_out _ _ F.ck;clear hk hZ F;go_enter Tryz.func79,Tryz.ntmps79;go_wp2_with fail;rw[←hW];refine mr (CH.out _ bW) fun w1 hb=>?_
  have bw1:=bg bW hb;replace B1:=B1.kept hb;have r4:=B1.cell 4 rfl;have r6:=B1.cell 6 rfl;clear hW hb;go_wp2;go_ret;rw[E.out];exact⟨rfl,bw1⟩
theorem step_store9{ops:Array Oper}{d:Option Tmp}{ty T:TypeId}{ps:String}{af:Array Edge}{a:Act}{w:World}{K:Act→World→Prop}{Q:Exit→Act→World→Prop}{E:Prop}{x y:Operand}
  (g:Nat) (old cs:List Value) (hx:a.eval x=.pointer (some ⟨g,0,none⟩)) (hy:a.eval y=.agg cs.toArray) (hc:Cel w g old T) (lo:old.length=cs.length) (hi:(Tryz.prog.info? T).map (·.size)=some cs.length) (h1:cs.toArray.all (·.oneCell')=true)
  (h:∀w1,Cel w1 g cs T→Only g w w1→K (a.put d undef) w1):
  if Region.wanted (⟨d,.store T x y,ty,ps,af,none⟩:Oper) (yielded ops a.tmps)=true then Oper.wp Tryz.prog (⟨d,.store T x y,ty,ps,af,none⟩:Oper) a w K Q else E:=by
 rw[if_pos (by simp[Region.wanted])];exact wp_store_row _ x y rfl g cs.toArray hx hy _ _ hc (by simpa using hi) (by simpa using lo) h1 (h _ (setRow_heap w g _ _ _ _ hc) (Only.row g w _))
theorem f9build_bad(N:Int)(ao:Option Addr)(xs:List Nat)(cap:Nat)(w:World)(hx:Wd w ao xs)(hf:Fit xs)(hk:chk N xs=false):
  Qq 71 #[.agg #[.int .i64 N,.slice ao xs.length cap]] w (.tuple #[.agg #[.int .i64 0,.int .i64 0,.int .i64 0,.int .i64 0,.int .i64 0,.slice none 0 0,.int .i64 0,.slice none 0 0],.int .i64 2]):=by
 have CC:Hid (Qz w 30 #[.agg #[.int .i64 N,.slice ao xs.length cap]] (.bool false)):=fun w0 hb=>by
  have:=refcheck_c N ao xs cap w0 (hx.keep hb) hf;rw[hk]at this;exact this
 obtain⟨W1,hW1⟩:∃W1,W1=(w.alloc (.cells #[.int .i64 N,.slice ao xs.length cap] 33)).alloc (.cells #[.int .i64 0,.int .i64 0,.int .i64 0,.int .i64 0,.int .i64 0,.slice none 0 0,.int .i64 0,.slice none 0 0] 43):=⟨_,rfl⟩
 have b1:Below w.heap.size w W1:=by rw[hW1];exact(below_alloc w _).alloc (by simp) _
 have c1:Cel W1 (w.heap.size+1) [.int .i64 0,.int .i64 0,.int .i64 0,.int .i64 0,.int .i64 0,.slice none 0 0,.int .i64 0,.slice none 0 0] 43:=by rw[hW1];exact Cel.new2 w _ _ _
 go_enter Tryz.func71,Tryz.ntmps71;go_wp2_with fail;rw[←hW1];clear hW1 hx;refine mr (CC.out _ b1) fun wf hb=>?_;replace b1:=bg b1 hb;replace c1:=c1.kept hb;clear hb CC
 go_wp2_with (refine store_cel (w.heap.size+1) [.int .i64 0,.int .i64 0,.int .i64 0,.int .i64 0,.int .i64 0,.slice none 0 0,.int .i64 0,.slice none 0 0] [.int .i64 0,.int .i64 0,.int .i64 0,.int .i64 0,.int .i64 0,.slice none 0 0,.int .i64 0,.slice none 0 0] rfl rfl c1 rfl info_f8 (by simp[Value.oneCell']) ?_)
 intro w3 B3 O3;have HZ:=hide9 (And.intro B3 (b1.trans (O3.below (Nat.le_succ _))));clear B3 O3 b1 c1;go_wp2
 (try simp only[Exit.inBlock,Exit.then]);exact bodyPost_ret (result_cel rfl (w.heap.size+1) _ rfl HZ.out.1 Tryz.underlying43 info_f8) rfl ⟨rfl,HZ.out.2⟩
theorem f9build_ok(n:Nat)(ao:Option Addr)(xs:List Nat)(cap:Nat)(l:List Nat)(w:World)(y1 y2 y3 y4 y5 y7:Int)(y6 y8:Nat)
  (CC:Hid (Qz w 30 #[.agg #[.int .i64 (n:Nat),.slice ao xs.length cap]] (.bool true)))
  (PC:Hid (∀w0,Below w.heap.size w w0→Calls Tryz.prog 128 #[.agg #[.int .i64 (n:Nat),.slice ao xs.length cap]] w0 fun e w'=>∃so sc,e=.returned (.slice so l.length sc)∧Nd w' so (lz l)∧Below w0.heap.size w0 w'))
  (YP:World→Option Addr→Nat→Option Addr→Nat→Prop) (yo9:∀w1 w2 yo yc zo zc,YP w1 yo yc zo zc→Only (w.heap.size+1) w1 w2→Cel w1 (w.heap.size+1) [.int .i64 0,.int .i64 0,.int .i64 0,.int .i64 0,.int .i64 0,.slice none 0 0,.int .i64 0,.slice none 0 0] 43→YP w2 yo yc zo zc)
  (OC:Hid (∀w0 so sc,Nd w0 so (lz l)→Calls Tryz.prog 112 #[.int .i64 (n:Nat),.slice so l.length sc] w0 fun e w'=>∃yo yc zo zc,e=.returned (.tuple #[.agg #[.int .i64 y1,.int .i64 y2,.int .i64 y3,.int .i64 y4,.int .i64 y5,.slice yo y6 yc,.int .i64 y7,.slice zo y8 zc],.int .i64 0])∧YP w' yo yc zo zc∧Below w0.heap.size w0 w')):
  Calls Tryz.prog 71 #[.agg #[.int .i64 (n:Nat),.slice ao xs.length cap]] w fun e w'=>∃yo yc zo zc,e=.returned (.tuple #[.agg #[.int .i64 y1,.int .i64 y2,.int .i64 y3,.int .i64 y4,.int .i64 y5,.slice yo y6 yc,.int .i64 y7,.slice zo y8 zc],.int .i64 0])∧YP w' yo yc zo zc∧Below w.heap.size w w':=by
 obtain⟨W1,hW1⟩:∃W1,W1=(w.alloc (.cells #[.int .i64 (n:Nat),.slice ao xs.length cap] 33)).alloc (.cells #[.int .i64 0,.int .i64 0,.int .i64 0,.int .i64 0,.int .i64 0,.slice none 0 0,.int .i64 0,.slice none 0 0] 43):=⟨_,rfl⟩
 have b1:Below w.heap.size w W1:=by rw[hW1];exact(below_alloc w _).alloc (by simp) _
 have c0:Cel W1 w.heap.size [.int .i64 (n:Nat),.slice ao xs.length cap] 33:=by rw[hW1];exact(Cel.new w _ _).alloc _
 have c1:Cel W1 (w.heap.size+1) [.int .i64 0,.int .i64 0,.int .i64 0,.int .i64 0,.int .i64 0,.slice none 0 0,.int .i64 0,.slice none 0 0] 43:=by rw[hW1];exact Cel.new2 w _ _ _
 go_enter Tryz.func71,Tryz.ntmps71;go_wp2_with fail;rw[←hW1];clear hW1;refine mr (CC.out _ b1) fun wf hb=>?_;replace b1:=bg b1 hb;replace c0:=c0.kept hb;replace c1:=c1.kept hb;clear hb CC
 go_wp2_with fail
 refine region_g [7] (fun w0=>Cel w0 w.heap.size [.int .i64 (n:Nat),.slice ao xs.length cap] 33∧Cel w0 (w.heap.size+1) [.int .i64 0,.int .i64 0,.int .i64 0,.int .i64 0,.int .i64 0,.slice none 0 0,.int .i64 0,.slice none 0 0] 43∧Below w.heap.size w w0) (by kernel_rfl) ?_
 have hS:(fun w0:World=>Cel w0 w.heap.size [.int .i64 (n:Nat),.slice ao xs.length cap] 33∧Cel w0 (w.heap.size+1) [.int .i64 0,.int .i64 0,.int .i64 0,.int .i64 0,.int .i64 0,.slice none 0 0,.int .i64 0,.slice none 0 0] 43∧Below w.heap.size w w0) wf.drew:=⟨c0.drew,c1.drew,b1.drew⟩
 clear c0 c1 b1;refine aK 0 hS ?_;refine aF 1 hS rfl (fun w0 h0=>by have:=h0.1.cell 0 rfl;go_simp;try with_reducible rfl) ?_
 refine aF 2 hS rfl (fun w0 h0=>by have:=h0.1.cell 0 rfl;have:=h0.1.cell 1 rfl;go_simp;try with_reducible rfl) ?_;refine aO 3 ?_;intro K hK;go_simp;refine(PC.out _ hS.2.2).mono ?_
 rintro e w2 ⟨so,sc,rfl,hN,hb⟩;replace hS:=And.intro (hS.1.kept hb) (And.intro (hS.2.1.kept hb) (hS.2.2.trans (hb.mono hS.2.2.size)));clear hb;refine hK.out _ _ (fun _=>hS) ?_;clear hK K
 try simp only[Act.put,yq0,yq1,yq2,yq3,yq4,yq5]
 refine aO 4 ?_;intro K hK;go_simp;refine(OC.out _ _ _ hN).mono ?_;rintro e w3 ⟨yo,yc,zo,zc,rfl,hY,hb⟩;replace hS:=And.intro (hS.1.kept hb) (And.intro (hS.2.1.kept hb) (hS.2.2.trans (hb.mono hS.2.2.size)))
 clear hb hN;refine hK.out _ _ (fun _=>hS) ?_;clear hK K;try simp only[Act.put,yq0,yq1,yq2,yq3,yq4,yq5]
 refine aK 5 hS ?_;refine aK 6 hS ?_;refine aO 7 ?_;intro K hK
 refine step_store9 (w.heap.size+1) [.int .i64 0,.int .i64 0,.int .i64 0,.int .i64 0,.int .i64 0,.slice none 0 0,.int .i64 0,.slice none 0 0] _ rfl rfl hS.2.1 rfl info_f8 (by simp[Value.oneCell']) ?_;intro w9 B9 O9
 have hY9:=yo9 _ _ _ _ _ _ hY O9 hS.2.1;have HZ:=hide9 (And.intro B9 (And.intro hY9 (hS.2.2.trans (O9.below (Nat.le_succ _)))));clear hY9 B9 O9 hS hY;refine hK.out _ _ (fun h=>absurd (by decide) h) ?_;clear hK K
 try simp only[Act.put,yq0,yq1,yq2,yq3,yq4,yq5]
 refine AnyG.takeW 8 (v:=?vv90) rfl (by kernel_rfl) (by kernel_rfl) (by kernel_rfl) (fun _ _ _ h=>h) ?hy90 (by rfl) ?rest90
 case hy90=>
  intro w0;go_simp;try with_reducible rfl
 simp only[Act.put,yq0,yq1,yq2,yq3,yq4,yq5];refine AnyG.done (by kernel_rfl) ?_ _;go_wp2
 (try simp only[Exit.inBlock,Exit.then]);exact bodyPost_ret (result_cel rfl (w.heap.size+1) _ rfl HZ.out.1 Tryz.underlying43 info_f8) rfl ⟨yo,yc,zo,zc,rfl,HZ.out.2.1,HZ.out.2.2⟩
theorem f9build_k(N:Int)(ao:Option Addr)(xs:List Nat)(cap:Nat)(w:World)(hx:Wd w ao xs)(hf:Fit xs)(hN:N≤3000):
  Calls Tryz.prog 71 #[.agg #[.int .i64 N,.slice ao xs.length cap]] w fun e w'=>∃cs:List Value,e=.returned (.tuple #[.agg cs.toArray,.int .i64 (kE9 N xs)])∧KI9 w' cs (kB9 N xs)∧Below w.heap.size w w':=by
 have z:I64 0:=⟨by decide,by decide⟩;cases hk:chk N xs with
 | false=>
  refine mr (f9build_bad N ao xs cap w hx hf hk) fun w' hb=>?_;have e1:kE9 N xs=2:=by unfold kE9;rw[hk];rfl
  have e2:kB9 N xs=⟨0,0,0,0,0,[],0,[]⟩:=by unfold kB9;rw[hk];rfl
  rw[e1,e2];have f0:Fit []:=fun i=>by unfold gt;simp
  exact⟨_,rfl,⟨⟨none,0,none,0,rfl,⟨z,z,z,z,z,z⟩,wd0' _ _,f0,Nat.le_refl _,wd0' _ _,f0,Nat.le_refl _⟩,by decide,by simp,by simp⟩,hb⟩
 | true=>
  obtain⟨u1,u2,u3,u4⟩:=chk_out _ _ hk;obtain⟨n,rfl⟩:=Int.eq_ofNat_of_zero_le u1;have hn:n≤3000:=by omega
  obtain⟨L,hL⟩:∃L,L=plc (bitAt xs) n:=⟨_,rfl⟩;have RS:Rise L n:=by rw[hL];exact plc_rise _ _
  have mn:=RS.len;have e1:kE9 (n:Int) xs=0:=by unfold kE9;rw[hk];rfl
  have e2:kB9 (n:Int) xs=fOf n L:=by
   unfold kB9;rw[if_pos hk,Int.toNat_natCast,←hL]
  have CC:Hid (Qz w 30 #[.agg #[.int .i64 (n:Nat),.slice ao xs.length cap]] (.bool true)):=fun w0 hb=>by
   have:=refcheck_c n ao xs cap w0 (hx.keep hb) hf;rw[hk]at this;exact this
  have PC:Hid (∀w0,Below w.heap.size w w0→Calls Tryz.prog 128 #[.agg #[.int .i64 (n:Nat),.slice ao xs.length cap]] w0 fun e w'=>∃so sc,e=.returned (.slice so L.length sc)∧Nd w' so (lz L)∧Below w0.heap.size w0 w'):=fun w0 hb=>by
   refine(places_c n ao xs cap w0 (hx.keep hb) hk).mono ?_;rintro e w' ⟨v,rfl,ho,hb2⟩;rw[←hL]at ho;obtain⟨so,sc,rfl,_,_⟩:=Ap.owns_shape ho;exact⟨so,sc,rfl,nd_own9 ho,hb2.mono (Nat.le_refl _)⟩
  have i_y:∀{w1:World} {yo:Option Addr} {X:List Nat},Wd w1 yo X→Cel w1 (w.heap.size+1) [.int .i64 0,.int .i64 0,.int .i64 0,.int .i64 0,.int .i64 0,.slice none 0 0,.int .i64 0,.slice none 0 0] 43→∀a,0<X.length→yo=some a→a.block≠w.heap.size+1:=fun h hc=>h.apart hc (by intro v hv n;simp at hv;rcases hv with rfl | rfl | rfl | rfl<;>simp)
  refine(f9build_ok n ao xs cap L w (fOf n L).N (fOf n L).M (fOf n L).k (fOf n L).V (fOf n L).LM (fOf n L).H (fOf n L).xs.length (fOf n L).ys.length CC PC (fun w0 yo yc zo zc=>Wd w0 yo (fOf n L).xs∧(fOf n L).xs.length≤yc∧Wd w0 zo (fOf n L).ys∧(fOf n L).ys.length≤zc) (fun w1 w2 yo yc zo zc h hO hc=>⟨hO.wd h.1 (i_y h.1 hc),h.2.1,hO.wd h.2.2.1 (i_y h.2.2.1 hc),h.2.2.2⟩) ?_).mono ?_
  ·intro w0 so sc hNd;exact of9_c n so L sc w0 hNd RS hn
  ·rintro e w' ⟨bo,bc,qo,qc,rfl,⟨p1,p2,p3,p4⟩,hb⟩;rw[e1,e2];obtain⟨v,hv⟩:∃v,v=wdF n L.length:=⟨_,rfl⟩;have v20:v≤20:=by rw[hv];exact wdF_le n _ (by omega)
   have e3:fOf n L=⟨n,L.length,(loP L v).length,(max v 1:Nat),((loP L v).length:Int)*(max v 1:Nat),mkS (loP L v) (max v 1) (loP L v).length,hiN L n v,rowOf (hiN L n v) (isIn (hiP L v))⟩:=by
    unfold fOf;rw[←hv]
   rw[e3]at p1 p2 p3 p4⊢;dsimp only at p1 p2 p3 p4⊢;have l1:=length_lo_le L v;have hE:n/2^v≤n:=Nat.div_le_self _ _;have l2:hiN L n v≤6001:=by unfold hiN;omega
   have l3:(loP L v).length*max v 1≤3000*20:=Nat.mul_le_mul (by omega) (by omega);have l4:(mkS (loP L v) (max v 1) (loP L v).length).length≤1048576:=by rw[length_mkS];omega
   have l5:(rowOf (hiN L n v) (isIn (hiP L v))).length≤1048576:=by rw[length_rowOf];omega
   have i1:I64 (n:Int):=⟨by omega,by omega⟩;have i2:I64 (L.length:Int):=⟨by omega,by omega⟩;have i3:I64 ((loP L v).length:Int):=⟨by omega,by omega⟩
   have i5:I64 ((max v 1:Nat):Int):=⟨by omega,by omega⟩;have i6:I64 (hiN L n v:Int):=⟨by omega,by omega⟩
   have i4:I64 (((loP L v).length:Int)*(max v 1:Nat)):=by
    rw[←Int.natCast_mul];exact⟨by omega,by omega⟩
   exact⟨_,rfl,⟨⟨bo,bc,qo,qc,rfl,⟨i1,i2,i3,i5,i4,i6⟩,p1,fit_mkS _ _ _,p2,p3,fit_rowOf _ _,p4⟩,hN,l4,l5⟩,hb⟩
end Go.Proofs.YtfnkklkdajlhlaaGreatDoor
