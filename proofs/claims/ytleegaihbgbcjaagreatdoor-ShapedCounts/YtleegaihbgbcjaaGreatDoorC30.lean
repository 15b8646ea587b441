import Derived.Test.YtleegaihbgbcjaaGreatDoorC25
import Derived.Great.BuildSlice
set_option linter.unusedVariables false
set_option linter.unusedSimpArgs false
set_option maxRecDepth 100000
set_option maxHeartbeats 16000000
open Go.Proofs.Tryz
namespace Go.Proofs.YtleegaihbgbcjaaGreatDoor
open Go.RowKit Num Bit
theorem AP{fn:Func}{p:Tmp}{T:TypeId}{w:World}{tmps:Array Value}(h:fn.results=#[.cell p T])(g:Nat)(cs:List Value){fs:Array Field}(hp:tmps.getD p undef=.pointer (some ⟨g,0,none⟩))(hc:aa w g cs T)(hu:prog.underlying T=some (.struct fs))(hi:(prog.info? T).map (·.size)=some cs.length):
  (results fn tmps).run prog w=.ok (.agg cs.toArray) w:=by
 have hp':tmps[p]?.getD undef=.pointer (some ⟨g,0,none⟩):=by simpa using hp
 have hl:=run_loadVar_row (P:=prog) w g T T cs.toArray (0,0) _ hc hu rfl (by simpa using hi);simp[results,h,hp',asAddr,hl]
theorem wJ(p:Addr)(a b:Int)(w:World):(Instr.field 99 (.agg #[.pointer (some p),.int .i64 a,.int .i64 b]) 0).run prog w=.ok (.pointer (some p)) w:=by kernel_rfl
theorem yU(n:Int)(cs bs:Value)(gn c b off j N x i:Nat)(l:List (Nat×Nat))(av:List RA)(rs:List Value)(A:RA)(w:World)(hcs:cs.oneCell'=true)(hbs:bs.oneCell'=true)(h:CM w gn c (bz l b off av l.length))(hN:N<=64)(hi:i<=N)(hx:x<18446744073709551616)
  (hj:Sh.ixo (i,x/2^(N-i)) l<l.length) (hbw:b<w.heap.size) (hr:w.rangeAt b (off+Sh.ixo (i,x/2^(N-i)) l*22) rs) (hk:KI w rs A):
  Qq 48 #[.agg #[.int .i64 n,cs,bs,.map (some gn)],.agg #[.int .i64 (N:Nat),.int .u64 (x:Nat)],.int .i64 (i:Int)] w (.agg rs.toArray):=by
 obtain⟨y,hy⟩:∃y,Hid (y=x/2^(N-i)):=⟨_,rfl⟩;rw[<-hy.out]at hj hr;obtain⟨J,hJ⟩:∃J,Hid (J=Sh.ixo (i,y) l):=⟨_,rfl⟩;rw[<-hJ.out]at hr
 have yl:y<18446744073709551616:=by rw[hy.out];exact Nat.lt_of_le_of_lt (Nat.div_le_self _ _) hx
 obtain⟨W,hW⟩:∃W,W=(w.alloc (.cells #[.int .i64 n,cs,bs,.map (some gn)] 94)).alloc (.cells #[.int .i64 (N:Nat),.int .u64 (x:Nat)] 83):=⟨_,rfl⟩;have bW:=cW hW;have B1:=eV hW;have B2:=dF hW
 have zW:W.heap.size=w.heap.size+2:=by rw[hW];simp
 have CB:Hid (∀w0,Qq 84 #[.agg #[.int .i64 (N:Nat),.int .u64 (x:Nat)],.int .i64 (i:Int)] w0 (.agg #[.int .i64 (i:Nat),.int .u64 (y:Nat)])):=fun w0=>by
  have:=m9 N x i hN hi hx w0;rw[<-hy.out]at this;exact this
 obtain⟨o1,ho1⟩:∃o1,Hid (o1=bF av J-bM av J):=⟨_,rfl⟩;obtain⟨o2,ho2⟩:∃o2,Hid (o2=bM av J):=⟨_,rfl⟩
 have HLK:Hid (∀w0,CM w0 gn c (bz l b off av l.length)->(Instr.lookup 92 (.map (some gn)) (.agg #[.int .i64 (i:Nat),.int .u64 (y:Nat)]) false).run prog w0=.ok (.agg #[.pointer (some ⟨b,off+J*22,none⟩),.int .i64 o1,.int .i64 o2]) w0):=fun w0 h0=>by
  have:=h0.look underlying92 (lG w0) (L:=i) (x:=y) (by omega) yl;unfold bz at this;rw[if_pos hj,<-hJ.out]at this;rw[ho1.out,ho2.out];exact this
 have HM:=ac (h.kept bW);have HR:=ac (range_keep hr bW hbw);have HK:=ac (hk.keep bW);have HB:=ac bW;have hbW:b<W.heap.size:=by omega
 clear h hr hk bW hj;go_enter func48,ntmps48;go_wp2_with (refine lj mB ?_);rw[<-hW];intro w1 B3 hb1 hs1;simp only[Act.put,ae,List.set];have hSz:w1.heap.size=w.heap.size+3:=by omega
 rw[zW]at B3;go_wp2
 refine aB [9] (fun w'=>aa w' w.heap.size [.int .i64 n,cs,bs,.map (some gn)] 94/\aa w' (w.heap.size+1) [.int .i64 (N:Nat),.int .u64 (x:Nat)] 83/\CM w' gn c (bz l b off av l.length)/\w'.rangeAt b (off+J*22) rs) (by kernel_rfl) ?_
 have hS:aa w1.drew w.heap.size [.int .i64 n,cs,bs,.map (some gn)] 94/\aa w1.drew (w.heap.size+1) [.int .i64 (N:Nat),.int .u64 (x:Nat)] 83/\CM w1.drew gn c (bz l b off av l.length)/\w1.drew.rangeAt b (off+J*22) rs:=⟨B1.kept hb1.drew,B2.kept hb1.drew,HM.out.kept hb1.drew,range_keep HR.out hb1.drew hbW⟩
 have HK1:Hid (KI w1.drew rs A):=HK.out.keep hb1.drew;have B31:Hid (aa w1.drew (w.heap.size+2) zv 44):=B3;have HB1:Hid (Below w.heap.size w w1.drew):=(bg HB.out hb1).drew
 have zY:w.heap.size+2<w1.drew.heap.size:=B31.out.lt;have hbY:b<w1.drew.heap.size:=by show b<w1.heap.size;omega
 generalize w1.drew=Y at *;clear B1 B2 HM HR HK HB hb1 B3 hW;refine aF 0 hS rfl (fun w0 h0=>by have c3:=h0.1.cell 3 rfl;have d0:=h0.2.1.cell 0 rfl;have d1:=h0.2.1.cell 1 rfl;go_simp;try with_reducible rfl) ?_
 refine aF 1 hS rfl (fun w0 h0=>by have c3:=h0.1.cell 3 rfl;have d0:=h0.2.1.cell 0 rfl;have d1:=h0.2.1.cell 1 rfl;go_simp;try with_reducible rfl) ?_
 refine aF 2 hS rfl (fun w0 h0=>by have c3:=h0.1.cell 3 rfl;have d0:=h0.2.1.cell 0 rfl;have d1:=h0.2.1.cell 1 rfl;go_simp;try with_reducible rfl) ?_
 refine aF 3 hS rfl (fun w0 h0=>by have c3:=h0.1.cell 3 rfl;have d0:=h0.2.1.cell 0 rfl;have d1:=h0.2.1.cell 1 rfl;go_simp;try with_reducible rfl) ?_;refine aO 4 ?_;intro K hK;go_simp;refine mr (CB.out _) fun w4 hb=>?_;replace hS:=And.intro (hS.1.kept hb) (And.intro (hS.2.1.kept hb) (And.intro (hS.2.2.1.kept hb) (range_keep hS.2.2.2 hb hbY)));have HK4:=ac (HK1.out.keep hb);have B34:=ac (B31.out.kept hb)
 have HB4:=ac (bg HB1.out hb);clear hb HK1 B31 HB1 CB;refine hK.out _ _ (fun _=>hS) ?_;clear hK K;try simp only[Act.put,ak,aj,ai,ae,ah,ag]
 refine aF 5 hS rfl (fun w0 h0=>by have c3:=h0.1.cell 3 rfl;have d0:=h0.2.1.cell 0 rfl;have d1:=h0.2.1.cell 1 rfl;have hlk:=HLK.out w0 h0.2.2.1;go_simp;try with_reducible rfl) ?_
 refine aF 6 hS rfl (fun w0 h0=>by have c3:=h0.1.cell 3 rfl;have d0:=h0.2.1.cell 0 rfl;have d1:=h0.2.1.cell 1 rfl;have hfn:=wJ ⟨b,off+J*22,none⟩ o1 o2 w0;go_simp;try with_reducible rfl) ?_
 refine aF 7 hS rfl (fun w0 h0=>by have c3:=h0.1.cell 3 rfl;have d0:=h0.2.1.cell 0 rfl;have d1:=h0.2.1.cell 1 rfl;go_simp;try with_reducible rfl) ?_
 refine aq.take 8 (v:=.agg rs.toArray) rfl (by kernel_rfl) (by kernel_rfl) (by kernel_rfl) (by kernel_rfl) (fun _ _ _ h=>h) hS (fun w0 h0=>sV b (off+J*22) rs rfl h0.2.2.2 underlying44 HK4.out.arg.len) (by rfl) ?rest8
 simp only[Act.put,ak,aj,ai,ae,ah,ag];refine aO 9 ?_;intro K hK;refine kf (w.heap.size+2) _ rs rfl rfl B34.out (by rw[<-HK4.out.arg.nine];rfl) HK4.out.arg.len HK4.out.arg.one ?_;intro w9 B9 hO9
 have HB9:=ac (HB4.out.trans (hO9.below (by omega)));have B9h:=ac B9;refine hK.out _ _ (fun h=>absurd (by decide) h) ?_;clear hK K;try simp only[Act.put,ak,aj,ai,ae,ah,ag]
 refine aq.done (by kernel_rfl) ?_ _;have HL:=ac HK4.out.arg.len;clear hS B9 hO9 HB4 B34 HK4 HLK;go_wp2;exact bodyPost_ret (AP rfl (w.heap.size+2) rs rfl B9h.out underlying44 HL.out) rfl ⟨rfl,HB9.out⟩
open Go.RowKit Num Bit Ji Hp
end Go.Proofs.YtleegaihbgbcjaaGreatDoor
namespace Go.Proofs.YtleegaihbgbcjaaGreatDoor
open Go.RowKit Num Bit
def stp(k M x:Nat):Nat:=(x/2^k&&&M)|||((x&&&M)*2^k)
def FJ(x:Nat):Nat:=(x/4294967296)|||(x*4294967296%18446744073709551616)
theorem m1:∀j,j<64->(6148914691236517205:Nat).testBit j=decide (j/1%2=0):=by decide
theorem m2:∀j,j<64->(3689348814741910323:Nat).testBit j=decide (j/2%2=0):=by decide
theorem m4:∀j,j<64->(1085102592571150095:Nat).testBit j=decide (j/4%2=0):=by decide
def Ax(x:Nat):Nat:=FJ (stp 16 281470681808895 (stp 8 71777214294589695 x))
def rv(x:Nat):Nat:=Ax (stp 4 1085102592571150095 (stp 2 3689348814741910323 (stp 1 6148914691236517205 x)))
open Go.RowKit Num Bit Ji Hp Ka Hr
def cZ(v:Nat->Nat):List Int:=(List.range 256).map fun c=>(v c:Int)
theorem length_lst(v:Nat->Nat):(cZ v).length=256:=by simp[cZ]
theorem gi_lst(v:Nat->Nat)(c:Nat)(h:c<256):gi (cZ v) c=(v c:Int):=by
 unfold gi cZ;rw[List.getD_eq_getElem?_getD,List.getElem?_map,List.getElem?_range h];rfl
structure rQ (v:Nat->Nat):Prop where
 le:∀c,v c<=40
 out:∀c,256<=c->v c=0
 fit:fi v=true
theorem oL{v:Nat->Nat}(h:∀c,256<=c->v c=0):ay (cZ v)=v:=by
 funext c;unfold ay;by_cases g:c<256
 .rw[gi_lst v c g,Int.toNat_natCast]
 .have:gi (cZ v) c=0:=by unfold gi;rw[List.getD_eq_getElem?_getD,List.getElem?_eq_none (by rw[length_lst];omega)];rfl
  rw[this,h c (by omega)];rfl
theorem x6{l:List Int}{top:Int}(h1:l.length=256)(h2:∀i,i<l.length->0<=gi l i/\gi l i<=top):cY l top=true:=by
 unfold cY
 have:l.any (bad top)=false:=xI fun i hi=>by
  have:=h2 i hi;unfold bad;simp;omega
 rw[this];simp[h1]
theorem uU{v:Nat->Nat}(h:rQ v):fd (cZ v)=true:=by
 unfold fd;rw[x6 (length_lst v) (fun i hi=>by rw[length_lst]at hi;rw[gi_lst v i hi];have:=h.le i;omega),oL h.out,h.fit];rfl
def hl0:List Nat:=(((List.replicate 256 0).set 97 3).set 98 1).set 99 1
def FK:List Int:=hl0.map fun n:Nat=>(n:Int)
theorem hu:used (ay FK) 256=[97,98,99]:=by decide +kernel
theorem DL(l:List Int)(h:cY l 1048576=true):rQ (hlen (ay l) 256):=by
 obtain⟨h1,h2⟩:=jE h;obtain⟨f1,f2,_⟩:=hlen_fit (ay l) (xd h2);exact⟨f2,fun c hc=>hlen_none _ c (fun g=>by have:=(f_.1 g).1;omega),f1⟩
theorem FI(l:List Int):(fh l).map (fun n:Nat=>(n:Int))=cZ (hlen (ay l) 256):=by
 unfold fh cZ;rw[List.map_map];rfl
theorem hcell{w:World}{g:Nat}{l:List Int}(h:aa w g (aX (fh l)) 3)(c:Nat)(hc:c<256):w.cell? ⟨g,c,none⟩=some (.int .i64 (hlen (ay l) 256 c:Nat)):=by
 have:=h.cell c (jU _ c (by simp[fh];omega));rw[this];unfold fh;rw[List.getD_eq_getElem?_getD,List.getElem?_map,List.getElem?_range hc];rfl
end Go.Proofs.YtleegaihbgbcjaaGreatDoor
namespace Go.Proofs.YtleegaihbgbcjaaGreatDoor.Sh
open Num Bit Hr
theorem least{p:Nat->Prop}:∀n,p n->∃m,p m/\∀j,j<m->¬p j:=by
 intro n;induction n using Nat.strongRecOn with
 | ind n ih=>
  intro h;by_cases g:∃j,j<n/\p j
  .obtain⟨j,h1,h2⟩:=g;exact ih j h1 h2
  .exact⟨n,h,fun j hj hp=>g ⟨j,hj,hp⟩⟩
theorem inj_le{α:Type}:∀(l:List α) (m:List Nat) (f:α->Nat),l.Nodup->(∀a,a∈l->∀b,b∈l->f a=f b->a=b)->(∀a,a∈l->f a∈m)->l.length<=m.length
 | [],_,_,_,_,_=>Nat.zero_le _
 | a::l,m,f,hn,hi,hm=>by
  have ha:=hm a (List.mem_cons_self ..);have hn':=List.nodup_cons.1 hn
  have ih:=inj_le l (m.erase (f a)) f hn'.2 (fun b hb d hd e=>hi b (List.mem_cons_of_mem _ hb) d (List.mem_cons_of_mem _ hd) e) (fun b hb=>by
   refine(List.mem_erase_of_ne fun e=>?_).2 (hm b (List.mem_cons_of_mem _ hb))
   exact hn'.1 (hi b (List.mem_cons_of_mem _ hb) a (List.mem_cons_self ..) e ▸ hb))
  rw[List.length_erase_of_mem ha]at ih;have:=List.length_pos_of_mem ha;rw[List.length_cons];omega
section
variable (l:Nat->Nat)
theorem apart_code(h40:∀c,l c<=40)(hout:∀c,256<=c->l c=0):Apart l (fp l 256):=fun c d hc hd hle e=>by
 refine Classical.byContradiction fun hne=>?_;have c1:c<256:=Nat.lt_of_not_le fun z=>by have:=hout c z;omega
 have d1:d<256:=Nat.lt_of_not_le fun z=>by have:=hout d z;omega
 exact(apart l 256 hc hd (h40 d) c1 d1 hne hle).1 e
end
end Go.Proofs.YtleegaihbgbcjaaGreatDoor.Sh
namespace Go.Proofs.YtleegaihbgbcjaaGreatDoor
open Go.RowKit Num Bit
theorem rm(l:List Bool)(b:Bool)(i:Nat)(h:i<l.length):Sh.ct b l (i+1)=Sh.ct b l i+(bt l i==b).toNat:=by
 unfold Sh.ct;rw[List.take_add_one,List.filter_append,List.length_append,List.getElem?_eq_getElem h];unfold bt;rw[List.getD_eq_getElem?_getD,List.getElem?_eq_getElem h];cases e:(l[i]==b)<;>simp[e]
theorem w_(l:List Bool):∀i,i<=l.length->cntB (frL l) i=Sh.ct true l i
 | 0,_=>by simp[cntB,Sh.ct]
 | i+1,h=>by
  rw[cntB,w_ l i (by omega),rm l true i (by omega)];unfold frL;rw[eF,decide_eq_true (show i<l.length by omega),Bool.true_and];cases bt l i<;>rfl
theorem rp(l:List Bool):∀i,i<=l.length->Sh.ct true l i+Sh.ct false l i=i
 | 0,_=>by simp[Sh.ct]
 | i+1,h=>by
  have:=rp l i (by omega);rw[rm l true i (by omega),rm l false i (by omega)];cases bt l i<;>simp<;>omega
theorem oO(l:List Bool)(b:Bool)(i:Nat)(h:i<=l.length):cB (frL l) b i=Sh.ct b l i:=by
 unfold cB;rw[w_ l i h];have:=rp l i h;cases b
 .simp;omega
 .simp
theorem jT{k:Int}(hk:1<=k/\k<=3)(l:List Bool)(h:l.length<=3000):aJ (kB k (l.length:Int) (frL l))=true/\kBN (kB k (l.length:Int) (frL l))=(l.length:Int)/\aQ (kB k (l.length:Int) (frL l))=frL l:=EM k _ _ hk.1 hk.2 (db _ _) (dO _ _ (by omega)) (by omega)
theorem rK(l:List Bool)(i:Nat)(b:Bool)(h:l[i]?=some b):bitAt (frL l) i=b:=by
 unfold frL
 have hi:i<l.length:=by
  by_cases g:i<l.length
  .exact g
  .rw[List.getElem?_eq_none (by omega)]at h;cases h
 rw[eF,decide_eq_true hi,Bool.true_and];unfold bt;rw[List.getD_eq_getElem?_getD,h];rfl
def vT(t:List Nat):Nat->Nat:=Hp.hlen (ay (aV (ctl t t.length))) 256
def kT(t:List Nat):Nat->Nat:=cod (vT t)
def nT(t:List Nat):List (Nat×Nat):=Sh.nds (vT t) (kT t)
def rwT(t:List Nat)(p:Nat×Nat):List Bool:=Sh.nrow (vT t) (kT t) t p.1 p.2
def aT(k:Int)(t:List Nat):List RA:=(nT t).map fun p=>kB k ((rwT t p).length:Int) (frL (rwT t p))
theorem Ih(t:List Nat)(c:Nat)(h:c<256):ay (aV (ctl t t.length)) c=Sh.cp (fun d=>decide (d=c)) t t.length:=by
 unfold ay aV gi;rw[List.getD_eq_getElem?_getD,List.getElem?_map,List.getElem?_eq_getElem (by rw[ia];exact h)];have:=kO t t.length c h;unfold gt at this
 rw[List.getD_eq_getElem?_getD,List.getElem?_eq_getElem (by rw[ia];exact h)]at this;simpa using this
theorem pi(t:List Nat)(h:t.length<=1048576):cY (aV (ctl t t.length)) 1048576=true:=sk _ (ia _ _) fun y hy=>by
 obtain⟨c,_,rfl⟩:=List.mem_map.1 hy;have:=Sh.cp_le (fun d=>decide (d=c)) t t.length;omega
theorem dp(t:List Nat)(h:t.length<=1048576):rQ (vT t):=DL _ (pi t h)
theorem uR(t:List Nat):aV (fh (aV (ctl t t.length)))=cZ (vT t):=FI _
theorem ss(t:List Nat)(h:t.length<=1048576)(c:Nat)(hc:c<256):0<vT t c↔0<Sh.cp (fun d=>decide (d=c)) t t.length:=by
 have:=(Ka.hlen_fit (ay (aV (ctl t t.length))) (xd (jE (pi t h)).2)).2.2 c hc;rw[Ih t c hc]at this;exact this
theorem Hh{P:Nat->Bool}{t:List Nat}{j n:Nat}(hj:j<n)(h:P (gt t j)=true):0<Sh.cp P t n:=by
 have:=Sh.cp_mono P t (j+1) (n-(j+1));rw[show j+1+(n-(j+1))=n by omega,Sh.cp,h]at this;simp at this;omega
theorem fF(t:List Nat)(h:t.length<=1048576)(hB:cM t)(j:Nat)(hj:j<t.length):0<vT t (gt t j):=(ss t h _ (hB j)).2 (Hh hj (by simp))
theorem bP(t:List Nat)(h:t.length<=1048576)(c:Nat):kT t c<2^vT t c:=by
 have hL:=dp t h;unfold kT cod;by_cases h0:0<vT t c
 .rw[if_pos h0]
  have hc:c<256:=by
   by_cases g:c<256
   .exact g
   .have:=hL.out c (by omega);omega
  exact Hr.code_lt _ _ h0 (hL.le c) hc (Ka.fit_need hL.fit)
 .rw[if_neg h0];exact Nat.two_pow_pos _
theorem fw(t:List Nat)(h:t.length<=1048576):Sh.Apart (vT t) (kT t):=fun c d hc hd hle e=>by
 have hL:=dp t h;refine Sh.apart_code (vT t) hL.le hL.out c d hc hd hle ?_;unfold Sh.pre at e⊢;unfold kT cod at e;rw[if_pos hd,if_pos hc]at e;exact e
theorem aT_len(k:Int)(t:List Nat):(aT k t).length=(nT t).length:=by unfold aT;simp
theorem j5{k:Int}{t:List Nat}{j:Nat}{p:Nat×Nat}(h:(nT t)[j]?=some p):(aT k t).getD j cy=kB k ((rwT t p).length:Int) (frL (rwT t p)):=by
 unfold aT;rw[List.getD_eq_getElem?_getD,List.getElem?_map,h];rfl
theorem kG(t:List Nat)(p:Nat×Nat):(rwT t p).length=Sh.cp (Sh.st (vT t) (kT t) p.1 p.2) t t.length:=by
 unfold rwT Sh.nrow;exact Sh.length_row _ _ _ _
theorem gF(t:List Nat)(p:Nat×Nat):(rwT t p).length<=t.length:=by rw[kG];exact Sh.cp_le _ _ _
theorem tJ{k:Int}(hk:1<=k/\k<=3){t:List Nat}(hn:t.length<=3000){j:Nat}{p:Nat×Nat}(h:(nT t)[j]?=some p):bF (aT k t) j=((rwT t p).length:Int)/\bM (aT k t) j=(Sh.ct true (rwT t p) (rwT t p).length:Int):=by
 have hl:=gF t p;obtain⟨e1,e2,e3⟩:=jT hk (rwT t p) (by omega);unfold bF bM;rw[j5 h,e2,e3,Int.toNat_natCast,oO _ _ _ (Nat.le_refl _)];exact⟨rfl,rfl⟩
theorem wR(t:List Nat)(L x:Nat)(b:Bool):Sh.ct b (rwT t (L,x)) (rwT t (L,x)).length=Sh.cp (Sh.bg (vT t) (kT t) (L+1) (2*x+b.toNat)) t t.length:=by
 rw[kG];unfold rwT Sh.nrow;rw[Sh.row_ct _ _ _ _ _ (Nat.le_refl _)];exact Sh.cp_congr fun j _=>Sh.st_step _ _ _ _ _ _
theorem sK{k:Int}(hk:1<=k/\k<=3){t:List Nat}(hn:t.length<=3000){L x:Nat}(hL:0<L)(hp:(L-1,x/2)∈nT t):Sh.szN (nT t) (bF (aT k t)) (bM (aT k t)) (t.length:Int) L x=(Sh.cp (Sh.bg (vT t) (kT t) L x) t t.length:Int):=by
 have hg:=Sh.get_ixo hp;obtain⟨e1,e2⟩:=tJ hk hn hg;have c1:=wR t (L-1) (x/2) true;have c0:=wR t (L-1) (x/2) false;have cb:=rp (rwT t (L-1,x/2)) _ (Nat.le_refl _)
 rw[show L-1+1=L by omega]at c1 c0;unfold Sh.szN;rw[if_neg (by omega),e1,e2];by_cases o:x%2=1
 .rw[if_pos o,c1,show 2*(x/2)+true.toNat=x by simp;omega]
 .rw[if_neg o];rw[show 2*(x/2)+false.toNat=x by simp;omega]at c0;omega
theorem ks{t:List Nat}(hn:t.length<=3000){L x:Nat}(h:(L,x)∈nT t):∃c,c<256/\L<vT t c/\Sh.pre (vT t) (kT t) L c=x:=by
 unfold nT at h;rw[Sh.mem_nds _ _ _ _ (bP t (by omega))]at h;exact(Sh.isN_iff _ _ _ _).1 h.2
theorem IA{k:Int}(hk:1<=k/\k<=3){t:List Nat}(hn:t.length<=3000)(hB:cM t)(i:Nat)(hi:i<(aT k t).length):fq (nT t) k (t.length:Int) (aT k t) i=true:=by
 rw[aT_len]at hi;obtain⟨⟨L,x⟩,hp⟩:∃p,(nT t)[i]?=some p:=⟨_,List.getElem?_eq_getElem hi⟩;have hmem:(L,x)∈nT t:=List.mem_of_getElem? hp;obtain⟨c,hc,hcl,hpre⟩:=ks hn hmem;have kl:=bP t (by omega)
 rw[xk hp]
 have hK:(kB k ((rwT t (L,x)).length:Int) (frL (rwT t (L,x)))).K=k:=by
  have hr:=gF t (L,x);have he:kE k ((rwT t (L,x)).length:Int) (frL (rwT t (L,x)))=0:=nY k _ _ hk.1 hk.2 (dO _ _ (by omega));unfold kB;rw[if_pos he]
 have hl:=gF t (L,x);rw[j5 hp,(jT hk (rwT t (L,x)) (by omega)).1,hK,(tJ hk hn hp).1,kG]
 have key:(Sh.cp (Sh.st (vT t) (kT t) L x) t t.length:Int)=Sh.szN (nT t) (bF (aT k t)) (bM (aT k t)) (t.length:Int) L x:=by
  by_cases h0:L=0
  .subst h0;have x0:x=0:=by rw[<-hpre];exact Sh.pre_zero _ _ (kl c)
   subst x0;unfold Sh.szN;rw[if_pos rfl,Sh.cp_all];intro j hj;unfold Sh.st;rw[decide_eq_true (fF t (by omega) hB j hj),Sh.pre_zero _ _ (kl _)];rfl
  .rw[sK hk hn (by omega) (Sh.node_up _ _ kl hmem (by omega))];congr 1;refine Sh.cp_congr fun j hj=>?_;rw[<-hpre];exact(Sh.bg_st _ _ (fw t (by omega)) hcl (fF t (by omega) hB j hj)).symm
 rw[<-key];simp
theorem sL{k:Int}(hk:1<=k/\k<=3){t:List Nat}(hn:t.length<=3000)(hB:cM t)(c:Nat)(hc:c<256)(h0:0<vT t c):szC (vT t) (t.length:Int) (aT k t) c=Sh.cp (fun d=>decide (d=c)) t t.length:=by
 have hL:=dp t (by omega);have kl:=bP t (by omega);unfold szC;have:=sK hk hn h0 (Sh.leaf_up _ _ kl hL.le hc h0)
 rw[show Sh.szN (Sh.nds (vT t) (cod (vT t))) (bF (aT k t)) (bM (aT k t)) (t.length:Int) (vT t c) (cod (vT t) c)=_ from this,Int.toNat_natCast]
 exact Sh.cp_congr fun j hj=>Sh.bg_all _ _ (fw t (by omega)) h0 (fF t (by omega) hB j hj)
theorem mG{t:List Nat}(hn:t.length<=3000){c:Nat}(hc:c<256)(h:vT t c=0):Sh.cp (fun d=>decide (d=c)) t t.length=0:=by
 have:=ss t (by omega) c hc;omega
theorem wT(t:List Nat)(q:Nat):∀n,Sh.cp (fun d=>decide (d<q+1)) t n=Sh.cp (fun d=>decide (d<q)) t n+Sh.cp (fun d=>decide (d=q)) t n
 | 0=>rfl
 | n+1=>by
  rw[Sh.cp,Sh.cp,Sh.cp,wT t q n];by_cases h1:gt t n<q
  .rw[decide_eq_true (show gt t n<q+1 by omega),decide_eq_true h1,decide_eq_false (show ¬gt t n=q by omega)];simp;omega
  .by_cases h2:gt t n=q
   .rw[decide_eq_true (show gt t n<q+1 by omega),decide_eq_false h1,decide_eq_true h2];simp;omega
   .rw[decide_eq_false (show ¬gt t n<q+1 by omega),decide_eq_false h1,decide_eq_false h2];simp
theorem uQ{k:Int}(hk:1<=k/\k<=3){t:List Nat}(hn:t.length<=3000)(hB:cM t):∀q,q<=256->lsum (vT t) (szC (vT t) (t.length:Int) (aT k t)) q=Sh.cp (fun d=>decide (d<q)) t t.length
 | 0,_=>by
  rw[lsum,Sh.cp_congr (Q:=fun _=>false) (fun j _=>decide_eq_false (by omega))];generalize t.length=n;induction n with
  | zero=>rfl
  | succ n ih=>rw[Sh.cp,<-ih];rfl
 | q+1,h=>by
  rw[lsum,uQ hk hn hB q (by omega),wT];by_cases h0:0<vT t q
  .rw[if_pos h0,sL hk hn hB q (by omega) h0]
  .rw[if_neg h0,mG hn (by omega) (by omega)]
theorem Eo{k:Int}(hk:1<=k/\k<=3){t:List Nat}(hn:t.length<=3000)(hB:cM t):c_ (vT t) (szC (vT t) (t.length:Int) (aT k t)) 256=ctl t t.length:=by
 refine list_ext _ _ (by rw[h_,ia]) fun c hc=>?_;rw[h_]at hc;rw[qG _ _ _ _ hc,kO _ _ _ hc];by_cases h0:0<vT t c
 .rw[if_pos ⟨hc,h0⟩,sL hk hn hB c hc h0]
 .rw[if_neg (fun g=>h0 g.2),mG hn hc (by omega)]
theorem pH{k:Int}(hk:1<=k/\k<=3){t:List Nat}(hn:t.length<=3000)(hB:cM t):bn k (t.length:Int) (cZ (vT t)) (aT k t)=true:=by
 have hL:=dp t (by omega);have e:ay (cZ (vT t))=vT t:=oL hL.out;rw[tt (uU hL) (by rw[e];exact(aT_len k t).symm) (by omega) hk (by rw[e];exact fun i hi=>IA hk hn hB i hi),e]
 refine decide_eq_true ?_;unfold gZ;rw[uQ hk hn hB 256 (Nat.le_refl _),Sh.cp_all _ _ _ (fun j _=>decide_eq_true (hB j)),if_pos rfl,Eo hk hn hB,uR]
structure SX (w:World) (cs:List Value) (k:Int) (t:List Nat):Prop where
 ex:∃lo lc no nc,cs=[.int .i64 k,.int .i64 (t.length:Int),.slice lo 256 lc,.slice no (aT k t).length nc]/\Nd w lo (cZ (vT t))/\Lv w no (aT k t)
 kn:1<=k/\k<=3
 le:t.length<=3000
 by_:cM t
 gv:GV w
theorem SX.keep{w w':World}{cs:List Value}{k:Int}{t:List Nat}(h:SX w cs k t)(hb:Below w.heap.size w w'):SX w' cs k t:=by
 obtain⟨⟨lo,lc,no,nc,e,h1,h2⟩,a,b,c,d⟩:=h;exact⟨⟨lo,lc,no,nc,e,h1.keep hb,h2.keep hb⟩,a,b,c,d.keep hb⟩
theorem kt{t:List Nat}(hn:t.length<=3000):(nT t).length<=10240:=by
 have hL:=dp t (by omega)
 have key:∀p:Nat×Nat,∃c,p∈nT t->c<256/\p.1<vT t c/\Sh.pre (vT t) (kT t) p.1 c=p.2:=fun p=>by
  by_cases h:p∈nT t
  .obtain⟨c,h1⟩:=ks hn (L:=p.1) (x:=p.2) h;exact⟨c,fun _=>h1⟩
  .exact⟨0,fun g=>absurd g h⟩
 have:=Sh.inj_le (nT t) (List.range 10240) (fun p=>Classical.choose (key p)*40+p.1) (Sh.nodup_nds _ _) (fun a ha b hb e=>?_) (fun a ha=>?_)
 .simpa using this
 .obtain⟨a1,a2,a3⟩:=Classical.choose_spec (key a) ha;obtain⟨b1,b2,b3⟩:=Classical.choose_spec (key b) hb;have v1:=hL.le (Classical.choose (key a));have v2:=hL.le (Classical.choose (key b))
  have e1:a.1=b.1:=by omega
  have e2:Classical.choose (key a)=Classical.choose (key b):=by omega
  refine Prod.ext e1 ?_;rw[<-a3,<-b3,e2];exact congrArg (fun L=>Sh.pre (vT t) (kT t) L _) e1
 .obtain⟨a1,a2,a3⟩:=Classical.choose_spec (key a) ha;have v1:=hL.le (Classical.choose (key a));exact List.mem_range.2 (by omega)
structure OT (w:World) (k:Int) (t:List Nat) (n:Int) (cv bv:Value) (gn:Nat):Prop where
 ex:∃gc bo bc c b off,cv=.slice (some ⟨gc,0,none⟩) 256 256/\bv=.slice bo (nT t).length bc/\aa w gc (cC (vT t)) 83/\Cs w bo (nT t)/\CM w gn c (bz (nT t) b off (aT k t) (nT t).length)/\(0<(nT t).length->b<w.heap.size/\∀j,j<(nT t).length->∃cs,w.rangeAt b (off+j*22) cs/\KI w cs ((aT k t).getD j cy))
theorem OT.keep{w w':World}{k:Int}{t:List Nat}{n:Int}{cv bv:Value}{gn:Nat}(h:OT w k t n cv bv gn)(hb:Below w.heap.size w w'):OT w' k t n cv bv gn:=by
 obtain⟨gc,bo,bc,c,b,off,e1,e2,h1,h2,h3,h4⟩:=h;refine⟨gc,bo,bc,c,b,off,e1,e2,h1.kept hb,h2.keep hb,h3.kept hb,fun h0=>?_⟩;obtain⟨a1,a2⟩:=h4 h0;refine⟨Nat.lt_of_lt_of_le a1 hb.size,fun j hj=>?_⟩
 obtain⟨cs,b1,b2⟩:=a2 j hj;exact⟨cs,range_keep b1 hb a1,b2.keep hb⟩
theorem OT.one{w:World}{k:Int}{t:List Nat}{n:Int}{cv bv:Value}{gn:Nat}(h:OT w k t n cv bv gn):cv.oneCell'=true/\bv.oneCell'=true:=by
 obtain⟨gc,bo,bc,c,b,off,e1,e2,_⟩:=h;rw[e1,e2];exact⟨rfl,rfl⟩
theorem mZ(cs:List Value)(k:Int)(t:List Nat)(w:World)(h:SX w cs k t):
  Calls prog 43 #[.agg cs.toArray] w fun e w'=>∃cv bv gn,e=.returned (.tuple #[.agg #[.int .i64 (t.length:Int),cv,bv,.map (some gn)],.bool true])/\OT w' k t (t.length:Int) cv bv gn/\Below w.heap.size w w':=by
 obtain⟨⟨lo,lc,no,nc,rfl,h1,h2⟩,hk,hn,hB,G⟩:=h;have hL:=dp t (by omega);have e0:ay (cZ (vT t))=vT t:=oL hL.out
 have C:=pB k (t.length:Int) lo (cZ (vT t)) lc no (aT k t) nc w (by unfold ax;omega) (by unfold ax;omega) h1 (by rw[length_lst];omega) h2 (by rw[aT_len];have:=kt hn;omega) G
 rw[length_lst,pH hk hn hB]at C;refine C.mono ?_;rintro e w' ⟨sv,rfl,_,ho,hb⟩;obtain⟨⟨gc,bo,bc,gn,c,b,off,rfl,a1,a2,a3,a4⟩⟩:=ho rfl;rw[e0]at a1 a2 a3
 refine⟨_,_,gn,by rw[e0];rfl,⟨gc,bo,bc,c,b,off,rfl,rfl,a1,a2,a3,fun h0=>?_⟩,hb⟩;rw[<-aT_len k t]at h0;obtain⟨b',off',e1,e2,e3⟩:=h2 h0;have:=(a4 h0).symm.trans e1
 simp only[Option.some.injEq,Addr.mk.injEq,and_true]at this;obtain⟨rfl,rfl⟩:=this;refine⟨Nat.lt_of_lt_of_le e2 hb.size,fun j hj=>?_⟩;obtain⟨cs,b1,b2⟩:=e3 j (by rw[aT_len];exact hj)
 exact⟨cs,range_keep b1 hb e2,b2.keep hb⟩
theorem uB{t:List Nat}(hn:t.length<=3000){c l:Nat}(hc:c<256)(hl:l<vT t c):(l,Sh.pre (vT t) (kT t) l c)∈nT t:=by
 have hL:=dp t (by omega);unfold nT;rw[Sh.mem_nds _ _ _ _ (bP t (by omega))];have:=hL.le c;exact⟨by omega,(Sh.isN_iff _ _ _ _).2 ⟨c,hc,hl,rfl⟩⟩
theorem sY(k:Int)(t:List Nat)(n:Int)(cv bv:Value)(gn c l:Nat)(w:World)(h:OT w k t n cv bv gn)(hn:t.length<=3000)(hc:c<256)(hl:l<vT t c):
  Calls prog 48 #[.agg #[.int .i64 n,cv,bv,.map (some gn)],.agg #[.int .i64 (vT t c:Nat),.int .u64 (kT t c:Nat)],.int .i64 (l:Int)] w fun e w'=>∃rs:List Value,e=.returned (.agg rs.toArray)/\KI w' rs (kB k ((rwT t (l,Sh.pre (vT t) (kT t) l c)).length:Int) (frL (rwT t (l,Sh.pre (vT t) (kT t) l c))))/\Below w.heap.size w w':=by
 have h1:=h.one;have hL:=dp t (by omega);have hv:=hL.le c;have hm:=uB hn hc hl;have hj:=Sh.ixo_lt hm;obtain⟨gc,bo,bc,c',b,off,e1,e2,a1,a2,a3,a4⟩:=h;obtain⟨hb,hr⟩:=a4 (by omega)
 obtain⟨rs,r1,r2⟩:=hr _ hj;rw[j5 (Sh.get_ixo hm)]at r2
 refine(yU n cv bv gn c' b off 0 (vT t c) (kT t c) l (nT t) (aT k t) rs _ w h1.1 h1.2 a3 (by omega) (by omega) (iD (bP t (by omega) c) hv) hj hb r1 r2).mono ?_;rintro e w' ⟨rfl,hb'⟩;exact⟨rs,rfl,r2.keep hb',hb'⟩
theorem tI{k:Int}(hk:1<=k/\k<=3){t:List Nat}(hn:t.length<=3000)(hB:cM t){c l i:Nat}(hl:l<vT t c)(hi:i<=t.length):
  grN (aJ (kB k ((rwT t (l,Sh.pre (vT t) (kT t) l c)).length:Int) (frL (rwT t (l,Sh.pre (vT t) (kT t) l c))))) (kBN (kB k ((rwT t (l,Sh.pre (vT t) (kT t) l c)).length:Int) (frL (rwT t (l,Sh.pre (vT t) (kT t) l c))))) (aQ (kB k ((rwT t (l,Sh.pre (vT t) (kT t) l c)).length:Int) (frL (rwT t (l,Sh.pre (vT t) (kT t) l c))))) (Sh.nb (vT t) (kT t) l c) (Sh.cc (vT t) (kT t) t c l i:Int)=(Sh.cc (vT t) (kT t) t c (l+1) i:Int):=by
 have hr:=gF t (l,Sh.pre (vT t) (kT t) l c);obtain⟨e1,e2,e3⟩:=jT hk (rwT t (l,Sh.pre (vT t) (kT t) l c)) (by omega);have vs:=fF t (by omega) hB
 have hcc:Sh.cc (vT t) (kT t) t c l i<=(rwT t (l,Sh.pre (vT t) (kT t) l c)).length:=by
  rw[kG,Sh.cc_st _ _ (fw t (by omega)) hl (fun j hj=>vs j (by omega))];have:=Sh.cp_mono (Sh.st (vT t) (kT t) l (Sh.pre (vT t) (kT t) l c)) t i (t.length-i);rw[show i+(t.length-i)=t.length by omega]at this
  exact this
 unfold grN;rw[e1,e2,e3,if_pos (qI rfl (by omega) (by omega)),Int.toNat_natCast,oO _ _ _ hcc];have:=Sh.cc_down (vT t) (kT t) (fw t (by omega)) hl hi vs;unfold rwT;rw[this]
theorem yV(cs:List Value)(k:Int)(t:List Nat)(c:Nat)(i:Int)(w:World)(h:SX w cs k t)(hc:c<256)(hi:ax i):
  Qq 14 #[.agg cs.toArray,.int .u8 (c:Int),.int .i64 i] w (.tuple #[.int .i64 (iY t c i),.int .i64 (gU t i)]):=by
 have HSX:=ac h;have hkn:=h.kn;have hle:=h.le;have HBy:=ac h.by_;obtain⟨⟨lo,lc,no,nc,rfl,_,_⟩,_,_,_,_⟩:=h;have hL:=ac (dp t (by omega))
 obtain⟨W,hW⟩:∃W,W=w.alloc (.cells #[.int .i64 k,.int .i64 (t.length:Int),.slice lo 256 lc,.slice no (aT k t).length nc] 27):=⟨_,rfl⟩;have bW:=aM hW
 have B1:=ac (show aa W w.heap.size [.int .i64 k,.int .i64 (t.length:Int),.slice lo 256 lc,.slice no (aT k t).length nc] 27 by rw[hW];exact aa.new w _ _);have HB:=ac bW
 have C0:=ac (mZ _ k t W (HSX.out.keep bW));clear bW HSX;go_enter func14,ntmps14;go_wp2_with fail;rw[<-hW];refine C0.out.mono ?_;rintro e w1 ⟨cv,bv,gn,rfl,hot,hb⟩;have B11:=ac (B1.out.kept hb)
 have HB1:=ac (bg HB.out hb);have HO1:=ac hot;have hone:=hot.one;have z1:=B11.out.lt;clear hW hb C0 B1 HB hot;have c1:=B11.out.cell 1 rfl
 obtain⟨gc,bo,bc,c',b,off,rfl,rfl,a1,_⟩:=HO1.out.ex;clear hone;by_cases hi0:i<0
 .have hE:Hid (gU t i=3):=if_pos (.inl hi0);have hN:Hid (iY t c i=0):=if_neg (by rw[hE.out];decide);go_wp2;go_ret2;refine⟨by rw[hE.out,hN.out];rfl,?_⟩;exact HB1.out.alloc HB1.out.size _
 .by_cases hi1:(t.length:Int)<i
  .have hi1':i>(t.length:Int):=hi1;have hE:Hid (gU t i=3):=if_pos (.inr hi1);have hN:Hid (iY t c i=0):=if_neg (by rw[hE.out];decide);clear hi1;go_wp2;go_ret2;refine⟨by rw[hE.out,hN.out];rfl,?_⟩
   exact HB1.out.alloc HB1.out.size _
  .have hi1':¬i>(t.length:Int):=by omega
   have hE:Hid (gU t i=0):=if_neg (by omega);have hN:Hid (iY t c i=(Sh.cp (fun d=>decide (d=c)) t i.toNat:Int)):=if_pos hE.out;obtain⟨i,rfl⟩:=Int.eq_ofNat_of_zero_le (show 0<=i by omega)
   rw[Int.toNat_natCast]at hN;have q0:=a1.cell (c*2) (gD (vT t) c hc);have q1:=a1.cell (c*2+1) (gC (vT t) c hc);have lgc:=a1.lt;have v40:=hL.out.le c;clear a1;by_cases hv0:vT t c=0
   .have hz:Hid (Sh.cp (fun d=>decide (d=c)) t i=0):=by
     have h1:=mG hle hc hv0;have h2:=Sh.cp_mono (fun d=>decide (d=c)) t i (t.length-i);rw[show i+(t.length-i)=t.length by omega]at h2;show Sh.cp (fun d=>decide (d=c)) t i=0;omega
    rw[hv0]at q0;have q0':w1.cell? ⟨gc,c*2,none⟩=some (.int .i64 0):=q0;clear q0 hv0;go_wp2;go_ret2;refine⟨by rw[hE.out,hN.out,hz.out];rfl,?_⟩
    exact(HB1.out.alloc HB1.out.size _).alloc (by have:=HB1.out.size;simp;omega) _
   .have hvz:((vT t c:Int)==0)=false:=by simp;omega
    have HV0:=ac (show 0<vT t c by omega);clear hv0
    obtain⟨V,hV⟩:∃V,V=(w1.alloc (.cells #[.int .i64 (t.length:Int),.slice (some ⟨gc,0,none⟩) 256 256,.slice bo (nT t).length bc,.map (some gn)] 94)).alloc (.cells #[.int .i64 (vT t c:Nat),.int .u64 (cod (vT t) c:Nat)] 83):=⟨_,rfl⟩
    have bV:Below w1.heap.size w1 V:=by rw[hV];exact(below_alloc w1 _).alloc (by simp) _
    have K1:=ac (show aa V w1.heap.size [.int .i64 (t.length:Int),.slice (some ⟨gc,0,none⟩) 256 256,.slice bo (nT t).length bc,.map (some gn)] 94 by rw[hV];exact(aa.new w1 _ _).alloc _)
    have K2:=ac (show aa V (w1.heap.size+1) [.int .i64 (vT t c:Nat),.int .u64 (cod (vT t) c:Nat)] 83 by rw[hV];exact aa.new2 w1 _ _ _);have HOV:=ac (HO1.out.keep bV)
    have HBV:=ac (bg HB1.out bV);clear bV HO1 HB1;go_wp2
    rw[show((w1.alloc (.cells #[.int .i64 (t.length:Int),.slice (some ⟨gc,0,none⟩) 256 256,.slice bo (nT t).length bc,.map (some gn)] 94)).alloc (.cells #[.int .i64 (vT t c:Nat),.int .u64 (cod (vT t) c:Nat)] 83))=V from hV.symm]
    clear hV q0 q1 c1 B11;have HIL:=ac (show i<=t.length by omega);clear hi0 hi1' hi;generalize decide (t.length<i)=b1;generalize decide ((i:Int)<0)=b0
    have HCC0:Hid (Sh.cc (vT t) (kT t) t c 0 i=i):=Sh.cc_zero _ _ (bP t (by omega) c) fun j _=>bP t (by omega) _
    go_loopw [2,37] (fun vi vl wr=>∃l:Nat,l<=vT t c/\vl=.int .i64 l/\vi=.int .i64 (Sh.cc (vT t) (kT t) t c l i:Nat)/\Hid (OT wr k t (t.length:Int) (.slice (some ⟨gc,0,none⟩) 256 256) (.slice bo (nT t).length bc) gn)/\Hid (aa wr w1.heap.size [.int .i64 (t.length:Int),.slice (some ⟨gc,0,none⟩) 256 256,.slice bo (nT t).length bc,.map (some gn)] 94)/\Hid (aa wr (w1.heap.size+1) [.int .i64 (vT t c:Nat),.int .u64 (cod (vT t) c:Nat)] 83)/\Hid (Below w.heap.size w wr)) (fun _ vl _=>vT t c-(intOf vl).toNat)
    case atStart=>exact⟨0,Nat.zero_le _,rfl,by rw[HCC0.out],HOV,K1,K2,HBV⟩
    case round=>
     clear HOV K1 K2 HBV;obtain⟨l,hl,rfl,rfl,HO,K1,K2,HB⟩:=hrel;by_cases hlt:l<vT t c
     .have hltz:(l:Int)<(vT t c:Int):=by omega
      have CR:Hid (∀w0,OT w0 k t (t.length:Int) (.slice (some ⟨gc,0,none⟩) 256 256) (.slice bo (nT t).length bc) gn->Calls prog 48 #[.agg #[.int .i64 (t.length:Int),.slice (some ⟨gc,0,none⟩) 256 256,.slice bo (nT t).length bc,.map (some gn)],.agg #[.int .i64 (vT t c:Nat),.int .u64 (cod (vT t) c:Nat)],.int .i64 (l:Int)] w0 fun e w'=>∃rs:List Value,e=.returned (.agg rs.toArray)/\KI w' rs (kB k ((rwT t (l,Sh.pre (vT t) (kT t) l c)).length:Int) (frL (rwT t (l,Sh.pre (vT t) (kT t) l c))))/\Below w0.heap.size w0 w'):=fun w0 h0=>sY k t _ _ _ gn c l w0 h0 hle hc hlt
      have CT:Hid (∀w0,Qq 49 #[.agg #[.int .i64 (vT t c:Nat),.int .u64 (cod (vT t) c:Nat)],.int .i64 (l:Int)] w0 (.bool (Sh.nb (vT t) (kT t) l c))):=fun w0=>m8 (vT t c) (kT t c) l (by omega) hlt (iD (bP t (by omega) c) v40) w0
      have HRD:=ac (tI (k:=k) hkn hle HBy.out hlt HIL.out);obtain⟨A,hA⟩:∃A,Hid (A=kB k ((rwT t (l,Sh.pre (vT t) (kT t) l c)).length:Int) (frL (rwT t (l,Sh.pre (vT t) (kT t) l c)))):=⟨_,rfl⟩
      rw[<-hA.out]at CR HRD;obtain⟨bb,hbb⟩:∃bb,Hid (bb=Sh.nb (vT t) (kT t) l c):=⟨_,rfl⟩;rw[<-hbb.out]at CT HRD
      have ccl:Sh.cc (vT t) (kT t) t c l i<=3000:=Nat.le_trans (Sh.cp_le _ _ _) (Nat.le_trans HIL.out hle);obtain⟨I,hI⟩:∃I,Hid (I=Sh.cc (vT t) (kT t) t c l i):=⟨_,rfl⟩;rw[<-hI.out]at ccl HRD;rw[<-hI.out]
      obtain⟨I2,hI2⟩:∃I2,Hid (I2=Sh.cc (vT t) (kT t) t c (l+1) i):=⟨_,rfl⟩;rw[<-hI2.out]at HRD;have zk:=K2.out.lt;have zb:=HB.out.size;go_wp2
      refine aB [] (fun w'=>aa w' w1.heap.size [.int .i64 (t.length:Int),.slice (some ⟨gc,0,none⟩) 256 256,.slice bo (nT t).length bc,.map (some gn)] 94/\aa w' (w1.heap.size+1) [.int .i64 (vT t c:Nat),.int .u64 (cod (vT t) c:Nat)] 83) (by kernel_rfl) ?_
      have hS:aa wr.drew w1.heap.size [.int .i64 (t.length:Int),.slice (some ⟨gc,0,none⟩) 256 256,.slice bo (nT t).length bc,.map (some gn)] 94/\aa wr.drew (w1.heap.size+1) [.int .i64 (vT t c:Nat),.int .u64 (cod (vT t) c:Nat)] 83:=⟨K1.out,K2.out⟩
      have HO2:Hid (OT wr.drew k t (t.length:Int) (.slice (some ⟨gc,0,none⟩) 256 256) (.slice bo (nT t).length bc) gn):=HO.out.keep ((Below.refl _ _).drew);have HB2:Hid (Below w.heap.size w wr.drew):=HB.out.drew
      generalize wr.drew=Y at *;clear HO HB K1 K2
      refine aF 0 hS rfl (fun w0 h0=>by have d0:=h0.1.cell 0 rfl;have d1:=h0.1.cell 1 rfl;have d2:=h0.1.cell 2 rfl;have d3:=h0.1.cell 3 rfl;have f0:=h0.2.cell 0 rfl;have f1:=h0.2.cell 1 rfl;go_simp;try with_reducible rfl) ?_
      refine aF 1 hS rfl (fun w0 h0=>by have d0:=h0.1.cell 0 rfl;have d1:=h0.1.cell 1 rfl;have d2:=h0.1.cell 2 rfl;have d3:=h0.1.cell 3 rfl;have f0:=h0.2.cell 0 rfl;have f1:=h0.2.cell 1 rfl;go_simp;try with_reducible rfl) ?_
      refine aF 2 hS rfl (fun w0 h0=>by have d0:=h0.1.cell 0 rfl;have d1:=h0.1.cell 1 rfl;have d2:=h0.1.cell 2 rfl;have d3:=h0.1.cell 3 rfl;have f0:=h0.2.cell 0 rfl;have f1:=h0.2.cell 1 rfl;go_simp;try with_reducible rfl) ?_
      refine aF 4 hS rfl (fun w0 h0=>by have d0:=h0.1.cell 0 rfl;have d1:=h0.1.cell 1 rfl;have d2:=h0.1.cell 2 rfl;have d3:=h0.1.cell 3 rfl;have f0:=h0.2.cell 0 rfl;have f1:=h0.2.cell 1 rfl;go_simp;try with_reducible rfl) ?_
      refine aF 5 hS rfl (fun w0 h0=>by have d0:=h0.1.cell 0 rfl;have d1:=h0.1.cell 1 rfl;have d2:=h0.1.cell 2 rfl;have d3:=h0.1.cell 3 rfl;have f0:=h0.2.cell 0 rfl;have f1:=h0.2.cell 1 rfl;go_simp;try with_reducible rfl) ?_
      refine aF 7 hS rfl (fun w0 h0=>by have d0:=h0.1.cell 0 rfl;have d1:=h0.1.cell 1 rfl;have d2:=h0.1.cell 2 rfl;have d3:=h0.1.cell 3 rfl;have f0:=h0.2.cell 0 rfl;have f1:=h0.2.cell 1 rfl;go_simp;try with_reducible rfl) ?_
      refine aO 3 ?_;intro K hK;go_simp;refine(CR.out _ HO2.out).mono ?_;rintro e w3 ⟨rs,rfl,hki,hb⟩;replace hS:=And.intro (hS.1.kept hb) (hS.2.kept hb);have HK3:=ac hki;have HO3:=ac (HO2.out.keep hb)
      have HB3:=ac (bg HB2.out hb);clear hb hki HO2 HB2 CR;refine hK.out _ _ (fun _=>hS) ?_;clear hK K;try simp only[Act.put,ak,aj,ai,ae,ah,ag]
      refine aO 6 ?_;intro K hK;go_simp;refine mr (CT.out _) fun w4 hb=>?_;replace hS:=And.intro (hS.1.kept hb) (hS.2.kept hb);have HK4:=ac (HK3.out.keep hb);have HO4:=ac (HO3.out.keep hb)
      have HB4:=ac (bg HB3.out hb);clear hb HK3 HO3 HB3 CT;refine hK.out _ _ (fun _=>hS) ?_;clear hK K;try simp only[Act.put,ak,aj,ai,ae,ah,ag]
      refine aO 8 ?_;intro K hK;go_simp;refine mr (pN rs A bb (I:Int) w4 HK4.out (by unfold ax;omega)) fun w5 hb=>?_;replace hS:=And.intro (hS.1.kept hb) (hS.2.kept hb)
      have HO5:=ac (HO4.out.keep hb);have HB5:=ac (bg HB4.out hb);rw[HRD.out];obtain⟨EE,hEE⟩:∃EE,Hid (EE=grE (aJ A) (kBN A) (I:Int)):=⟨_,rfl⟩;rw[<-hEE.out]
      clear hb HK4 HO4 HB4 hEE;refine hK.out _ _ (fun _=>hS) ?_;clear hK K;try simp only[Act.put,ak,aj,ai,ae,ah,ag]
      refine aF 9 hS rfl (fun w0 h0=>by have d0:=h0.1.cell 0 rfl;have d1:=h0.1.cell 1 rfl;have d2:=h0.1.cell 2 rfl;have d3:=h0.1.cell 3 rfl;have f0:=h0.2.cell 0 rfl;have f1:=h0.2.cell 1 rfl;go_simp;try with_reducible rfl) ?_
      refine aF 10 hS rfl (fun w0 h0=>by have d0:=h0.1.cell 0 rfl;have d1:=h0.1.cell 1 rfl;have d2:=h0.1.cell 2 rfl;have d3:=h0.1.cell 3 rfl;have f0:=h0.2.cell 0 rfl;have f1:=h0.2.cell 1 rfl;go_simp;try with_reducible rfl) ?_
      refine aF 11 hS rfl (fun w0 h0=>by have d0:=h0.1.cell 0 rfl;have d1:=h0.1.cell 1 rfl;have d2:=h0.1.cell 2 rfl;have d3:=h0.1.cell 3 rfl;have f0:=h0.2.cell 0 rfl;have f1:=h0.2.cell 1 rfl;go_simp;try with_reducible rfl) ?_
      refine aF 12 hS rfl (fun w0 h0=>by have d0:=h0.1.cell 0 rfl;have d1:=h0.1.cell 1 rfl;have d2:=h0.1.cell 2 rfl;have d3:=h0.1.cell 3 rfl;have f0:=h0.2.cell 0 rfl;have f1:=h0.2.cell 1 rfl;go_simp;try with_reducible rfl) ?_
      refine aq.done (by kernel_rfl) ?_ _;obtain⟨s1,s2⟩:=hS;have K15:=ac s1;have K25:=ac s2;clear s1 s2;go_wp2;exact⟨⟨l+1,by omega,rfl,by rw[hI2.out],HO5,K15,K25,HB5⟩,by simp only[intOf];omega⟩
     .obtain rfl:l=vT t c:=by omega
      have HFin:Hid (Sh.cc (vT t) (kT t) t c (vT t c) i=Sh.cp (fun d=>decide (d=c)) t i):=Sh.cc_all _ _ (fw t (by omega)) HV0.out fun j hj=>fF t (by omega) HBy.out j (Nat.lt_of_lt_of_le hj HIL.out);go_wp2
      go_ret2;exact⟨by rw[hE.out,hN.out,<-HFin.out];rfl,HB.out⟩
def bu(k:Int)(t:List Nat)(l c:Nat):RA:=kB k ((rwT t (l,Sh.pre (vT t) (kT t) l c)).length:Int) (frL (rwT t (l,Sh.pre (vT t) (kT t) l c)))
theorem IQ{t:List Nat}(hn:t.length<=3000)(hB:cM t){c l:Nat}(hl:l<vT t c):Sh.cc (vT t) (kT t) t c l t.length=(rwT t (l,Sh.pre (vT t) (kT t) l c)).length:=by
 rw[kG,Sh.cc_st _ _ (fw t (by omega)) hl (fun j hj=>fF t (by omega) hB j (by omega))]
theorem Aa{k:Int}(hk:1<=k/\k<=3){t:List Nat}(hn:t.length<=3000)(hB:cM t){j l:Nat}(hj:j<t.length)(hl:l<vT t (gt t j)):
  gsE (aJ (bu k t l (gt t j))) (kBN (bu k t l (gt t j))) (aQ (bu k t l (gt t j))) (Sh.nb (vT t) (kT t) l (gt t j)) (Sh.cc (vT t) (kT t) t (gt t j) (l+1) j:Int)=0/\
  gsX (aJ (bu k t l (gt t j))) (kBN (bu k t l (gt t j))) (aQ (bu k t l (gt t j))) (Sh.nb (vT t) (kT t) l (gt t j)) (Sh.cc (vT t) (kT t) t (gt t j) (l+1) j:Int)=(Sh.cc (vT t) (kT t) t (gt t j) l j:Int):=by
 have hr:=gF t (l,Sh.pre (vT t) (kT t) l (gt t j));obtain⟨e1,e2,e3⟩:=jT hk (rwT t (l,Sh.pre (vT t) (kT t) l (gt t j))) (by omega);have vs:=fF t (by omega) hB;have hA:=fw t (by omega)
 have hb:=Sh.cc_bit (vT t) (kT t) hA hj hl vs;have hd:=Sh.cc_down (vT t) (kT t) hA hl (Nat.le_of_lt hj) vs
 have hlt:Sh.cc (vT t) (kT t) t (gt t j) l j<(rwT t (l,Sh.pre (vT t) (kT t) l (gt t j))).length:=by
  by_cases g:Sh.cc (vT t) (kT t) t (gt t j) l j<(rwT t (l,Sh.pre (vT t) (kT t) l (gt t j))).length
  .exact g
  .rw[List.getElem?_eq_none (show(Sh.nrow (vT t) (kT t) t l (Sh.pre (vT t) (kT t) l (gt t j))).length<=_ from Nat.le_of_not_lt g)]at hb;cases hb
 have hs:=nq ((rwT t (l,Sh.pre (vT t) (kT t) l (gt t j))).length:Int) (frL (rwT t (l,Sh.pre (vT t) (kT t) l (gt t j)))) (Sh.nb (vT t) (kT t) l (gt t j)) (Sh.cc (vT t) (kT t) t (gt t j) (l+1) j:Int) _ (by rw[Int.toNat_natCast];exact hlt) (by
  unfold here;rw[show bitAt (frL (rwT t (l,Sh.pre (vT t) (kT t) l (gt t j)))) (Sh.cc (vT t) (kT t) t (gt t j) l j)=_ from rK _ _ _ hb,oO _ _ _ (Nat.le_of_lt hlt)]
  rw[show Sh.ct (Sh.nb (vT t) (kT t) l (gt t j)) (rwT t (l,Sh.pre (vT t) (kT t) l (gt t j))) (Sh.cc (vT t) (kT t) t (gt t j) l j)=_ from hd]
  simp)
 unfold gsE gsX bu;rw[e1,e2,e3,hs];exact⟨rfl,rfl⟩
theorem Ab{k:Int}(hk:1<=k/\k<=3){t:List Nat}(hn:t.length<=3000)(hB:cM t){c:Nat}(hv:0<vT t c)(K:Int)(hK:ax K):∃F:Nat->Int,F (vT t c)=K/\(∀l,ax (F l))/\
  (∀m,m<vT t c->(m+1=vT t c\/gH t c K)->(gH t c K/\gsE (aJ (bu k t m c)) (kBN (bu k t m c)) (aQ (bu k t m c)) (Sh.nb (vT t) (kT t) m c) (F (m+1))=0/\gsX (aJ (bu k t m c)) (kBN (bu k t m c)) (aQ (bu k t m c)) (Sh.nb (vT t) (kT t) m c) (F (m+1))=F m)\/(¬gH t c K/\gsE (aJ (bu k t m c)) (kBN (bu k t m c)) (aQ (bu k t m c)) (Sh.nb (vT t) (kT t) m c) (F (m+1))=3))/\
  (gH t c K->F 0=iX t c K):=by
 have hA:=fw t (by omega);have vs:=fF t (by omega) hB;by_cases ok:gH t c K
 .obtain⟨k0,k1⟩:=id ok;obtain⟨K,rfl⟩:=Int.eq_ofNat_of_zero_le k0;obtain⟨j,hj,hp,hc⟩:=wS (Int.ofNat_lt.1 k1);have hp':gt t j=c:=of_decide_eq_true hp
  refine⟨fun l=>(Sh.cc (vT t) (kT t) t c l j:Int),?_,fun l=>?_,fun m hm _=>.inl ⟨ok,?_⟩,fun _=>?_⟩
  .show(Sh.cc (vT t) (kT t) t c (vT t c) j:Int)=_;rw[Sh.cc_all _ _ hA hv (fun i hi=>vs i (by omega)),hc]
  .have:=Sh.cp_le (Sh.bg (vT t) (kT t) l (Sh.pre (vT t) (kT t) l c)) t j;show ax (Sh.cc (vT t) (kT t) t c l j:Int);unfold ax Sh.cc;omega
  .subst hp';exact Aa hk hn hB hj hm
  .show(Sh.cc (vT t) (kT t) t c 0 j:Int)=_;unfold iX;rw[if_pos ok,Sh.cc_zero _ _ (bP t (by omega) c) (fun i _=>bP t (by omega) _),Int.toNat_natCast,List.getD_eq_getElem?_getD,<-hc,Sh.mem_at _ _ _ _ hj hp];rfl
 .refine⟨fun _=>K,rfl,fun _=>hK,fun m hm h1=>.inr ⟨ok,?_⟩,fun h=>absurd h ok⟩;have hm1:m+1=vT t c:=h1.resolve_right ok;have hr:=gF t (m,Sh.pre (vT t) (kT t) m c)
  obtain⟨e1,e2,e3⟩:=jT hk (rwT t (m,Sh.pre (vT t) (kT t) m c)) (by omega);have hd:=Sh.cc_down (vT t) (kT t) hA hm (Nat.le_refl _) vs;rw[IQ hn hB hm,hm1,Sh.cc_all _ _ hA hv (fun i hi=>vs i (by omega))]at hd
  have hi:=ja ((rwT t (m,Sh.pre (vT t) (kT t) m c)).length:Int) (frL (rwT t (m,Sh.pre (vT t) (kT t) m c))) (Sh.nb (vT t) (kT t) m c) K
  rw[Int.toNat_natCast,oO _ _ _ (Nat.le_refl _),show Sh.ct (Sh.nb (vT t) (kT t) m c) (rwT t (m,Sh.pre (vT t) (kT t) m c)) (rwT t (m,Sh.pre (vT t) (kT t) m c)).length=_ from hd]at hi;unfold gsE bu
  rw[e1,e2,e3,if_pos rfl,if_neg (fun h=>ok (hi.1 h))]
theorem yR(cs:List Value)(k:Int)(t:List Nat)(c:Nat)(K:Int)(w:World)(h:SX w cs k t)(hc:c<256)(hK:ax K):
  Qq 22 #[.agg cs.toArray,.int .u8 (c:Int),.int .i64 K] w (.tuple #[.int .i64 (iX t c K),.int .i64 (jI t c K)]):=by
 have HSX:=ac h;have hkn:=h.kn;have hle:=h.le;have HBy:=ac h.by_;obtain⟨⟨lo,lc,no,nc,rfl,_,_⟩,_,_,_,_⟩:=h;have hL:=ac (dp t (by omega))
 obtain⟨W,hW⟩:∃W,W=w.alloc (.cells #[.int .i64 k,.int .i64 (t.length:Int),.slice lo 256 lc,.slice no (aT k t).length nc] 27):=⟨_,rfl⟩;have bW:=aM hW
 have B1:=ac (show aa W w.heap.size [.int .i64 k,.int .i64 (t.length:Int),.slice lo 256 lc,.slice no (aT k t).length nc] 27 by rw[hW];exact aa.new w _ _);have HB:=ac bW
 have C0:=ac (mZ _ k t W (HSX.out.keep bW));clear bW HSX;go_enter func22,ntmps22;go_wp2_with fail;rw[<-hW];refine C0.out.mono ?_;rintro e w1 ⟨cv,bv,gn,rfl,hot,hb⟩;have B11:=ac (B1.out.kept hb)
 have HB1:=ac (bg HB.out hb);have HO1:=ac hot;have hone:=hot.one;have z1:=B11.out.lt;clear hW hb C0 B1 HB hot;have c1:=B11.out.cell 1 rfl
 obtain⟨gc,bo,bc,c',b,off,rfl,rfl,a1,_⟩:=HO1.out.ex;clear hone;have q0:=a1.cell (c*2) (gD (vT t) c hc);have q1:=a1.cell (c*2+1) (gC (vT t) c hc);have lgc:=a1.lt;have v40:=hL.out.le c;clear a1
 by_cases hv0:vT t c=0
 .have hno:Hid (¬gH t c K):=fun h=>by
   have h1:=mG hle hc hv0;obtain⟨g0,g1⟩:=h;omega
  rw[hv0]at q0;have q0':w1.cell? ⟨gc,c*2,none⟩=some (.int .i64 0):=q0;clear q0 hv0;go_wp2;go_ret2;refine⟨by unfold iX jI;rw[if_neg hno.out,if_neg hno.out];rfl,?_⟩
  exact(HB1.out.alloc HB1.out.size _).alloc (by have:=HB1.out.size;simp;omega) _
 .have hvz:((vT t c:Int)==0)=false:=by simp;omega
  have HV0:=ac (show 0<vT t c by omega);obtain⟨F,F0,F1,F2,F3⟩:=Ab hkn hle HBy.out HV0.out K hK;have HF0:=ac F0;have HF1:=ac F1;have HF2:=ac F2;have HF3:=ac F3;clear hv0 F0 F1 F2 F3
  obtain⟨V,hV⟩:∃V,V=(w1.alloc (.cells #[.int .i64 (t.length:Int),.slice (some ⟨gc,0,none⟩) 256 256,.slice bo (nT t).length bc,.map (some gn)] 94)).alloc (.cells #[.int .i64 (vT t c:Nat),.int .u64 (cod (vT t) c:Nat)] 83):=⟨_,rfl⟩
  have bV:Below w1.heap.size w1 V:=by rw[hV];exact(below_alloc w1 _).alloc (by simp) _
  have K1:=ac (show aa V w1.heap.size [.int .i64 (t.length:Int),.slice (some ⟨gc,0,none⟩) 256 256,.slice bo (nT t).length bc,.map (some gn)] 94 by rw[hV];exact(aa.new w1 _ _).alloc _)
  have K2:=ac (show aa V (w1.heap.size+1) [.int .i64 (vT t c:Nat),.int .u64 (cod (vT t) c:Nat)] 83 by rw[hV];exact aa.new2 w1 _ _ _);have HOV:=ac (HO1.out.keep bV)
  have HBV:=ac (bg HB1.out bV);clear bV HO1 HB1;go_wp2
  rw[show((w1.alloc (.cells #[.int .i64 (t.length:Int),.slice (some ⟨gc,0,none⟩) 256 256,.slice bo (nT t).length bc,.map (some gn)] 94)).alloc (.cells #[.int .i64 (vT t c:Nat),.int .u64 (cod (vT t) c:Nat)] 83))=V from hV.symm]
  clear hV q0 q1 c1 B11
  go_loopw [2,11] (fun vi vl wr=>∃(l:Nat) (z:Int),l<=vT t c/\Hid (z=(l:Int)-1)/\vl=.int .i64 z/\vi=.int .i64 (F l)/\Hid (l=vT t c\/gH t c K)/\Hid (OT wr k t (t.length:Int) (.slice (some ⟨gc,0,none⟩) 256 256) (.slice bo (nT t).length bc) gn)/\Hid (aa wr w1.heap.size [.int .i64 (t.length:Int),.slice (some ⟨gc,0,none⟩) 256 256,.slice bo (nT t).length bc,.map (some gn)] 94)/\Hid (aa wr (w1.heap.size+1) [.int .i64 (vT t c:Nat),.int .u64 (cod (vT t) c:Nat)] 83)/\Hid (Below w.heap.size w wr)) (fun _ vl _=>(intOf vl+1).toNat)
  case atStart=>exact⟨vT t c,_,Nat.le_refl _,ac rfl,rfl,by rw[HF0.out],ac (.inl rfl),HOV,K1,K2,HBV⟩
  case round=>
   clear HOV K1 K2 HBV HF0 hK hvz;obtain⟨l,z,hl,hz,rfl,rfl,HOK,HO,K1,K2,HB⟩:=hrel;by_cases hlt:0<l
   .obtain⟨m,rfl⟩:∃m,l=m+1:=⟨l-1,by omega⟩;obtain rfl:z=(m:Int):=by have:=hz.out;omega
    clear hz hlt;have hm:m<vT t c:=by omega
    clear hl;have hltz:(m:Int)>=0:=by omega
    have CR:Hid (∀w0,OT w0 k t (t.length:Int) (.slice (some ⟨gc,0,none⟩) 256 256) (.slice bo (nT t).length bc) gn->Calls prog 48 #[.agg #[.int .i64 (t.length:Int),.slice (some ⟨gc,0,none⟩) 256 256,.slice bo (nT t).length bc,.map (some gn)],.agg #[.int .i64 (vT t c:Nat),.int .u64 (cod (vT t) c:Nat)],.int .i64 (m:Int)] w0 fun e w'=>∃rs:List Value,e=.returned (.agg rs.toArray)/\KI w' rs (bu k t m c)/\Below w0.heap.size w0 w'):=fun w0 h0=>sY k t _ _ _ gn c m w0 h0 hle hc hm
    have CT:Hid (∀w0,Qq 49 #[.agg #[.int .i64 (vT t c:Nat),.int .u64 (cod (vT t) c:Nat)],.int .i64 (m:Int)] w0 (.bool (Sh.nb (vT t) (kT t) m c))):=fun w0=>m8 (vT t c) (kT t c) m (by omega) hm (iD (bP t (by omega) c) v40) w0
    have HSD:=ac (HF2.out m hm HOK.out);have HI:=ac (HF1.out (m+1));obtain⟨A,hA⟩:∃A,Hid (A=bu k t m c):=⟨_,rfl⟩;rw[<-hA.out]at CR HSD
    obtain⟨bb,hbb⟩:∃bb,Hid (bb=Sh.nb (vT t) (kT t) m c):=⟨_,rfl⟩;rw[<-hbb.out]at CT HSD;obtain⟨I,hI⟩:∃I,Hid (I=F (m+1)):=⟨_,rfl⟩;rw[<-hI.out]at HSD HI;rw[<-hI.out];have zk:=K2.out.lt
    have zb:=HB.out.size;go_wp2
    refine aB [] (fun w'=>aa w' w1.heap.size [.int .i64 (t.length:Int),.slice (some ⟨gc,0,none⟩) 256 256,.slice bo (nT t).length bc,.map (some gn)] 94/\aa w' (w1.heap.size+1) [.int .i64 (vT t c:Nat),.int .u64 (cod (vT t) c:Nat)] 83) (by kernel_rfl) ?_
    have hS:aa wr.drew w1.heap.size [.int .i64 (t.length:Int),.slice (some ⟨gc,0,none⟩) 256 256,.slice bo (nT t).length bc,.map (some gn)] 94/\aa wr.drew (w1.heap.size+1) [.int .i64 (vT t c:Nat),.int .u64 (cod (vT t) c:Nat)] 83:=⟨K1.out,K2.out⟩
    have HO2:Hid (OT wr.drew k t (t.length:Int) (.slice (some ⟨gc,0,none⟩) 256 256) (.slice bo (nT t).length bc) gn):=HO.out.keep ((Below.refl _ _).drew);have HB2:Hid (Below w.heap.size w wr.drew):=HB.out.drew
    generalize wr.drew=Y at *;clear HO HB K1 K2
    refine aF 0 hS rfl (fun w0 h0=>by have d0:=h0.1.cell 0 rfl;have d1:=h0.1.cell 1 rfl;have d2:=h0.1.cell 2 rfl;have d3:=h0.1.cell 3 rfl;have f0:=h0.2.cell 0 rfl;have f1:=h0.2.cell 1 rfl;go_simp;try with_reducible rfl) ?_
    refine aF 1 hS rfl (fun w0 h0=>by have d0:=h0.1.cell 0 rfl;have d1:=h0.1.cell 1 rfl;have d2:=h0.1.cell 2 rfl;have d3:=h0.1.cell 3 rfl;have f0:=h0.2.cell 0 rfl;have f1:=h0.2.cell 1 rfl;go_simp;try with_reducible rfl) ?_
    refine aF 2 hS rfl (fun w0 h0=>by have d0:=h0.1.cell 0 rfl;have d1:=h0.1.cell 1 rfl;have d2:=h0.1.cell 2 rfl;have d3:=h0.1.cell 3 rfl;have f0:=h0.2.cell 0 rfl;have f1:=h0.2.cell 1 rfl;go_simp;try with_reducible rfl) ?_
    refine aF 4 hS rfl (fun w0 h0=>by have d0:=h0.1.cell 0 rfl;have d1:=h0.1.cell 1 rfl;have d2:=h0.1.cell 2 rfl;have d3:=h0.1.cell 3 rfl;have f0:=h0.2.cell 0 rfl;have f1:=h0.2.cell 1 rfl;go_simp;try with_reducible rfl) ?_
    refine aF 5 hS rfl (fun w0 h0=>by have d0:=h0.1.cell 0 rfl;have d1:=h0.1.cell 1 rfl;have d2:=h0.1.cell 2 rfl;have d3:=h0.1.cell 3 rfl;have f0:=h0.2.cell 0 rfl;have f1:=h0.2.cell 1 rfl;go_simp;try with_reducible rfl) ?_
    refine aF 7 hS rfl (fun w0 h0=>by have d0:=h0.1.cell 0 rfl;have d1:=h0.1.cell 1 rfl;have d2:=h0.1.cell 2 rfl;have d3:=h0.1.cell 3 rfl;have f0:=h0.2.cell 0 rfl;have f1:=h0.2.cell 1 rfl;go_simp;try with_reducible rfl) ?_
    refine aO 3 ?_;intro K hK;go_simp;refine(CR.out _ HO2.out).mono ?_;rintro e w3 ⟨rs,rfl,hki,hb⟩;replace hS:=And.intro (hS.1.kept hb) (hS.2.kept hb);have HK3:=ac hki;have HO3:=ac (HO2.out.keep hb)
    have HB3:=ac (bg HB2.out hb);clear hb hki HO2 HB2 CR;refine hK.out _ _ (fun _=>hS) ?_;clear hK K;try simp only[Act.put,ak,aj,ai,ae,ah,ag]
    refine aO 6 ?_;intro K hK;go_simp;refine mr (CT.out _) fun w4 hb=>?_;replace hS:=And.intro (hS.1.kept hb) (hS.2.kept hb);have HK4:=ac (HK3.out.keep hb);have HO4:=ac (HO3.out.keep hb)
    have HB4:=ac (bg HB3.out hb);clear hb HK3 HO3 HB3 CT;refine hK.out _ _ (fun _=>hS) ?_;clear hK K;try simp only[Act.put,ak,aj,ai,ae,ah,ag]
    refine aO 8 ?_;intro K hK;go_simp;refine mr (z_ rs A bb I w4 HK4.out HI.out) fun w5 hb=>?_;replace hS:=And.intro (hS.1.kept hb) (hS.2.kept hb);have HO5:=ac (HO4.out.keep hb)
    have HB5:=ac (bg HB4.out hb);obtain⟨EE,hEE⟩:∃EE,Hid (EE=gsE (aJ A) (kBN A) (aQ A) bb I):=⟨_,rfl⟩;rw[<-hEE.out];rw[<-hEE.out]at HSD
    obtain⟨XX,hXX⟩:∃XX,Hid (XX=gsX (aJ A) (kBN A) (aQ A) bb I):=⟨_,rfl⟩;rw[<-hXX.out];rw[<-hXX.out]at HSD;clear hb HK4 HO4 HB4 hEE hXX;refine hK.out _ _ (fun _=>hS) ?_;clear hK K
    try simp only[Act.put,ak,aj,ai,ae,ah,ag]
    refine aF 9 hS rfl (fun w0 h0=>by have d0:=h0.1.cell 0 rfl;have d1:=h0.1.cell 1 rfl;have d2:=h0.1.cell 2 rfl;have d3:=h0.1.cell 3 rfl;have f0:=h0.2.cell 0 rfl;have f1:=h0.2.cell 1 rfl;go_simp;try with_reducible rfl) ?_
    refine aF 10 hS rfl (fun w0 h0=>by have d0:=h0.1.cell 0 rfl;have d1:=h0.1.cell 1 rfl;have d2:=h0.1.cell 2 rfl;have d3:=h0.1.cell 3 rfl;have f0:=h0.2.cell 0 rfl;have f1:=h0.2.cell 1 rfl;go_simp;try with_reducible rfl) ?_
    refine aF 11 hS rfl (fun w0 h0=>by have d0:=h0.1.cell 0 rfl;have d1:=h0.1.cell 1 rfl;have d2:=h0.1.cell 2 rfl;have d3:=h0.1.cell 3 rfl;have f0:=h0.2.cell 0 rfl;have f1:=h0.2.cell 1 rfl;go_simp;try with_reducible rfl) ?_
    refine aF 12 hS rfl (fun w0 h0=>by have d0:=h0.1.cell 0 rfl;have d1:=h0.1.cell 1 rfl;have d2:=h0.1.cell 2 rfl;have d3:=h0.1.cell 3 rfl;have f0:=h0.2.cell 0 rfl;have f1:=h0.2.cell 1 rfl;go_simp;try with_reducible rfl) ?_
    refine aF 13 hS rfl (fun w0 h0=>by have d0:=h0.1.cell 0 rfl;have d1:=h0.1.cell 1 rfl;have d2:=h0.1.cell 2 rfl;have d3:=h0.1.cell 3 rfl;have f0:=h0.2.cell 0 rfl;have f1:=h0.2.cell 1 rfl;go_simp;try with_reducible rfl) ?_
    refine aq.done (by kernel_rfl) ?_ _;obtain⟨s1,s2⟩:=hS;have K15:=ac s1;have K25:=ac s2;clear s1 s2;rcases HSD.out with⟨ok,e1,e2⟩ | ⟨no,e1⟩
    .have HK:=ac ok;obtain rfl:=e1;obtain rfl:=e2;clear ok HSD;go_wp2;exact⟨⟨m,(m:Int)-1,by omega,ac rfl,rfl,rfl,ac (.inr HK.out),HO5,K15,K25,HB5⟩,by simp only[intOf];omega⟩
    .have HN:=ac no;obtain rfl:=e1;clear no HSD;go_wp2;go_ret2;exact⟨by unfold iX jI;rw[if_neg HN.out,if_neg HN.out];rfl,HB5.out⟩
   .obtain rfl:l=0:=by omega
    obtain rfl:z= -1:=by have:=hz.out;omega
    have HK:Hid (gH t c K):=HOK.out.resolve_left (by have:=HV0.out;omega);have hFN:=ac (HF3.out HK.out);clear hz hlt;go_wp2;go_ret2;exact⟨by rw[hFN.out];unfold jI;rw[if_pos HK.out];rfl,HB.out⟩
theorem zM(v:Nat->Nat)(gc d L x:Nat)(w:World)(h:aa w gc (cC v) 83)(hd:d<256)(hu:∀c,c<256->((L=v c/\x=cod v c)↔c=d)):
  Qq 44 #[.slice (some ⟨gc,0,none⟩) 256 256,.agg #[.int .i64 (L:Nat),.int .u64 (x:Nat)]] w (.int .i64 (d:Int)):=by
 obtain⟨W,hW⟩:∃W,W=w.alloc (.cells #[.int .i64 (L:Nat),.int .u64 (x:Nat)] 83):=⟨_,rfl⟩;have bW:=aM hW
 have B1:=ac (show aa W w.heap.size [.int .i64 (L:Nat),.int .u64 (x:Nat)] 83 by rw[hW];exact aa.new w _ _);have HC:=ac (h.kept bW);have HB:=ac bW;have HU:=ac hu;clear bW hu h
 go_enter func44,ntmps44;go_wp2;rw[<-hW];clear hW
 go_loopw [8] (fun vi wr=>∃q:Nat,q<=d/\vi=.int .i64 q/\Hid (aa wr w.heap.size [.int .i64 (L:Nat),.int .u64 (x:Nat)] 83)/\Hid (aa wr gc (cC v) 83)/\Hid (Below w.heap.size w wr)) (fun vi _=>256-(intOf vi).toNat)
 case atStart=>exact⟨0,Nat.zero_le _,rfl,B1,HC,HB⟩
 case round=>
  clear B1 HC HB;obtain⟨q,hq,rfl,K1,K2,HB⟩:=hrel;have hlt:q<256:=by omega
  have hltz:(q:Int)<256:=by omega
  obtain⟨B,hB⟩:∃B,Hid (B=(decide (L=v q)&&decide (x=cod v q))):=⟨_,rfl⟩
  have HBd:Hid (B=true↔q=d):=by
   show B=true↔q=d;rw[hB.out,<-HU.out q hlt,Bool.and_eq_true,decide_eq_true_eq,decide_eq_true_eq]
  have HE:Hid (∀w0:World,(if (L:Int)=(v q:Int)then if (x:Int)=(cod v q:Int)then Result.ok (Next.value (Value.bool true)) w0 else Result.ok (Next.value (Value.bool false)) w0 else Result.ok (Next.value (Value.bool false)) w0)=Result.ok (Next.value (Value.bool B)) w0):=fun w0=>by
   rw[hB.out];by_cases h1:L=v q
   .by_cases h2:x=cod v q
    .rw[if_pos (by omega),if_pos (by omega),decide_eq_true h1,decide_eq_true h2];rfl
    .rw[if_pos (by omega),if_neg (by omega),decide_eq_false h2,Bool.and_false]
   .rw[if_neg (by omega),decide_eq_false h1,Bool.false_and]
  have zk:=K1.out.lt;have zg:=K2.out.lt;clear hB;go_wp2;refine aB [] (fun w'=>aa w' w.heap.size [.int .i64 (L:Nat),.int .u64 (x:Nat)] 83/\aa w' gc (cC v) 83) (by kernel_rfl) ?_
  have hS:aa wr.drew w.heap.size [.int .i64 (L:Nat),.int .u64 (x:Nat)] 83/\aa wr.drew gc (cC v) 83:=⟨K1.out,K2.out⟩;have HB2:Hid (Below w.heap.size w wr.drew):=HB.out.drew;generalize wr.drew=Y at *
  clear HB K1 K2
  refine aF 0 hS rfl (fun w0 h0=>by have d0:=h0.1.cell 0 rfl;have d1:=h0.1.cell 1 rfl;have f0:=h0.2.cell (q*2) (gD v q hlt);have f1:=h0.2.cell (q*2+1) (gC v q hlt);have zg:=h0.2.lt;go_simp;try with_reducible rfl) ?_
  refine aF 1 hS rfl (fun w0 h0=>by have d0:=h0.1.cell 0 rfl;have d1:=h0.1.cell 1 rfl;have f0:=h0.2.cell (q*2) (gD v q hlt);have f1:=h0.2.cell (q*2+1) (gC v q hlt);have zg:=h0.2.lt;go_simp;try with_reducible rfl) ?_
  refine aF 2 hS rfl (fun w0 h0=>by have d0:=h0.1.cell 0 rfl;have d1:=h0.1.cell 1 rfl;have f0:=h0.2.cell (q*2) (gD v q hlt);have f1:=h0.2.cell (q*2+1) (gC v q hlt);have zg:=h0.2.lt;go_simp;try with_reducible rfl) ?_
  refine aF 3 hS rfl (fun w0 h0=>by have d0:=h0.1.cell 0 rfl;have d1:=h0.1.cell 1 rfl;have f0:=h0.2.cell (q*2) (gD v q hlt);have f1:=h0.2.cell (q*2+1) (gC v q hlt);have zg:=h0.2.lt;go_simp;try with_reducible rfl) ?_
  refine aF 4 hS rfl (fun w0 h0=>by have d0:=h0.1.cell 0 rfl;have d1:=h0.1.cell 1 rfl;have f0:=h0.2.cell (q*2) (gD v q hlt);have f1:=h0.2.cell (q*2+1) (gC v q hlt);have zg:=h0.2.lt;go_simp;try with_reducible rfl) ?_
  refine aq.take 5 (v:=.bool B) rfl (by kernel_rfl) (by kernel_rfl) (by kernel_rfl) (by kernel_rfl) (fun _ _ _ h=>h) hS (fun w0 h0=>by go_simp;exact HE.out w0) (by rfl) ?rest6
  simp only[Act.put,ak,aj,ai,ae,ah,ag];refine aq.done (by kernel_rfl) ?_ _;obtain⟨s1,s2⟩:=hS;have K15:=ac s1;have K25:=ac s2;clear s1 s2;by_cases hqd:q=d
  .obtain rfl:B=true:=HBd.out.2 hqd;go_wp2;go_ret;exact⟨rfl,HB2.out⟩
  .obtain rfl:B=false:=by
    cases B
    .rfl
    .exact absurd (HBd.out.1 rfl) hqd
   go_wp2;exact⟨⟨q+1,by omega,rfl,K15,K25,HB2⟩,by simp only[intOf];omega⟩
theorem lH{ops:Array Oper}{rest:List Oper}{o:Oper}{a:Act}{w:World}{Q:Exit->Act->World->Prop}{t:TypeId}{ok:Bool}(hg:o.guard=none)(m x:Operand)(hop:o.op=Op.lookup t m x ok)(mv kv v:Value)(hm:a.eval m=mv)(hx:a.eval x=kv)
  (hr:(Instr.lookup t mv kv ok).run prog w=.ok v w) (hK:wpList prog ops Q rest (a.put o.dst v) w):wpList prog ops Q (o::rest) a w:=by
 refine wpList_plain hg fun K' hK'=>?_;unfold Oper.wp;simp[execOp,hop,hm,hx,hr,Result.andThen];exact hK' _ _ hK
theorem nr{t:List Nat}(hn:t.length<=3000)(c l:Nat):Sh.pre (vT t) (kT t) l c<9223372036854775808:=by
 have hL:=dp t (by omega);have h1:=bP t (by omega) c;have h2:(2:Nat)^vT t c<=2^40:=Nat.pow_le_pow_right (by decide) (hL.le c);have h3:Sh.pre (vT t) (kT t) l c<=kT t c:=Nat.div_le_self _ _
 have h4:(2:Nat)^40<9223372036854775808:=by decide
 omega
theorem OT.within{w:World}{k:Int}{t:List Nat}{n:Int}{cv bv:Value}{gn:Nat}(h:OT w k t n cv bv gn)(hn:t.length<=3000){c l:Nat}(hc:c<256)(hl:l<vT t c):∃b o rs o1 o2,
  (Instr.lookup 92 (.map (some gn)) (.agg #[.int .i64 (l:Nat),.int .u64 (Sh.pre (vT t) (kT t) l c:Nat)]) true).run prog w=.ok (.tuple #[.agg #[.pointer (some ⟨b,o,none⟩),.int .i64 o1,.int .i64 o2],.bool true]) w/\
  b<w.heap.size/\w.rangeAt b o rs/\KI w rs (bu k t l c):=by
 have hL:=dp t (by omega);have hv:=hL.le c;have hm:=uB hn hc hl;have hj:=Sh.ixo_lt hm;have hs:=nr hn c l;obtain⟨gc,bo,bc,c',b,off,e1,e2,a1,a2,a3,a4⟩:=h;obtain⟨hb,hr⟩:=a4 (by omega)
 obtain⟨rs,r1,r2⟩:=hr _ hj;rw[j5 (Sh.get_ixo hm)]at r2
 refine⟨b,_,rs,bF (aT k t) (Sh.ixo (l,Sh.pre (vT t) (kT t) l c) (nT t))-bM (aT k t) (Sh.ixo (l,Sh.pre (vT t) (kT t) l c) (nT t)),bM (aT k t) (Sh.ixo (l,Sh.pre (vT t) (kT t) l c) (nT t)),?_,hb,r1,r2⟩
 have:=a3.look_ok underlying92 (lG w) (L:=l) (x:=Sh.pre (vT t) (kT t) l c) (by omega) (by omega);unfold bz at this;rw[if_pos hj]at this;exact this
theorem OT.leaf{w:World}{k:Int}{t:List Nat}{n:Int}{cv bv:Value}{gn:Nat}(h:OT w k t n cv bv gn)(hn:t.length<=3000){c:Nat}(hv0:0<vT t c):
  (Instr.lookup 92 (.map (some gn)) (.agg #[.int .i64 (vT t c:Nat),.int .u64 (Sh.pre (vT t) (kT t) (vT t c) c:Nat)]) true).run prog w=.ok (.tuple #[.agg #[.pointer none,.int .i64 0,.int .i64 0],.bool false]) w:=by
 have hL:=dp t (by omega);have hv:=hL.le c;have hs:=nr hn c (vT t c)
 have hm:¬Sh.ixo (vT t c,Sh.pre (vT t) (kT t) (vT t c) c) (nT t)<(nT t).length:=by
  rw[Sh.ixo_out]
  .exact Nat.lt_irrefl _
  .intro g;obtain⟨d,d1,d2,d3⟩:=ks hn g;rw[Sh.pre_all]at d3;have:=fw t (by omega) c d hv0 (by omega) (by omega) d3;subst this;omega
 obtain⟨gc,bo,bc,c',b,off,e1,e2,a1,a2,a3,a4⟩:=h;have:=a3.look_ok underlying92 (lG w) (L:=vT t c) (x:=Sh.pre (vT t) (kT t) (vT t c) c) (by omega) (by omega);unfold bz at this;rw[if_neg hm]at this
 exact this
theorem J3{k:Int}(hk:1<=k/\k<=3){t:List Nat}(hn:t.length<=3000)(hB:cM t){j l:Nat}(hj:j<t.length)(hl:l<vT t (gt t j)):
  gaB (aJ (bu k t l (gt t j))) (kBN (bu k t l (gt t j))) (aQ (bu k t l (gt t j))) (Sh.cc (vT t) (kT t) t (gt t j) l j:Int)=Sh.nb (vT t) (kT t) l (gt t j):=by
 have hr:=gF t (l,Sh.pre (vT t) (kT t) l (gt t j));obtain⟨e1,e2,e3⟩:=jT hk (rwT t (l,Sh.pre (vT t) (kT t) l (gt t j))) (by omega)
 have hb:=Sh.cc_bit (vT t) (kT t) (fw t (by omega)) hj hl (fF t (by omega) hB)
 have hlt:Sh.cc (vT t) (kT t) t (gt t j) l j<(rwT t (l,Sh.pre (vT t) (kT t) l (gt t j))).length:=by
  by_cases g:Sh.cc (vT t) (kT t) t (gt t j) l j<(rwT t (l,Sh.pre (vT t) (kT t) l (gt t j))).length
  .exact g
  .rw[List.getElem?_eq_none (show(Sh.nrow (vT t) (kT t) t l (Sh.pre (vT t) (kT t) l (gt t j))).length<=_ from Nat.le_of_not_lt g)]at hb;cases hb
 unfold gaB dh bu;rw[e1,e2,e3,decide_eq_true (by omega),Int.toNat_natCast,show bitAt (frL (rwT t (l,Sh.pre (vT t) (kT t) l (gt t j)))) (Sh.cc (vT t) (kT t) t (gt t j) l j)=_ from rK _ _ _ hb];unfold frL
 rw[dO _ _ (by omega)];simp
theorem Am(cs:List Value)(k:Int)(t:List Nat)(i:Int)(w:World)(h:SX w cs k t)(hi:ax i):
  Qq 13 #[.agg cs.toArray,.int .i64 i] w (.tuple #[.int .u8 (saC t i:Int),.int .i64 (gE t i)]):=by
 have HSX:=ac h;have hkn:=h.kn;have hle:=h.le;have HBy:=ac h.by_;obtain⟨⟨lo,lc,no,nc,rfl,_,_⟩,_,_,_,_⟩:=h;have hL:=ac (dp t (by omega))
 obtain⟨W,hW⟩:∃W,W=w.alloc (.cells #[.int .i64 k,.int .i64 (t.length:Int),.slice lo 256 lc,.slice no (aT k t).length nc] 27):=⟨_,rfl⟩;have bW:=aM hW
 have B1:=ac (show aa W w.heap.size [.int .i64 k,.int .i64 (t.length:Int),.slice lo 256 lc,.slice no (aT k t).length nc] 27 by rw[hW];exact aa.new w _ _);have HB:=ac bW
 have C0:=ac (mZ _ k t W (HSX.out.keep bW));clear bW HSX;go_enter func13,ntmps13;go_wp2_with fail;rw[<-hW];refine C0.out.mono ?_;rintro e w1 ⟨cv,bv,gn,rfl,hot,hb⟩;have B11:=ac (B1.out.kept hb)
 have HB1:=ac (bg HB.out hb);have HO1:=ac hot;have hone:=hot.one;have z1:=B11.out.lt;clear hW hb C0 B1 HB hot;have c1:=B11.out.cell 1 rfl
 obtain⟨gc,bo,bc,c',b,off,rfl,rfl,a1,_⟩:=HO1.out.ex;clear hone;by_cases hi0:i<0
 .have hE:Hid (gE t i=3):=if_pos (.inl hi0);have hN:Hid (saC t i=0):=if_neg (by rw[hE.out];decide);go_wp2;go_ret2;refine⟨by rw[hE.out,hN.out];rfl,?_⟩;exact HB1.out.alloc HB1.out.size _
 .by_cases hi1:(t.length:Int)<=i
  .have hi1':i>=(t.length:Int):=hi1;have hE:Hid (gE t i=3):=if_pos (.inr hi1);have hN:Hid (saC t i=0):=if_neg (by rw[hE.out];decide);clear hi1;go_wp2;go_ret2;refine⟨by rw[hE.out,hN.out];rfl,?_⟩
   exact HB1.out.alloc HB1.out.size _
  .have hi1':¬i>=(t.length:Int):=by omega
   have hE:Hid (gE t i=0):=if_neg (by omega);have hN:Hid (saC t i=gt t i.toNat):=if_pos hE.out;obtain⟨i,rfl⟩:=Int.eq_ofNat_of_zero_le (show 0<=i by omega);rw[Int.toNat_natCast]at hN
   have hit:=ac (show i<t.length by omega);obtain⟨d,hd⟩:∃d,Hid (d=gt t i):=⟨_,rfl⟩;have hd2:d<256:=by rw[hd.out];exact HBy.out i
   have HV0:Hid (0<vT t d):=by rw[hd.out];exact fF t (by omega) HBy.out i hit.out
   have v40:=hL.out.le d;have lgc:=a1.lt;have HCd:=ac a1;clear a1
   obtain⟨V,hV⟩:∃V,V=(w1.alloc (.cells #[.int .i64 (t.length:Int),.slice (some ⟨gc,0,none⟩) 256 256,.slice bo (nT t).length bc,.map (some gn)] 94)).alloc (.cells #[.int .i64 0,.int .u64 0] 83):=⟨_,rfl⟩
   have bV:Below w1.heap.size w1 V:=by rw[hV];exact(below_alloc w1 _).alloc (by simp) _
   have K1:=ac (show aa V w1.heap.size [.int .i64 (t.length:Int),.slice (some ⟨gc,0,none⟩) 256 256,.slice bo (nT t).length bc,.map (some gn)] 94 by rw[hV];exact(aa.new w1 _ _).alloc _)
   have K2:=ac (show aa V (w1.heap.size+1) [.int .i64 0,.int .u64 0] 83 by rw[hV];exact aa.new2 w1 _ _ _);have HBV:=ac bV;clear bV;go_wp2
   rw[show((w1.alloc (.cells #[.int .i64 (t.length:Int),.slice (some ⟨gc,0,none⟩) 256 256,.slice bo (nT t).length bc,.map (some gn)] 94)).alloc (.cells #[.int .i64 0,.int .u64 0] 83))=V from hV.symm];clear hV c1 B11
   have HCC0:Hid (Sh.cc (vT t) (kT t) t d 0 i=i):=Sh.cc_zero _ _ (bP t (by omega) d) fun j _=>bP t (by omega) _;have HP0:Hid (Sh.pre (vT t) (kT t) 0 d=0):=Sh.pre_zero _ _ (bP t (by omega) d)
   clear hi0 hi1' hi1 hi;generalize decide (t.length<=i)=b1;generalize decide ((i:Int)<0)=b0
   go_loopw [1] (fun vi wr=>∃l:Nat,l<=vT t d/\vi=.int .i64 (Sh.cc (vT t) (kT t) t d l i:Nat)/\Hid (aa wr w1.heap.size [.int .i64 (t.length:Int),.slice (some ⟨gc,0,none⟩) 256 256,.slice bo (nT t).length bc,.map (some gn)] 94)/\Hid (aa wr (w1.heap.size+1) [.int .i64 (l:Nat),.int .u64 (Sh.pre (vT t) (kT t) l d:Nat)] 83)/\Hid (Below w1.heap.size w1 wr)) (fun vi wr=>vT t d-(intOf ((wr.cell? ⟨w1.heap.size+1,0,none⟩).getD undef)).toNat)
   case atStart=>exact⟨0,Nat.zero_le _,by rw[HCC0.out],K1,by rw[HP0.out];exact K2,HBV⟩
   case round=>
    clear K1 K2 HBV;obtain⟨l,hl,rfl,K1,K2,HB⟩:=hrel;have k13:=K1.out.cell 3 rfl;have k11:=K1.out.cell 1 rfl;have k20:=K2.out.cell 0 rfl;have k21:=K2.out.cell 1 rfl;have zb:=HB.out.size;have zk:=K2.out.lt
    have HOr:=ac (HO1.out.keep HB.out)
    have HM:Hid (vT t d-(intOf ((wr.cell? ⟨w1.heap.size+1,0,none⟩).getD undef)).toNat=vT t d-l):=by rw[show wr.cell? ⟨w1.heap.size+1,0,none⟩=_ from k20];simp[Hid,intOf]
    by_cases hlt:l<vT t d
    .obtain⟨b,o,rs,o1,o2,hlk,hbw,hrs,hki⟩:=HOr.out.within hle hd2 hlt;have HLK:=ac hlk
     have HBT:Hid (gaB (aJ (bu k t l d)) (kBN (bu k t l d)) (aQ (bu k t l d)) (Sh.cc (vT t) (kT t) t d l i:Int)=Sh.nb (vT t) (kT t) l d):=by rw[hd.out];exact J3 hkn hle HBy.out hit.out (by rw[<-hd.out];exact hlt)
     have HRD:=ac (show grN (aJ (bu k t l d)) (kBN (bu k t l d)) (aQ (bu k t l d)) (Sh.nb (vT t) (kT t) l d) (Sh.cc (vT t) (kT t) t d l i:Int)=(Sh.cc (vT t) (kT t) t d (l+1) i:Int)from tI hkn hle HBy.out hlt (Nat.le_of_lt hit.out))
     have HPS:=ac (Sh.pre_succ (vT t) (kT t) hlt);have hpl:=nr hle d l;have ccl:Sh.cc (vT t) (kT t) t d l i<=3000:=Nat.le_trans (Sh.cp_le _ _ _) (Nat.le_trans (Nat.le_of_lt hit.out) hle)
     obtain⟨x,hx⟩:∃x,Hid (x=Sh.pre (vT t) (kT t) l d):=⟨_,rfl⟩;rw[<-hx.out]at HLK HPS k21 hpl K2;obtain⟨A,hA⟩:∃A,Hid (A=bu k t l d):=⟨_,rfl⟩;rw[<-hA.out]at HBT HRD hki
     obtain⟨bb,hbb⟩:∃bb,Hid (bb=Sh.nb (vT t) (kT t) l d):=⟨_,rfl⟩;rw[<-hbb.out]at HBT HRD HPS;obtain⟨I,hI⟩:∃I,Hid (I=Sh.cc (vT t) (kT t) t d l i):=⟨_,rfl⟩;rw[<-hI.out]at HBT HRD ccl;rw[<-hI.out]
     obtain⟨I2,hI2⟩:∃I2,Hid (I2=Sh.cc (vT t) (kT t) t d (l+1) i):=⟨_,rfl⟩;rw[<-hI2.out]at HRD;obtain⟨l1,hl1⟩:∃l1,Hid (l1=l+1):=⟨_,rfl⟩
     obtain⟨x1,hx1⟩:∃x1,Hid (x1=2*x+bb.toNat):=⟨_,rfl⟩
     have CL:Hid (∀w0,Qq 47 #[.agg #[.int .i64 (l:Nat),.int .u64 (x:Nat)],.bool bb] w0 (.agg #[.int .i64 (l1:Nat),.int .u64 (x1:Nat)])):=fun w0=>by rw[hl1.out,hx1.out];exact pC l x bb (by omega) hpl w0
     obtain⟨W2,hW2⟩:∃W2,W2=wr.alloc (.cells #[.pointer (some ⟨b,o,none⟩),.int .i64 o1,.int .i64 o2] 99):=⟨_,rfl⟩;have bW2:Below wr.heap.size wr W2:=by rw[hW2];exact below_alloc wr _
     have K3:=ac (show aa W2 wr.heap.size [.pointer (some ⟨b,o,none⟩),.int .i64 o1,.int .i64 o2] 99 by rw[hW2];exact aa.new wr _ _);have K12:=ac (K1.out.kept bW2);have K22:=ac (K2.out.kept bW2)
     have HB2:=ac (bg HB.out bW2);have HR2:=ac (range_keep hrs bW2 hbw);have HK2:=ac (hki.keep bW2);have hb2:b<W2.heap.size:=Nat.lt_of_lt_of_le hbw bW2.size;have n0:=K3.out.cell 0 rfl
     have zn:=K3.out.lt;clear hlk hrs hki bW2 K1 K2 HB HOr hbw;have HRa:=ac (show(wr.alloc (.cells #[.pointer (some ⟨b,o,none⟩),.int .i64 o1,.int .i64 o2] 99)).rangeAt b o rs by rw[<-hW2];exact HR2.out)
     have HLen:=ac HK2.out.arg.len;go_wp2_with (first | refine lH rfl _ _ rfl _ _ _ rfl rfl HLK.out ?_ | refine aN b o rs (by rfl) rfl HRa.out underlying44 HLen.out ?_);rw[<-hW2]
     refine mr (J2 rs A (I:Int) W2 HK2.out (by unfold ax;omega)) fun w5 hb=>?_;rw[HBT.out];obtain⟨EA,hEA⟩:∃EA,Hid (EA=gaE (aJ A) (kBN A) (aQ A) (I:Int)):=⟨_,rfl⟩;rw[<-hEA.out]
     have K15:=ac (K12.out.kept hb);have K25:=ac (K22.out.kept hb);have K35:=ac (K3.out.kept hb);have HB5:=ac (bg HB2.out hb);have HR5:=ac (range_keep HR2.out hb hb2)
     have HK5:=ac (HK2.out.keep hb);have hb5:b<w5.heap.size:=Nat.lt_of_lt_of_le hb2 hb.size;have z5:=hb.size;clear hb hEA K12 K22 K3 HB2 HR2 HK2 HRa n0 k20 k21 k13 k11 hW2 HLK;have n0:=K35.out.cell 0 rfl
     go_wp2_with (refine aN b o rs (by rfl) rfl HR5.out underlying44 HLen.out ?_);refine mr (pN rs A bb (I:Int) w5 HK5.out (by unfold ax;omega)) fun w6 hb=>?_;rw[HRD.out]
     obtain⟨EE,hEE⟩:∃EE,Hid (EE=grE (aJ A) (kBN A) (I:Int)):=⟨_,rfl⟩;rw[<-hEE.out];have K16:=ac (K15.out.kept hb);have K26:=ac (K25.out.kept hb);have HB6:=ac (bg HB5.out hb)
     clear hb hEE K15 K25 K35 HB5 HR5 HK5 n0;have k20:=K26.out.cell 0 rfl;have k21:=K26.out.cell 1 rfl;go_wp2_with fail;refine mr (CL.out _) fun w7 hb=>?_;have K17:=ac (K16.out.kept hb)
     have K27:=ac (K26.out.kept hb);have HB7:=ac (bg HB6.out hb);clear hb K16 K26 HB6 k20 k21
     go_wp2_with (refine aP (w1.heap.size+1) [.int .i64 (l:Nat),.int .u64 (x:Nat)] [.int .i64 (l1:Nat),.int .u64 (x1:Nat)] rfl rfl K27.out rfl Fx (by simp[Value.oneCell']) ?_);intro w8 K28 hO
     simp only[Act.put,ae,List.set];have K18:=ac (hO.cel K17.out (by omega));have HB8:=ac (HB7.out.trans ((hO.below (base:=w1.heap.size) (by omega)).mono (Nat.le_refl _)));have K28h:=ac K28
     have HM8:Hid (vT t d-(intOf ((w8.cell? ⟨w1.heap.size+1,0,none⟩).getD undef)).toNat=vT t d-l1):=by rw[show w8.cell? ⟨w1.heap.size+1,0,none⟩=_ from K28.cell 0 rfl];simp[Hid,intOf]
     clear hO K28 K17 K27 HB7;go_wp2;refine⟨⟨l+1,by omega,by rw[hI2.out],K18,?_,HB8⟩,?_⟩
     .rw[hl1.out,hx1.out,<-HPS.out]at K28h;exact K28h
     .have e1:=HM.out;have:=HM8.out;have:=hl1.out;omega
    .obtain rfl:l=vT t d:=by omega
     have HLK:=ac (HOr.out.leaf hle HV0.out);have HX:Hid (Sh.pre (vT t) (kT t) (vT t d) d=kT t d):=Sh.pre_all _ _ d;rw[HX.out]at HLK k21;have HCr:=ac (HCd.out.kept HB.out)
     have HU:Hid (∀c,c<256->((vT t d=vT t c/\kT t d=cod (vT t) c)↔c=d)):=fun c _=>⟨fun g=>by
      refine(fw t (by omega) d c HV0.out (by rw[<-g.1];exact HV0.out) (Nat.le_of_eq g.1) ?_).symm;rw[g.1,Sh.pre_all]
      exact g.2.symm,fun g=>by subst g;exact⟨rfl,rfl⟩⟩
     obtain⟨I,hI⟩:∃I,Hid (I=Sh.cc (vT t) (kT t) t d (vT t d) i):=⟨_,rfl⟩;rw[<-hI.out];obtain⟨x,hx⟩:∃x,Hid (x=kT t d):=⟨_,rfl⟩;rw[<-hx.out]at HLK HU k21
     obtain⟨L,hLd⟩:∃L,Hid (L=vT t d):=⟨_,rfl⟩;rw[<-hLd.out]at HLK HU k20;obtain⟨W2,hW2⟩:∃W2,W2=wr.alloc (.cells #[.pointer none,.int .i64 0,.int .i64 0] 99):=⟨_,rfl⟩
     have bW2:Below wr.heap.size wr W2:=by rw[hW2];exact below_alloc wr _
     have HC2:=ac (HCr.out.kept bW2);have HB2:=ac (bg HB.out bW2);have m1:=(K1.out.kept (below_alloc wr (.cells #[.pointer none,.int .i64 0,.int .i64 0] 99))).cell 1 rfl
     have m2:=(K2.out.kept (below_alloc wr (.cells #[.pointer none,.int .i64 0,.int .i64 0] 99)));rw[HX.out,<-hx.out,<-hLd.out]at m2;have m3:=m2.cell 0 rfl;have m4:=m2.cell 1 rfl;clear bW2 hlt hl HM m2
     go_wp2_with (refine lH rfl _ _ rfl _ _ _ rfl rfl HLK.out ?_);rw[<-hW2];refine mr (zM (vT t) gc d L x W2 HC2.out hd2 HU.out) fun w5 hb=>?_
     have HB5:=ac (bg HB2.out hb);clear hb;go_wp2;go_ret2;exact⟨by rw[hE.out,hN.out,<-hd.out];rfl,bg HB1.out HB5.out⟩
def a_(B:Nat->Bool)(b:Bool)(l:List Nat):Nat->List Nat
 | 0=>[]
 | q+1=>if B q=b then a_ B b l q++[gt l q]else a_ B b l q
theorem lU(B:Nat->Bool)(b:Bool)(l:List Nat):∀q,(a_ B b l q).length<=q
 | 0=>Nat.le_refl _
 | q+1=>by
  have:=lU B b l q;rw[a_];split
  .rw[List.length_append];simp;omega
  .omega
theorem vz(l:List Nat)(p:Nat):aX (l++[p])=aX l++[.int .i64 (p:Int)]:=by simp[aX]
structure PD (w:World) (base:Nat) (B:Nat->Bool) (l:List Nat) (q:Nat) (vo vn:Value):Prop where
 o1:w.ownsRow base 3 1 vo (a_ B false l q).length (aX (a_ B false l q))
 o2:w.ownsRow base 3 1 vn (a_ B true l q).length (aX (a_ B true l q))
 ne:∀k,vo.ownBlock=some k->vn.ownBlock≠some k
theorem PD.keep{w w':World}{base:Nat}{B:Nat->Bool}{l:List Nat}{q:Nat}{vo vn:Value}(h:PD w base B l q vo vn)(hb:Below w.heap.size w w'):PD w' base B l q vo vn:=⟨Ag.owns_keep h.o1 hb,Ag.owns_keep h.o2 hb,h.ne⟩
theorem PD.offf{w w1 w':World}{base g cap p:Nat}{B:Nat->Bool}{l:List Nat}{q:Nat}{vo vn:Value}(h:PD w base B l q vo vn)(hA:Below w.heap.size w w1)
  (own:w'.ownsRow base 3 1 (.slice (some ⟨g,0,none⟩) ((a_ B false l q).length+1) cap) ((a_ B false l q).length+1) (aX (a_ B false l q)++[.int .i64 (p:Int)]))
  (hblk:∀k,k<w1.heap.size->vo.ownBlock≠some k->w'.heap[k]?=w1.heap[k]?) (hloc:vo.ownBlock=some g\/g=w1.heap.size) (hB:B q=false) (hp:p=gt l q):PD w' base B l (q+1) (.slice (some ⟨g,0,none⟩) ((a_ B false l q).length+1) cap) vn:=by
 have e1:a_ B false l (q+1)=a_ B false l q++[gt l q]:=by rw[a_,if_pos hB]
 have e2:a_ B true l (q+1)=a_ B true l q:=by rw[a_,if_neg (by rw[hB];decide)]
 refine⟨?_,?_,fun k hk hk2=>?_⟩
 .rw[e1,vz,List.length_append,<-hp];exact own
 .rw[e2];refine Ag.owns_of h.o2 fun k hk=>?_;have lk:=(h.o2.lt k hk).2;exact(hblk k (Nat.lt_of_lt_of_le lk hA.size) (fun g'=>h.ne k g' hk)).trans (hA.block k lk)
 .simp only[Value.ownBlock,Option.some.injEq]at hk;subst hk;rcases hloc with e | e
  .exact h.ne _ e hk2
  .have:=(h.o2.lt _ hk2).2;have:=hA.size;omega
theorem PD.onn{w w1 w':World}{base g cap p:Nat}{B:Nat->Bool}{l:List Nat}{q:Nat}{vo vn:Value}(h:PD w base B l q vo vn)(hA:Below w.heap.size w w1)
  (own:w'.ownsRow base 3 1 (.slice (some ⟨g,0,none⟩) ((a_ B true l q).length+1) cap) ((a_ B true l q).length+1) (aX (a_ B true l q)++[.int .i64 (p:Int)]))
  (hblk:∀k,k<w1.heap.size->vn.ownBlock≠some k->w'.heap[k]?=w1.heap[k]?) (hloc:vn.ownBlock=some g\/g=w1.heap.size) (hB:B q=true) (hp:p=gt l q):PD w' base B l (q+1) vo (.slice (some ⟨g,0,none⟩) ((a_ B true l q).length+1) cap):=by
 have e1:a_ B true l (q+1)=a_ B true l q++[gt l q]:=by rw[a_,if_pos hB]
 have e2:a_ B false l (q+1)=a_ B false l q:=by rw[a_,if_neg (by rw[hB];decide)]
 refine⟨?_,?_,fun k hk hk2=>?_⟩
 .rw[e2];refine Ag.owns_of h.o1 fun k hk=>?_;have lk:=(h.o1.lt k hk).2;exact(hblk k (Nat.lt_of_lt_of_le lk hA.size) (fun g'=>h.ne k hk g')).trans (hA.block k lk)
 .rw[e1,vz,List.length_append,<-hp];exact own
 .simp only[Value.ownBlock,Option.some.injEq]at hk2;subst hk2;rcases hloc with e | e
  .exact h.ne _ hk e
  .have:=(h.o1.lt _ hk).2;have:=hA.size;omega
theorem qK(l:List Nat)(q:Nat)(h:q<l.length):gi (aV l) q=(gt l q:Int):=by
 unfold gi aV gt;rw[List.getD_eq_getElem?_getD,List.getElem?_map,List.getD_eq_getElem?_getD,List.getElem?_eq_getElem h];rfl
theorem yY(lo:Option Addr)(l:List Nat)(lc:Nat)(N:Int)(ao:Option Addr)(xs:List Nat)(cap:Nat)(w:World)(hl:Nd w lo (aV l))(hn:l.length<=1048576)(hx:Wd w ao xs)(hf:Fit xs):
  Calls prog 66 #[.slice lo l.length lc,.agg #[.int .i64 N,.slice ao xs.length cap]] w fun e w'=>∃vo vn,e=.returned (.tuple #[vo,vn])/\PD w' (w.heap.size+1) (fun i=>dh N xs (i:Int)) l l.length vo vn/\Below w.heap.size w w':=by
 obtain⟨i0,hi,hz0,hz1,hz2⟩:=info_parts mC;obtain⟨B,hB⟩:∃B,Hid (B=fun i:Nat=>dh N xs (i:Int)):=⟨_,rfl⟩;rw[<-hB.out];have HX:=ac hx;have HN:=ac hl
 obtain⟨W,hW⟩:∃W,W=w.alloc (.cells #[.int .i64 N,.slice ao xs.length cap] 33):=⟨_,rfl⟩;have bW:=ac (show Below w.heap.size w W by rw[hW];exact below_alloc w _)
 have B1:=ac (show aa W w.heap.size [.int .i64 N,.slice ao xs.length cap] 33 by rw[hW];exact aa.new w _ _);clear hx hl;go_enter func66,ntmps66;go_wp2;rw[<-hW];clear hW
 go_loopw [4,5,12] (fun vo vn vi wr=>∃q:Nat,q<=l.length/\vi=.int .i64 q/\Hid (PD wr (w.heap.size+1) B l q vo vn)/\Hid (aa wr w.heap.size [.int .i64 N,.slice ao xs.length cap] 33)/\Hid (Below w.heap.size w wr)) (fun _ _ vi _=>l.length-(intOf vi).toNat)
 case atStart=>exact⟨0,Nat.zero_le _,rfl,ac ⟨World.ownsRow_nil _ _ _ _,World.ownsRow_nil _ _ _ _,fun k h=>by cases h⟩,B1,bW⟩
 case round=>
  clear bW B1;obtain⟨q,hq,rfl,HP,K1,HB⟩:=hrel;by_cases hlt:q<l.length
  .have hltz:(q:Int)<(l.length:Int):=by omega
   obtain⟨b,off,rfl,hlb,hc⟩:=(HN.out.keep HB.out) (by unfold aV;rw[List.length_map];omega);have a0:=hc q (by unfold aV;rw[List.length_map];omega);rw[qK l q hlt]at a0;have k0:=K1.out.cell 0 rfl
   have k1:=K1.out.cell 1 rfl;have zk:=K1.out.lt;have HXr:=ac (HX.out.keep HB.out);obtain⟨p,hp⟩:∃p,Hid (p=gt l q):=⟨_,rfl⟩;rw[<-hp.out]at a0;clear hc;go_wp2_with fail
   refine mr (ww N ao xs cap (q:Int) wr HXr.out hf) fun w5 hb=>?_;have HP5:=ac (HP.out.keep hb);have K5:=ac (K1.out.kept hb);have HB5:=ac (bg HB.out hb);have z5:=hb.size
   obtain⟨EE,hEE⟩:∃EE,Hid (EE=cH N xs (q:Int)):=⟨_,rfl⟩;rw[<-hEE.out];obtain⟨BB,hBB⟩:∃BB,Hid (BB=dh N xs (q:Int)):=⟨_,rfl⟩;rw[<-hBB.out]
   have hBq:Hid (B q=BB):=by rw[hB.out,hBB.out];exact rfl
   clear hb HP K1 HB hEE hBB HXr a0 k0 k1;rcases(show BB=true\/BB=false by cases BB;exact .inr rfl;exact .inl rfl)with rfl | rfl
   .have HO:=ac HP5.out.o2
    go_wp2_with (at_builtin;refine Ag.wpList_append (by rfl) _ _ _ (by rfl) (w.heap.size+1) 3 i0 (.int .i64 0) 1 8 underlying24 hi hz0 hz1 hz2 rfl (by decide) u5 (a_ B true l q).length (aX (a_ B true l q)) (by rfl) (HO.out.alloc _) ⟨w5.heap.size,0,none⟩ 1 1 [.int .i64 (p:Nat)] (by rfl) rfl (by decide) ?c1 ?c2 ?c3 ?c4 ?c5 ?_)
    case c1=>
     intro j u hj;have:=(aa.new w5 [.int .i64 (p:Nat)] 3).cell j hj;match j,hj with
     | 0,_=>exact this
    case c2=>intro u hu;simp at hu;subst hu;rfl
    case c3=>have:=lU B true l q;unfold maxLen;omega
    case c4=>have:=lU B true l q;omega
    case c5=>have:=K5.out.lt;simp;omega
    intro g8 cap8 w8 own8 hb8 hloc8 hlt8 hblk8 hs8;have hA:=below_alloc w5 (.cells #[.int .i64 (p:Nat)] 3);have lk:=K5.out.lt;have nb:u5.ownBlock≠some w.heap.size:=fun hk=>by have:=(HO.out.lt _ hk).1;omega
    have K8:Hid (aa w8 w.heap.size [.int .i64 N,.slice ao xs.length cap] 33):=(hblk8 w.heap.size (by omega) nb).trans (K5.out.kept hA)
    have HB8:Hid (Below w.heap.size w w8):=(bg HB5.out hA).trans (hb8.mono (by omega))
    have HP8:=ac (HP5.out.onn (g:=g8) (cap:=cap8) hA own8 (fun k hk hn=>hblk8 k (by simpa using hk) hn) (by simpa using hloc8) hBq.out hp.out);clear own8 hb8 hloc8 hlt8 hblk8 hs8 hA K5 HB5 HP5 HO
    try simp only[Act.put,ae,List.set]
    go_wp2;exact⟨⟨q+1,by omega,rfl,HP8,K8,HB8⟩,by simp only[intOf];omega⟩
   .have HO:=ac HP5.out.o1
    go_wp2_with (at_builtin;refine Ag.wpList_append (by rfl) _ _ _ (by rfl) (w.heap.size+1) 3 i0 (.int .i64 0) 1 8 underlying24 hi hz0 hz1 hz2 rfl (by decide) u4 (a_ B false l q).length (aX (a_ B false l q)) (by rfl) (HO.out.alloc _) ⟨w5.heap.size,0,none⟩ 1 1 [.int .i64 (p:Nat)] (by rfl) rfl (by decide) ?c1 ?c2 ?c3 ?c4 ?c5 ?_)
    case c1=>
     intro j u hj;have:=(aa.new w5 [.int .i64 (p:Nat)] 3).cell j hj;match j,hj with
     | 0,_=>exact this
    case c2=>intro u hu;simp at hu;subst hu;rfl
    case c3=>have:=lU B false l q;unfold maxLen;omega
    case c4=>have:=lU B false l q;omega
    case c5=>have:=K5.out.lt;simp;omega
    intro g8 cap8 w8 own8 hb8 hloc8 hlt8 hblk8 hs8;have hA:=below_alloc w5 (.cells #[.int .i64 (p:Nat)] 3);have lk:=K5.out.lt;have nb:u4.ownBlock≠some w.heap.size:=fun hk=>by have:=(HO.out.lt _ hk).1;omega
    have K8:Hid (aa w8 w.heap.size [.int .i64 N,.slice ao xs.length cap] 33):=(hblk8 w.heap.size (by omega) nb).trans (K5.out.kept hA)
    have HB8:Hid (Below w.heap.size w w8):=(bg HB5.out hA).trans (hb8.mono (by omega))
    have HP8:=ac (HP5.out.offf (g:=g8) (cap:=cap8) hA own8 (fun k hk hn=>hblk8 k (by simpa using hk) hn) (by simpa using hloc8) hBq.out hp.out);clear own8 hb8 hloc8 hlt8 hblk8 hs8 hA K5 HB5 HP5 HO
    try simp only[Act.put,ae,List.set]
    go_wp2;exact⟨⟨q+1,by omega,rfl,HP8,K8,HB8⟩,by simp only[intOf];omega⟩
  .obtain rfl:q=l.length:=by omega
   go_wp2;go_ret2;exact⟨_,_,rfl,HP.out,HB.out⟩
theorem uf(B f:Nat->Bool)(l:List Nat)(b:Bool)(h:∀i,i<l.length->B i=f (gt l i)):∀q,q<=l.length->a_ B b l q=(l.take q).filter fun j=>f j==b
 | 0,_=>rfl
 | q+1,hq=>by
  have e:l[q]?=some (gt l q):=by unfold gt;rw[List.getD_eq_getElem?_getD,List.getElem?_eq_getElem (by omega)];rfl
  rw[a_,uf B f l b h q (by omega),List.take_add_one,e,h q (by omega),List.filter_append];by_cases c:f (gt l q)=b
  .rw[if_pos c];simp[c]
  .rw[if_neg c];simp[c]
def bH(t:List Nat)(L x:Nat):List Nat:=Sh.mem (Sh.bg (vT t) (kT t) L x) t t.length
theorem Dx(P f:Nat->Bool)(t:List Nat)(n:Nat)(b:Bool):(Sh.mem P t n).filter (fun j=>f (gt t j)==b)=Sh.mem (fun c=>P c&&(f c==b)) t n:=by
 unfold Sh.mem;rw[List.filter_filter];refine List.filter_congr fun j _=>?_;rw[Bool.and_comm]
theorem qg{P Q:Nat->Bool}{t:List Nat}{n:Nat}(h:∀j,j<n->P (gt t j)=Q (gt t j)):Sh.mem P t n=Sh.mem Q t n:=List.filter_congr fun j hj=>h j (List.mem_range.1 hj)
theorem pU{t:List Nat}(hn:t.length<=3000)(hB:cM t){q L x:Nat}(h:(nT t)[q]?=some (L,x)):bH t L x=Sh.mem (Sh.st (vT t) (kT t) L x) t t.length:=by
 obtain⟨c,c1,c2,c3⟩:=ks hn (List.mem_of_getElem? h);refine qg fun j hj=>?_;rw[<-c3];exact Sh.bg_st _ _ (fw t (by omega)) c2 (fF t (by omega) hB j hj)
theorem D7{t:List Nat}(hn:t.length<=3000)(hB:cM t){q L x:Nat}(h:(nT t)[q]?=some (L,x)):(bH t L x).length=(rwT t (L,x)).length:=by
 rw[pU hn hB h,Sh.length_mem,kG]
theorem pV(t:List Nat)(L x:Nat):(bH t L x).length<=t.length:=by unfold bH;rw[Sh.length_mem];exact Sh.cp_le _ _ _
theorem BX{t:List Nat}(hn:t.length<=3000)(hB:cM t){q L x:Nat}(h:(nT t)[q]?=some (L,x))(b:Bool):
  a_ (fun i=>dh ((rwT t (L,x)).length:Int) (frL (rwT t (L,x))) (i:Int)) b (bH t L x) (bH t L x).length=bH t (L+1) (2*x+b.toNat):=by
 have hl:=D7 hn hB h;have hle:=pV t L x;rw[uf _ (fun j=>Sh.nb (vT t) (kT t) L (gt t j)) _ b (fun i hi=>?_) _ (Nat.le_refl _),List.take_length,pU hn hB h,Dx]
 .exact qg fun j _=>Sh.st_step _ _ _ _ _ _
 .have e:(rwT t (L,x))[i]?=some (Sh.nb (vT t) (kT t) L (gt t (gt (bH t L x) i))):=by
   unfold rwT Sh.nrow Sh.row;rw[List.getElem?_map,<-pU hn hB h];have:(bH t L x)[i]?=some (gt (bH t L x) i):=by unfold gt;rw[List.getD_eq_getElem?_getD,List.getElem?_eq_getElem hi];rfl
   rw[this];rfl
  unfold dh;rw[decide_eq_true (by omega),Int.toNat_natCast,rK _ _ _ e];unfold frL;rw[dO _ _ (by omega)];rfl
theorem BW{t:List Nat}(hn:t.length<=3000):bH t 0 0=List.range t.length:=by
 unfold bH Sh.mem;rw[List.filter_eq_self];intro j hj;have:=Sh.bg_zero (vT t) (kT t) (c:=gt t j) (d:=gt t j) (bP t (by omega) _) (bP t (by omega) _);rw[Sh.pre_zero _ _ (bP t (by omega) _)]at this;exact this
theorem BZ{t:List Nat}(hn:t.length<=3000)(hB:cM t){c:Nat}(hc:0<vT t c):bH t (vT t c) (kT t c)=Sh.mem (fun d=>decide (d=c)) t t.length:=qg fun j hj=>Sh.bg_all _ _ (fw t (by omega)) hc (fF t (by omega) hB j hj)
def ms(t:List Nat)(q L x:Nat):Prop:=(L=0/\x=0)\/(0<L/\Sh.ixo (L-1,x/2) (nT t)<q)
theorem knw_succ{t:List Nat}(hn:t.length<=3000){q L x:Nat}(h:(nT t)[q]?=some (L,x)){L' x':Nat}(hk:ms t (q+1) L' x'):ms t q L' x'\/(L'=L+1/\(x'=2*x\/x'=2*x+1)):=by
 rcases hk with hk | ⟨h0,h1⟩
 .exact .inl (.inl hk)
 .by_cases e:Sh.ixo (L'-1,x'/2) (nT t)<q
  .exact .inl (.inr ⟨h0,e⟩)
  .have hq:Sh.ixo (L'-1,x'/2) (nT t)=q:=by omega
   have hlt:Sh.ixo (L'-1,x'/2) (nT t)<(nT t).length:=by
    rw[hq];exact(List.getElem?_eq_some_iff.1 h).1
   have hm:(L'-1,x'/2)∈nT t:=by
    by_cases g:(L'-1,x'/2)∈nT t
    .exact g
    .rw[Sh.ixo_out g]at hlt;omega
   have:=Sh.get_ixo hm;rw[hq,h]at this;simp only[Option.some.injEq,Prod.mk.injEq]at this;exact .inr ⟨by omega,by omega⟩
theorem ED{t:List Nat}(hn:t.length<=3000){q L x:Nat}(h:(nT t)[q]?=some (L,x)):ms t q L x:=by
 have kl:=bP t (by omega);have hm:=List.mem_of_getElem? h;by_cases h0:L=0
 .subst h0;obtain⟨c,c1,c2,c3⟩:=ks hn hm;rw[Sh.pre_zero _ _ (kl c)]at c3;exact .inl ⟨rfl,c3.symm⟩
 .exact .inr ⟨by omega,Sh.ixo_before (Sh.sorted_nds _ _) h (Sh.node_up _ _ kl hm (by omega)) (.inl (by show L-1<L;omega))⟩
theorem EF{t:List Nat}(hn:t.length<=3000){c:Nat}(hc:c<256)(h0:0<vT t c):ms t (nT t).length (vT t c) (kT t c):=
 .inr ⟨h0,Sh.ixo_lt (Sh.leaf_up _ _ (bP t (by omega)) (dp t (by omega)).le hc h0)⟩
theorem KI.nou{w:World}{cs:List Value}{a:RA}(h:KI w cs a):bT cs:=by
 obtain⟨cp,cr,cf,rfl,_,h1,h2,h3⟩:=h.arg;exact nou_mk h1.nou h2.nou h3.nou
def b_(n:Nat):List Value:=(List.replicate n zv).flatten
theorem CX:bT zv:=by
 intro v hv n e;subst e;simp[zv]at hv
theorem bT.flat{css:List (List Value)}(h:∀c∈css,bT c):bT css.flatten:=fun v hv n=>by
 obtain⟨c,hc,hv⟩:=List.mem_flatten.1 hv;exact h c hc v hv n
theorem u6(css:List (List Value))(h:∀c∈css,c.length=22):css.flatten.length=css.length*22:=by
 induction css with
 | nil=>rfl
 | cons a l ih=>
  rw[List.flatten_cons,List.length_append,ih (fun c hc=>h c (List.mem_cons_of_mem _ hc)),h a List.mem_cons_self,List.length_cons];omega
theorem GA(css:List (List Value))(h:∀c∈css,c.length=22)(l:Nat)(c:List Value)(hl:css[l]?=some c)(post:List Value):∃p q,css.flatten++post=p++(c++q)/\p.length=l*22:=by
 induction css generalizing l with
 | nil=>simp at hl
 | cons a L ih=>
  cases l with
  | zero=>
   simp at hl;subst hl;exact⟨[],L.flatten++post,by simp,rfl⟩
  | succ l=>
   obtain⟨p,q,e1,e2⟩:=ih (fun c hc=>h c (List.mem_cons_of_mem _ hc)) l (by simpa using hl);refine⟨a++p,q,?_,?_⟩
   .rw[List.flatten_cons,List.append_assoc,e1,List.append_assoc]
   .rw[List.length_append,h a List.mem_cons_self,e2];omega
theorem vD:(prog.info? 44).map (fun i=>(i.zero,i.size,i.bytes))=some (some (.agg zv.toArray),22,320):=by kernel_rfl
theorem rU(n:Nat):Builtin.zeroCells zv.toArray n=(b_ n).toArray:=by
 have e:∀n,(List.range (n*22)).map (fun i=>zv.toArray[i%22]!)=b_ n:=by
  intro n;induction n with
  | zero=>rfl
  | succ n ih=>
   have h:b_ (n+1)=b_ n++zv:=by
    unfold b_;rw[List.replicate_succ',List.flatten_append];simp
   rw[h,<-ih,Nat.succ_mul,List.range_add,List.map_append,List.map_map];congr 1;have g:(List.range 22).map (fun i=>zv.toArray[i]!)=zv:=by rfl
   refine Eq.trans (List.map_congr_left fun i hi=>?_) g;have hi:=List.mem_range.1 hi;simp only[Function.comp_def];rw[show(n*22+i)%22=i by omega]
 apply Array.ext';unfold Builtin.zeroCells;rw[Array.toList_map,Array.toList_range];exact e n
def lq(w:World)(v:Value)(css:List (List Value)):Prop:=
 (v=.slice none 0 0/\css=[])\/∃g cap,v=.slice (some ⟨g,0,none⟩) css.length cap/\css.length<=cap/\aa w g (css.flatten++b_ (cap-css.length)) 44
def Tn(w w':World)(v:Value)(css:List (List Value)):Prop:=
 (∃g cap,v=.slice (some ⟨g,0,none⟩) css.length cap/\aa w g (css.flatten++b_ (cap-css.length)) 44/\aw g w w')\/Below w.heap.size w w'
theorem xT{o:Oper}{a:Act}{w:World}{K:Act->World->Prop}{Q:Exit->Act->World->Prop}(s x:Operand)
  (ho:o.op=.call { callee:=.builtin .append,args:=#[s,x],argTypes:=#[25,25] })
  (v:Value) (css:List (List Value)) (hs:a.eval s=v) (h:lq w v css) (hL:∀c∈css,c.length=22) (cs:List Value) (hc:cs.length=22) (ad:Addr) (c0:Nat) (hx:a.eval x=.slice (some ad) 1 c0) (hn:∀j u,cs[j]?=some u->w.cell? (ad.add j)=some u) (h1:∀u∈cs,u.oneCell'=true) (h8:css.length<1000000)
  (k:∀v' w',lq w' v' (css++[cs])->Tn w w' v css->(∀g,v'.ownBlock=some g->v.ownBlock=some g\/g=w.heap.size)->K (a.put o.dst v') w'):o.wp prog a w K Q:=by
 obtain⟨i0,hi,hz0,hz1,hz2⟩:=info_parts vD;have hfl:=u6 css hL;rcases h with⟨rfl,rfl⟩ | ⟨g,cap,rfl,hcap,hcel⟩
 .have hr:=run_append_nil (P:=prog) w 25 o.type 44 i0 (.agg zv.toArray) underlying25 hi hz0 ad 1 c0 cs (by rw[hz1,hc]) hn (by decide) (by decide) (by rw[hz2];decide)
  have hge:1<=grownCap w 1 0 44:=grownCap_ge w 1 0 44;generalize grownCap w 1 0 44=cp at *;unfold Oper.wp execOp
  simp only[ho,resolve,invoke,builtin,Sem.run_bind,Sem.run_pure,Result.andThen_ok,List.map_toArray,List.map_cons,List.map_nil,hs,hx,hr]
  refine k _ _ (.inr ⟨w.heap.size,cp,rfl,hge,?_⟩) (.inr ?_) (fun g hg=>.inr (by injection hg with e;exact e.symm))
  .have:=aa.new w.drew (cs++b_ (cp-1)) 44;simpa [Value.cells,rU]using this
  .exact(Below.refl w.heap.size w).drew.alloc (Nat.le_refl _) _
 .by_cases hroom:css.length+1<=cap
  .have hsz:(css.flatten++b_ (cap-css.length)).length=cap*22:=by
    have:(b_ (cap-css.length)).length=(cap-css.length)*22:=by
     unfold b_;rw[u6 _ (fun c h=>by rw[(List.mem_replicate.1 h).2];rfl),List.length_replicate]
    rw[List.length_append,hfl,this,<-Nat.add_mul];congr 1;omega
   have hr:=run_append_room (P:=prog) w 25 o.type 44 i0 underlying25 hi g css.length cap _ hcel ad 1 c0 cs (by rw[hz1,hc]) hn h1 hroom (by rw[hz1,hc,List.size_toArray,hsz];omega)
   have ez:b_ (cap-css.length)=zv++b_ (cap-(css.length+1)):=by rw[show cap-css.length=cap-(css.length+1)+1 by omega];rfl
   have e2:(css.flatten++b_ (cap-css.length)).take (css.length*i0.size)++cs++(css.flatten++b_ (cap-css.length)).drop (css.length*i0.size+cs.length)=css.flatten++(cs++b_ (cap-(css.length+1))):=by
    rw[hz1,hc,<-hfl,List.take_left',ez,List.append_assoc]
    .congr 2;rw[List.drop_append,List.drop_eq_nil_of_le (by omega),show css.flatten.length+22-css.flatten.length=zv.length by rw[uZ];omega,List.drop_left,List.nil_append]
    .rfl
   unfold Oper.wp execOp;simp only[ho,resolve,invoke,builtin,Sem.run_bind,Sem.run_pure,Result.andThen_ok,List.map_toArray,List.map_cons,List.map_nil,hs,hx,hr];rw[e2]
   refine k _ _ (.inr ⟨g,cap,by simp,by simp;omega,?_⟩) (.inl ⟨g,cap,rfl,hcel,aw.row g w _⟩) (fun g hg=>.inl hg);have:=setRow_heap w g _ (css.flatten++(cs++b_ (cap-(css.length+1)))).toArray _ _ hcel
   have e3:(css++[cs]).flatten++b_ (cap-(css++[cs]).length)=css.flatten++(cs++b_ (cap-(css.length+1))):=by simp
   rw[e3];exact this
  .have holds:∀j u,css.flatten[j]?=some u->w.cell? ((⟨g,0,none⟩:Addr).add j)=some u:=fun j u hj=>by
    have hlt:=(List.getElem?_eq_some_iff.1 hj).1;have:=hcel.cell j (v:=u) (by rw[List.getElem?_append_left hlt];exact hj);rw[<-this];unfold Addr.add;split
    .subst_vars;rfl
    .simp
   have hr:=run_append_grow (P:=prog) w 25 o.type 44 i0 (.agg zv.toArray) underlying25 hi hz0 ⟨g,0,none⟩ css.length cap css.flatten (by rw[hz1,hfl]) holds ad 1 c0 cs (by rw[hz1,hc]) hn (by omega) (by omega) (growslice_fits (by omega) (by rw[hz2];omega))
   have hge:css.length+1<=grownCap w (css.length+1) cap 44:=grownCap_ge w (css.length+1) cap 44;generalize grownCap w (css.length+1) cap 44=cp at *;unfold Oper.wp execOp
   simp only[ho,resolve,invoke,builtin,Sem.run_bind,Sem.run_pure,Result.andThen_ok,List.map_toArray,List.map_cons,List.map_nil,hs,hx,hr]
   refine k _ _ (.inr ⟨w.heap.size,cp,by simp,by simpa using hge,?_⟩) (.inr ((Below.refl w.heap.size w).drew.alloc (Nat.le_refl _) _)) (fun g hg=>.inr (by injection hg with e;exact e.symm))
   have:=aa.new w.drew (css.flatten++(cs++b_ (cp-(css.length+1)))) 44;have e3:(css++[cs]).flatten++b_ (cp-(css++[cs]).length)=css.flatten++(cs++b_ (cp-(css.length+1))):=by simp
   rw[e3];simpa [Value.cells,rU,List.append_assoc]using this
theorem aw.nd2{g:Nat}{w w':World}{ao:Option Addr}{l:List Int}(h:aw g w w')(hx:Nd w ao l)(hf:0<l.length->∀a,ao=some a->a.block≠g):Nd w' ao l:=by
 intro h0;obtain⟨b,off,rfl,hlt,hc⟩:=hx h0;have hne:b≠g:=hf h0 _ rfl;exact⟨b,off,rfl,by rw[h.size];exact hlt,fun i hi=>(h.cell (p:=⟨b,off+i,none⟩) hne).trans (hc i hi)⟩
def NE(g:Nat)(cs:List Value):Prop:=∀i ao n c,(i=3\/i=4\/i=12\/i=13)->cs[i]?=some (.slice ao n c)->0<n->∀a,ao=some a->a.block≠g
theorem jC.ne{base g:Nat}{cs:List Value}(h:jC base cs)(hg:g<base):NE g cs:=fun i ao n c hi e _ a ha=>by
 have:Fr base ao:=by
  rcases hi with rfl | rfl | rfl | rfl
  .exact h.1 ao n c (.inl e)
  .exact h.1 ao n c (.inr e)
  .exact h.2 ao n c (.inl e)
  .exact h.2 ao n c (.inr e)
 have:=this a ha;omega
theorem KI.ne{w:World}{cs:List Value}{a:RA}(h:KI w cs a):NE w.heap.size cs:=by
 obtain⟨cp,cr,cf,rfl,_,h1,h2,h3⟩:=h.arg;obtain⟨ao,cap,so,sc,tO,tc,rfl,g1⟩:=h1;obtain⟨bo,dap,qo,eap,uo,uc,vO,vc,rfl,g2,a1,a2,a3,a4,a5,a6,a7,a8,a9,a10⟩:=h2
 have k:∀{o:Option Addr} {l:List Int},Nd w o l->0<l.length->∀a,o=some a->a.block≠w.heap.size:=fun hN h0 a ha=>by
  obtain⟨b,off,e,hlt,_⟩:=hN h0;rw[ha]at e;cases e;show b≠_;omega
 intro i o n c hi e hn;rcases hi with rfl | rfl | rfl | rfl
 .simp at e;obtain⟨rfl,rfl,rfl⟩:=e;exact k g1.s hn
 .simp at e;obtain⟨rfl,rfl,rfl⟩:=e;exact k g1.t hn
 .simp at e;obtain⟨rfl,rfl,rfl⟩:=e;exact k a7 hn
 .simp at e;obtain⟨rfl,rfl,rfl⟩:=e;exact k a9 hn
theorem KI.only2{w w2:World}{g:Nat}{cs gs:List Value}{a:RA}{T:TypeId}(h:KI w cs a)(nf:NE g cs)(hc:aa w g gs T)(hn:bT gs)(hO:aw g w w2)(G2:GV w2):KI w2 cs a:=by
 obtain⟨⟨cp,cr,cf,rfl,k,h1,h2,h3⟩,sm,_⟩:=h;have k9:bK w cf a.f:=⟨h3,sm.f0,sm.f1,sm.f2⟩;obtain⟨ao,cap,so,sc,tO,tc,rfl,g1⟩:=h1
 obtain⟨bo,dap,qo,eap,uo,uc,vO,vc,rfl,g2,a1,a2,a3,a4,a5,a6,a7,a8,a9,a10⟩:=h2
 refine⟨⟨_,_,cf,rfl,k,⟨ao,cap,so,sc,tO,tc,rfl,⟨g1.n,hO.wd g1.x (g1.x.apart hc hn),g1.f,g1.c,hO.nd2 g1.s (nf 3 _ _ _ (.inl rfl) rfl),g1.sf,g1.sc,hO.nd2 g1.t (nf 4 _ _ _ (.inr (.inl rfl)) rfl),g1.tf,g1.tc⟩⟩,⟨bo,dap,qo,eap,uo,uc,vO,vc,rfl,g2,hO.wd a1 (a1.apart hc hn),a2,a3,hO.wd a4 (a4.apart hc hn),a5,a6,hO.nd2 a7 (nf 12 _ _ _ (.inr (.inr (.inl rfl))) rfl),a8,hO.nd2 a9 (nf 13 _ _ _ (.inr (.inr (.inr rfl))) rfl),a10⟩,(k9.only hc hn hO).arg⟩,sm,G2⟩
structure dw (gx:Nat) (w:World) (v:Value) (R:Nat->RA) (css:List (List Value)):Prop where
 lo:lq w v css
 row:∀l c,css[l]?=some c->KI w c (R l)/\(∀g,v.ownBlock=some g->NE g c)/\∀g0,g0<=gx->NE g0 c
theorem dw.l22{gx:Nat}{w:World}{v:Value}{R:Nat->RA}{css:List (List Value)}(h:dw gx w v R css):∀c∈css,c.length=22:=fun c hc=>by
 obtain⟨l,hl⟩:=List.getElem?_of_mem hc;exact(h.row l c hl).1.arg.nine.symm
theorem dw.nil(gx:Nat)(w:World)(R:Nat->RA):dw gx w (.slice none 0 0) R []:=⟨.inl ⟨rfl,rfl⟩,fun l c e=>by simp at e⟩
theorem dw.keep{gx:Nat}{w w':World}{v:Value}{R:Nat->RA}{css:List (List Value)}(h:dw gx w v R css)(hb:Below w.heap.size w w'):dw gx w' v R css:=by
 refine⟨?_,fun l c e=>⟨(h.row l c e).1.keep hb,(h.row l c e).2⟩⟩;rcases h.lo with e | ⟨g,cap,e1,e2,e3⟩
 .exact .inl e
 .exact .inr ⟨g,cap,e1,e2,e3.kept hb⟩
theorem CY{gx:Nat}{w:World}{v:Value}{R:Nat->RA}{css:List (List Value)}(h:dw gx w v R css)(n:Nat):bT (css.flatten++b_ n):=by
 refine bT.app (bT.flat fun c hc=>?_) (bT.flat fun c hc=>?_)
 .obtain⟨l,hl⟩:=List.getElem?_of_mem hc;exact(h.row l c hl).1.nou
 .rw[(List.mem_replicate.1 hc).2];exact CX
theorem xo{w:World}{g:Nat}{xs bs:List Value}{T S:TypeId}(h1:aa w g xs T)(h2:aa w g bs S):T=S:=by
 unfold aa at h1 h2;rw[h1]at h2;injection h2 with e
 injection e
theorem dw.only{gx g0:Nat}{w w2:World}{v:Value}{R:Nat->RA}{css:List (List Value)}{gs:List Value}{T:TypeId}(h:dw gx w v R css)(hg:g0<=gx)(hc:aa w g0 gs T)(hT:T≠44)(hn:bT gs)(hO:aw g0 w w2)(G2:GV w2):dw gx w2 v R css:=by
 refine⟨?_,fun l c e=>⟨(h.row l c e).1.only2 ((h.row l c e).2.2 g0 hg) hc hn hO G2,(h.row l c e).2⟩⟩;rcases h.lo with e | ⟨g,cap,e1,e2,e3⟩
 .exact .inl e
 .exact .inr ⟨g,cap,e1,e2,hO.cel e3 (fun q=>hT (by subst q;exact xo hc e3))⟩
theorem Tn.cel{w w2:World}{v:Value}{css:List (List Value)}(h:Tn w w2 v css){b:Nat}{bs:List Value}{T:TypeId}(hc:aa w b bs T)(hT:T≠44):aa w2 b bs T:=by
 rcases h with⟨g,cap,rfl,e1,e2⟩ | hb
 .exact e2.cel hc (fun q=>hT (by subst q;exact xo hc e1))
 .exact hc.kept hb
theorem Tn.below{w w2:World}{v:Value}{css:List (List Value)}{base:Nat}(h:Tn w w2 v css)(ho:∀g,v.ownBlock=some g->base<=g)(hb:base<=w.heap.size):Below base w w2:=by
 rcases h with⟨g,cap,rfl,e1,e2⟩ | h
 .exact e2.below (ho g rfl)
 .exact h.mono hb
theorem dw.push{gx:Nat}{w w2:World}{v v2:Value}{R:Nat->RA}{css:List (List Value)}{c:List Value}(h:dw gx w v R css)(hk:KI w c (R css.length))(hn:(∀g,v.ownBlock=some g->NE g c)/\∀g0,g0<=gx->NE g0 c)(h2:lq w2 v2 (css++[c]))(hT:Tn w w2 v css)(hv:∀g,v2.ownBlock=some g->v.ownBlock=some g\/g=w.heap.size)(G2:GV w2):dw gx w2 v2 R (css++[c]):=by
 have st:∀d a,KI w d a->((∀g,v.ownBlock=some g->NE g d)/\∀g0,g0<=gx->NE g0 d)->KI w2 d a/\(∀g,v2.ownBlock=some g->NE g d)/\∀g0,g0<=gx->NE g0 d:=fun d a hd hN=>by
  refine⟨?_,fun g hg=>?_,hN.2⟩
  .rcases hT with⟨g,cap,rfl,e1,e2⟩ | hb
   .exact hd.only2 (hN.1 g rfl) e1 (CY h _) e2 G2
   .exact hd.keep hb
  .rcases hv g hg with e | rfl
   .exact hN.1 g e
   .exact hd.ne
 refine⟨h2,fun l d e=>?_⟩;by_cases q:l<css.length
 .rw[List.getElem?_append_left q]at e;exact st d _ (h.row l d e).1 (h.row l d e).2
 .have q2:l=css.length:=by
   have:=(List.getElem?_eq_some_iff.1 e).1;simp at this;omega
  subst q2;rw[List.getElem?_append_right (Nat.le_refl _),Nat.sub_self]at e;simp at e;subst e;exact st c _ hk hn
theorem GK(c0 c1 c2 c3 c4 c5 c6 c7 c8 c9 c10 c11 c12 c13 c14 c15 c16 c17 c18 c19 c20 c21:Value):Instr.fill (fun i=>some (i*22,22)) ((Array.range (1*22)).map ((Value.agg zv.toArray).cells[·%(Value.agg zv.toArray).cells.size]!)) [(0,Value.agg #[c0,c1,c2,c3,c4,c5,c6,c7,c8,c9,c10,c11,c12,c13,c14,c15,c16,c17,c18,c19,c20,c21])]=some #[c0,c1,c2,c3,c4,c5,c6,c7,c8,c9,c10,c11,c12,c13,c14,c15,c16,c17,c18,c19,c20,c21]:=by kernel_rfl
theorem GL(cs:List Value)(h:cs.length=22):Instr.fill (fun i=>some (i*22,22)) ((Array.range (1*22)).map ((Value.agg zv.toArray).cells[·%(Value.agg zv.toArray).cells.size]!)) [(0,Value.agg cs.toArray)]=some cs.toArray:=by
 match cs,h with
 | [c0,c1,c2,c3,c4,c5,c6,c7,c8,c9,c10,c11,c12,c13,c14,c15,c16,c17,c18,c19,c20,c21],_=>exact GK c0 c1 c2 c3 c4 c5 c6 c7 c8 c9 c10 c11 c12 c13 c14 c15 c16 c17 c18 c19 c20 c21
theorem I9{ops:Array Oper}{rest:List Oper}{d:Option Tmp}{ty:TypeId}{ps:String}{af:Array Edge}{a:Act}{w:World}{Q:Exit->Act->World->Prop}{x:Operand}(cs:List Value)(hc:cs.length=22)(hx:a.eval x=.agg cs.toArray)
  (h:wpList prog ops Q rest (a.put d (.slice (some ⟨w.heap.size,0,none⟩) 1 1)) (w.alloc (.cells cs.toArray 44))):
  wpList prog ops Q (⟨d,.buildSlice 25 1 #[(0,x)],ty,ps,af,none⟩::rest) a w:=by
 obtain⟨i0,hi,hz0,hz1,hz2⟩:=info_parts vD;refine wpList_buildSlice rfl 25 44 1 #[(0,x)] rfl cs.toArray i0 (.agg zv.toArray) underlying25 hi hz0 (by rw[hz1];decide) (by rw[hz1];decide) ?_ h;rw[hz1]
 simp only[List.map_toArray,List.map_cons,List.map_nil,hx];exact GL cs hc
theorem xZ{ops:Array Oper}{rest:List Oper}{o:Oper}{a:Act}{w:World}{Q:Exit->Act->World->Prop}(hgd:o.guard=none)(s x:Operand)
  (ho:o.op=.call { callee:=.builtin .append,args:=#[s,x],argTypes:=#[25,25] })
  (v:Value) (css:List (List Value)) (hs:a.eval s=v) (h:lq w v css) (hL:∀c∈css,c.length=22) (cs:List Value) (hc:cs.length=22) (ad:Addr) (c0:Nat) (hx:a.eval x=.slice (some ad) 1 c0) (hn:∀j u,cs[j]?=some u->w.cell? (ad.add j)=some u) (h1:∀u∈cs,u.oneCell'=true) (h8:css.length<1000000)
  (k:∀v' w',lq w' v' (css++[cs])->Tn w w' v css->(∀g,v'.ownBlock=some g->v.ownBlock=some g\/g=w.heap.size)->wpList prog ops Q rest (a.put o.dst v') w'):wpList prog ops Q (o::rest) a w:=
 wpList_plain hgd fun K hK=>xT s x ho v css hs h hL cs hc ad c0 hx hn h1 h8 fun v' w' h1 h2 h3=>hK _ _ (k v' w' h1 h2 h3)
theorem dw.lv{gx:Nat}{w:World}{v:Value}{av:List RA}{css:List (List Value)}(h:dw gx w v (fun j=>av.getD j cy) css)(h8:css.length=av.length):∃lo cap,v=.slice lo av.length cap/\Lv w lo av:=by
 rcases h.lo with⟨e,rfl⟩ | ⟨g,cap,e1,e2,e3⟩
 .have h0:av.length=0:=by simpa using h8.symm
  exact⟨none,0,by rw[h0];exact e,fun q=>absurd q (by omega)⟩
 .rw[h8]at e1 e2;refine⟨_,cap,e1,fun _=>⟨g,0,rfl,e3.lt,fun l hl=>?_⟩⟩;obtain⟨c,hc⟩:∃c,css[l]?=some c:=⟨_,List.getElem?_eq_getElem (by omega)⟩
  obtain⟨p,q,f1,f2⟩:=GA css h.l22 l c hc (b_ (cap-css.length));refine⟨c,?_,(h.row l c hc).1⟩;rw[f1]at e3;have:=aa.part p c q e3;rwa [f2,<-Nat.zero_add (l*22)]at this
theorem Jh{w:World}{base n c:Nat}{ao:Option Addr}{l:List Bool}(h:w.ownsRow base 4 1 (.slice ao n c) n (l.map .bool))(hn:n=l.length):Bl w ao l:=by
 intro h0;obtain⟨_,⟨e,_⟩ | ⟨g,cap,cur,e,_,hh,_,_,hs,ht⟩⟩:=h
 .injection e with e1 e2 e3
  omega
 .injection e with e1 e2 e3
  subst e1;refine⟨g,0,rfl,(Array.getElem?_eq_some_iff.1 hh).1,fun i hi=>?_⟩
  have e5:cur.toList[i]?=some (.bool (bt l i)):=by
   have:(l.map Value.bool)[i]?=some (.bool (bt l i)):=by
    unfold bt;rw[List.getElem?_map,List.getD_eq_getElem?_getD,List.getElem?_eq_getElem hi];rfl
   rw[<-ht,List.getElem?_take_of_lt (by omega)]at this;exact this
  rw[Nat.zero_add];unfold World.cell?;rw[show w.heap[({ block:=g,off:=i,spot:=none }:Addr).block]?=_ from hh];simpa using e5
structure Ex (g:Nat) (w w':World):Prop where
 size:w.heap.size<=w'.heap.size
 block:∀k,k<w.heap.size->k≠g->w'.heap[k]?=w.heap[k]?
theorem Ex.refl(g:Nat)(w:World):Ex g w w:=⟨Nat.le_refl _,fun _ _ _=>rfl⟩
theorem Ex.below{g:Nat}{w a b:World}(h:Ex g w a)(hb:Below a.heap.size a b):Ex g w b:=⟨Nat.le_trans h.size hb.size,fun k hk hg=>(hb.block k (Nat.lt_of_lt_of_le hk h.size)).trans (h.block k hk hg)⟩
theorem Ex.only{g:Nat}{w a b:World}(h:Ex g w a)(hb:aw g a b):Ex g w b:=⟨by rw[hb.size];exact h.size,fun k hk hg=>(hb.block k hg).trans (h.block k hk hg)⟩
theorem Ex.other{g r:Nat}{w a b:World}(h:Ex g w a)(hb:aw r a b)(hr:w.heap.size<=r):Ex g w b:=⟨by rw[hb.size];exact h.size,fun k hk hg=>(hb.block k (by omega)).trans (h.block k hk hg)⟩
theorem Ex.cell{g:Nat}{w w':World}(h:Ex g w w'){p:Addr}(hp:p.block<w.heap.size)(hg:p.block≠g):w'.cell? p=w.cell? p:=World.cell?_of_block (w:=w) (h.block p.block hp hg)
theorem Ex.nd{g:Nat}{w w':World}{b:Nat}{l:List Int}(h:Ex g w w')(hn:Nd w (some ⟨b,0,none⟩) l)(hg:b≠g):Nd w' (some ⟨b,0,none⟩) l:=fun h0=>by
 obtain⟨b',off,e,hl,hc⟩:=hn h0;simp only[Option.some.injEq,Addr.mk.injEq]at e;obtain⟨rfl,rfl,_⟩:=e;exact⟨_,_,rfl,Nat.lt_of_lt_of_le hl h.size,fun i hi=>(h.cell (p:=⟨b,0+i,none⟩) hl hg).trans (hc i hi)⟩
theorem Ex.tn{g:Nat}{w a b:World}{v:Value}{css:List (List Value)}(h:Ex g w a)(hT:Tn a b v css)(hv:∀gg,v.ownBlock=some gg->w.heap.size<=gg):Ex g w b:=by
 rcases hT with⟨g',cap,rfl,e1,e2⟩ | hb
 .exact h.other e2 (hv g' rfl)
 .exact h.below hb
theorem kF(l:List Nat):(aV l).length=l.length:=by unfold aV;simp
theorem tB{t:List Nat}(hn:t.length<=3000){k:Int}{q L x:Nat}(h:(nT t)[q]?=some (L,x)):L<=64/\x<18446744073709551616:=by
 have hL:=dp t (by omega);have:=Sh.node_small (vT t) (kT t) (bP t (by omega)) hL.le (List.mem_of_getElem? h);exact⟨by omega,this.2⟩
theorem Ai(k:Int)(ao:Option Addr)(t:List Nat)(cap:Nat)(w:World)(hk:1<=k/\k<=3)(hx:Bd w ao t)(hB:cM t)(hn:t.length<=3000)(G:GV w):
  Calls prog 10 #[.int .i64 k,.slice ao t.length cap] w fun e w'=>∃cs,e=.returned (.tuple #[.agg cs.toArray,.int .i64 0])/\SX w' cs k t/\Below w.heap.size w w':=by
 have hK:ax k:=by unfold ax;omega
 have hL:=ac (dp t (by omega));have HG:=ac G;have HX:=ac hx;have HBy:=ac hB;have HKL:=ac (bP t (by omega))
 have C1:Hid (Qz w 33 #[.int .i64 k] (.bool true)):=fun w0 hb=>by
  have:=ta k hK w0 (G.keep hb);rw[decide_eq_true hk]at this;exact this
 have C2:Hid (∀w0,Below w.heap.size w w0->Calls prog 35 #[.slice ao t.length cap] w0 fun e w'=>∃g,e=.returned (.slice (some ⟨g,0,none⟩) 256 256)/\aa w' g (aX (ctl t t.length)) 3/\w0.heap.size<=g/\Below w0.heap.size w0 w'):=fun w0 hb=>Ad ao t cap w0 (hx.keep hb) hB (by omega)
 have C3:Hid (∀w0 g,aa w0 g (aX (ctl t t.length)) 3->Calls prog 34 #[.slice (some ⟨g,0,none⟩) 256 256] w0 fun e w'=>∃g,e=.returned (.tuple #[.slice (some ⟨g,0,none⟩) 256 256,.int .i64 0])/\Nd w' (some ⟨g,0,none⟩) (cZ (vT t))/\g<w'.heap.size/\w0.heap.size<=g/\Below w0.heap.size w0 w'):=fun w0 g hc=>by
  have:=vv (some ⟨g,0,none⟩) (aV (ctl t t.length)) 256 w0 (ma hc) (by rw[kF,ia];omega) (pi t (by omega));rw[kF,ia]at this;refine this.mono ?_;rintro e w' ⟨g',rfl,h1,h2,h3⟩
  refine⟨g',rfl,?_,h1.lt,h2,h3⟩;rw[<-uR];exact ma h1
 have C4:Hid (∀w0 g,Nd w0 (some ⟨g,0,none⟩) (cZ (vT t))->Calls prog 36 #[.slice (some ⟨g,0,none⟩) 256 256] w0 fun e w'=>∃g,e=.returned (.tuple #[.slice (some ⟨g,0,none⟩) 256 256,.int .i64 0])/\aa w' g (cC (vT t)) 83/\Below w0.heap.size w0 w'):=fun w0 g hc=>by
  have:=vy (some ⟨g,0,none⟩) (cZ (vT t)) 256 w0 hc (by rw[length_lst];omega) (uU hL.out);rw[length_lst,oL hL.out.out]at this;refine this.mono ?_;rintro e w' ⟨g',rfl,h1,h2,h3⟩;exact⟨g',rfl,h1,h3⟩
 have C5:Hid (∀w0 g,Below w.heap.size w w0->aa w0 g (cC (vT t)) 83->Calls prog 37 #[.slice ao t.length cap,.slice (some ⟨g,0,none⟩) 256 256] w0 fun e w'=>∃gm n M,e=.returned (.map (some gm))/\NX gm n M (fun L x=>rwT t (L,x)) w'/\Below w0.heap.size w0 w'):=fun w0 g hb hc=>by
  refine(zl ao t cap g (vT t) w0 (hx.keep hb) hB (by omega) hc hL.out.le (bP t (by omega))).mono ?_;rintro e w' ⟨gm,n,M,rfl,h1,h2,h3⟩;exact⟨gm,n,M,rfl,h1,h3⟩
 have C6:Hid (∀w0 g,aa w0 g (cC (vT t)) 83->Calls prog 38 #[.slice (some ⟨g,0,none⟩) 256 256] w0 fun e w'=>∃ao cap,e=.returned (.slice ao (nT t).length cap)/\Cs w' ao (nT t)/\Below w0.heap.size w0 w'/\Fr w0.heap.size ao):=fun w0 g hc=>tq g (vT t) w0 hc hL.out.le (bP t (by omega))
 have C7:Hid (∀w0 L x ra rc,Bl w0 ra (rwT t (L,x))->Calls prog 39 #[.slice ra (rwT t (L,x)).length rc] w0 fun e w'=>∃bo dap,e=.returned (.tuple #[.agg #[.int .i64 (rwT t (L,x)).length,.slice bo (frL (rwT t (L,x))).length dap],.int .i64 0])/\Wd w' bo (frL (rwT t (L,x)))/\(frL (rwT t (L,x))).length<=dap/\Below w0.heap.size w0 w'):=fun w0 L x ra rc h=>by
  have hr:=gF t (L,x);refine(Gq ra (rwT t (L,x)) rc w0 h (by omega)).mono ?_;rintro e w' ⟨bo,dap,rfl,h1,h2,h3,h4⟩;exact⟨bo,dap,rfl,h1,h3,h4⟩
 have C8:Hid (∀w0 L x bo dap,Below w.heap.size w w0->Wd w0 bo (frL (rwT t (L,x)))->(frL (rwT t (L,x))).length<=dap->Calls prog 40 #[.int .i64 k,.agg #[.int .i64 (rwT t (L,x)).length,.slice bo (frL (rwT t (L,x))).length dap]] w0 fun e w'=>∃cs:List Value,e=.returned (.tuple #[.agg cs.toArray,.int .i64 0])/\KI w' cs (kB k ((rwT t (L,x)).length:Int) (frL (rwT t (L,x))))/\Below w0.heap.size w0 w'/\jC w0.heap.size cs):=fun w0 L x bo dap hb h1 h2=>by
  have hr:=gF t (L,x);have:=xx k ((rwT t (L,x)).length:Int) bo (frL (rwT t (L,x))) dap w0 hK (by unfold ax;omega) h1 (db _ _) h2 ⟨by omega,by unfold frL;rw[cU];omega⟩ (G.keep hb)
  have e:kE k ((rwT t (L,x)).length:Int) (frL (rwT t (L,x)))=0:=nY k _ _ hk.1 hk.2 (dO _ _ (by omega));rw[e]at this;exact this
 obtain⟨n,hnn⟩:∃n,Hid (n=t.length):=⟨_,rfl⟩;have hn2:n<=3000:=by rw[hnn.out];exact hn
 rw[<-hnn.out]at C2 C3 C5⊢;have n1:¬(n:Int)>8192:=by omega
 have HN3:=ac hn;have HFew:=ac (kt hn);obtain⟨W,hW⟩:∃W,W=w.alloc (.cells #[.int .i64 0,.int .i64 0,.slice none 0 0,.slice none 0 0] 27):=⟨_,rfl⟩
 have bW:=ac (show Below w.heap.size w W by rw[hW];exact below_alloc w _);have B4:=ac (show aa W w.heap.size [.int .i64 0,.int .i64 0,.slice none 0 0,.slice none 0 0] 27 by rw[hW];exact aa.new w _ _)
 clear hx hB hn G;go_enter func10,ntmps10;go_wp2_with fail;rw[<-hW];refine mr (C1.out _ bW.out) fun w1 hb=>?_;have B41:=ac (B4.out.kept hb);have HB1:=ac (bg bW.out hb)
 clear hb hW bW B4 C1;go_wp2_with fail;refine(C2.out _ HB1.out).mono ?_;rintro e w2 ⟨g1,rfl,hc,_,hb⟩;have B42:=ac (B41.out.kept hb);have HB2:=ac (bg HB1.out hb);have HC1:=ac hc
 clear hb hc B41 HB1 C2;go_wp2_with fail;refine(C3.out _ _ HC1.out).mono ?_;rintro e w3 ⟨g2,rfl,hc,hg2,hgl,hb⟩;have hwg:w.heap.size<g2:=Nat.lt_of_lt_of_le B42.out.lt hgl;clear hgl;have B43:=ac (B42.out.kept hb)
 have HB3:=ac (bg HB2.out hb);have HL3:=ac hc;clear hb hc B42 HB2 HC1 C3;go_wp2_with fail;refine(C4.out _ _ HL3.out).mono ?_;rintro e w4 ⟨g3,rfl,hc,hb⟩;have B44:=ac (B43.out.kept hb)
 have HB4:=ac (bg HB3.out hb);have HL4:=ac (HL3.out.keep hb);have HC4:=ac hc;have hg24:g2<w4.heap.size:=Nat.lt_of_lt_of_le hg2 hb.size;clear hb hc B43 HB3 HL3 C4 hg2;go_wp2_with fail
 refine(C5.out _ _ HB4.out HC4.out).mono ?_;rintro e w5 ⟨gm,m,M,rfl,hc,hb⟩;have B45:=ac (B44.out.kept hb);have HB5:=ac (bg HB4.out hb);have HL5:=ac (HL4.out.keep hb)
 have HC5:=ac (HC4.out.kept hb);have HN5:=ac hc;have hg25:g2<w5.heap.size:=Nat.lt_of_lt_of_le hg24 hb.size;clear hb hc B44 HB4 HL4 HC4 C5 hg24
 obtain⟨W6,hW6⟩:∃W6,W6=w5.alloc (.cells #[.int .i64 k,.int .i64 (n:Int),.slice (some ⟨g2,0,none⟩) 256 256,.slice none 0 0] 27):=⟨_,rfl⟩;have b6:Below w5.heap.size w5 W6:=by rw[hW6];exact below_alloc w5 _
 have X6:=ac (show aa W6 w5.heap.size [.int .i64 k,.int .i64 (n:Int),.slice (some ⟨g2,0,none⟩) 256 256,.slice none 0 0] 27 by rw[hW6];exact aa.new w5 _ _)
 have z6:W6.heap.size=w5.heap.size+1:=by rw[hW6];simp
 have B46:=ac (B45.out.kept b6);have HB6:=ac (bg HB5.out b6);have HL6:=ac (HL5.out.keep b6);have HC6:=ac (HC5.out.kept b6);have HN6:=ac (HN5.out.keep b6);have z45:=B45.out.lt
 clear b6 B45 HB5 HL5 HC5;go_wp2_with fail;rw[<-hW6];refine(C6.out _ _ HC6.out).mono ?_;rintro e w7 ⟨bo,bc,rfl,hc,hb,hfr⟩;obtain⟨gx,hgx⟩:∃gx,Hid (gx=w5.heap.size):=⟨_,rfl⟩;rw[z6]at hfr
 rw[<-hgx.out]at X6 hfr hg25⊢;have B47:=ac (B46.out.kept hb);have X7:=ac (X6.out.kept hb);have HB7:=ac (bg HB6.out hb);have HL7:=ac (HL6.out.keep hb);have HN7:=ac (HN6.out.keep hb)
 have HS7:=ac hc;have HFR:=ac hfr
 have HMg:Hid (gm≠gx/\∀L x,L<=64->x<18446744073709551616->∀j,((M L x).getD fZ).ownBlock=some j->j≠gx):=⟨by have:=HN5.out.map.lt;have:=hgx.out;omega,fun L x hL hx j hj=>by have:=((HN5.out.own L x hL hx).lt j hj).2;have:=hgx.out;omega⟩
 have hwx:Hid (w.heap.size<gx):=by show w.heap.size<gx;have:=hgx.out;omega
 have zw7:w.heap.size<=w7.heap.size:=HB7.out.size;have zx7:gx<w7.heap.size:=X7.out.lt;clear hc hb hfr B46 X6 HB6 HL6 HC6 HN6 HN5 hW6 z6 z45 hgx C6;obtain⟨A,hA⟩:∃A,Hid (A=aT k t):=⟨_,rfl⟩;go_wp2
 go_loopw [48] (fun s wr=>∃(q:Nat) (css:List (List Value)) (v:Value),q<=(nT t).length/\s=.int .i64 q/\Hid (css.length=q)/\Hid (∀gg,v.ownBlock=some gg->w7.heap.size<=gg)/\Hid (dw gx wr v (fun j=>A.getD j cy) css)/\Hid (aa wr gx [.int .i64 k,.int .i64 (n:Int),.slice (some ⟨g2,0,none⟩) 256 256,v] 27)/\Hid (aa wr w.heap.size [.int .i64 0,.int .i64 0,.slice none 0 0,.slice none 0 0] 27)/\Hid (Ex gx w7 wr)/\Hid (Below w.heap.size w wr)) (fun s _=>(nT t).length-(intOf s).toNat)
 case atStart=>exact⟨0,[],.slice none 0 0,Nat.zero_le _,rfl,rfl,(fun gg h=>by cases h),dw.nil _ _ _,X7,B47,Ex.refl _ _,HB7⟩
 case round=>
  obtain⟨q,css,v,hq,rfl,hl,hv0,hR,h6,h4,hEx,hb⟩:=hrel;clear X7 B47 HB7;by_cases hi:q<(nT t).length
  .have hi2:(q:Int)<((nT t).length:Int):=by omega
   have hq10:q<=10240:=by have:=HFew.out;omega
   have hqw:IntKind.i64.wrap ((q:Int)+1)=((q+1:Nat):Int):=by rw[IntKind.wrap_i64];omega
   obtain⟨⟨L,x⟩,hnode⟩:∃p,(nT t)[q]?=some p:=⟨_,List.getElem?_eq_getElem hi⟩;obtain⟨hL64,hx64⟩:=tB (k:=k) HN3.out hnode
   have HAq:Hid (A.getD q cy=kB k ((rwT t (L,x)).length:Int) (frL (rwT t (L,x)))):=by rw[hA.out];exact j5 hnode
   obtain⟨bb,rfl,hbl,hcc⟩:=HS7.out (by omega);obtain⟨e1,e2⟩:=hcc q _ hnode;dsimp only at e1 e2;have hbb:bb≠gx:=by have:=HFR.out _ rfl;simp at this;omega
   have c1:=(hEx.out.cell (p:=⟨bb,q*2,none⟩) hbl hbb).trans e1;have c2:=(hEx.out.cell (p:=⟨bb,q*2+1,none⟩) hbl hbb).trans e2;have hbr:bb<wr.heap.size:=Nat.lt_of_lt_of_le hbl hEx.out.size
   have HM:=ac (HN7.out.map.of (hEx.out.block gm HN7.out.map.lt HMg.out.1))
   have HO:=ac (Ag.owns_of (HN7.out.own L x hL64 hx64) fun j hj=>hEx.out.block j ((HN7.out.own L x hL64 hx64).lt j hj).2 (HMg.out.2 L x hL64 hx64 j hj));obtain⟨ra,rc,hsl,_,_⟩:=Ap.owns_shape HO.out
   have HLK:Hid (∀w0,CM w0 gm m M->(Instr.lookup 78 (.map (some gm)) (.agg #[.int .i64 (L:Nat),.int .u64 (x:Nat)]) false).run prog w0=.ok (.slice ra (rwT t (L,x)).length rc) w0):=fun w0 h0=>by
    have:=h0.look underlying78 (rW w0) (L:=L) (x:=x) hL64 hx64;rw[hsl]at this;exact this
   rw[hsl]at HO;have HBl:=ac (Jh HO.out rfl);have C7q:=ac (fun w0=>C7.out w0 L x ra rc);have C8q:=ac (fun w0=>C8.out w0 L x)
   obtain⟨W2,hW2⟩:∃W2,W2=wr.alloc (.cells #[.int .i64 (L:Nat),.int .u64 (x:Nat)] 83):=⟨_,rfl⟩;have b2:Below wr.heap.size wr W2:=by rw[hW2];exact below_alloc wr _
   have HM2:=ac (HM.out.kept b2);have HBl2:=ac (HBl.out.keep b2);have hR2:=ac (hR.out.keep b2);have h62:=ac (h6.out.kept b2);have h42:=ac (h4.out.kept b2);have hEx2:=ac (hEx.out.below b2)
   have hb2:=ac (bg hb.out b2)
   have HLK2:Hid ((Instr.lookup 78 (.map (some gm)) (.agg #[.int .i64 (L:Nat),.int .u64 (x:Nat)]) false).run prog (wr.alloc (.cells #[.int .i64 (L:Nat),.int .u64 (x:Nat)] 83))=.ok (.slice ra (rwT t (L,x)).length rc) (wr.alloc (.cells #[.int .i64 (L:Nat),.int .u64 (x:Nat)] 83))):=HLK.out _ (by rw[<-hW2];exact HM2.out)
   obtain⟨rl,hrl⟩:∃rl,Hid (rl=(rwT t (L,x)).length):=⟨_,rfl⟩;obtain⟨xs,hxs⟩:∃xs,Hid (xs=frL (rwT t (L,x))):=⟨_,rfl⟩;rw[<-hrl.out]at HLK2 C7q C8q HAq;rw[<-hxs.out]at C7q C8q HAq
   clear b2 HM HBl hR h6 h4 hEx hb HO HLK hsl e1 e2 hcc hi HM2;go_wp2_with (refine lH rfl _ _ rfl _ _ _ rfl rfl HLK2.out ?_);rw[<-hW2];refine(C7q.out _ HBl2.out).mono ?_;rintro e w3 ⟨so,dap,rfl,x1,x2,hb⟩
   have hR3:=ac (hR2.out.keep hb);have h63:=ac (h62.out.kept hb);have h43:=ac (h42.out.kept hb);have hEx3:=ac (hEx2.out.below hb);have hb3:=ac (bg hb2.out hb);have HX3:=ac x1
   clear hb x1 hR2 h62 h42 hEx2 hb2 HBl2 hW2 HLK2 C7q c1 c2;obtain⟨W4,hW4⟩:∃W4,W4=w3.alloc (.cells #[.int .i64 (rl:Nat),.slice so xs.length dap] 33):=⟨_,rfl⟩
   have hb:Below w3.heap.size w3 W4:=by rw[hW4];exact below_alloc w3 _
   have B4:=ac (show aa W4 w3.heap.size [.int .i64 (rl:Nat),.slice so xs.length dap] 33 by rw[hW4];exact aa.new w3 _ _);have hR4:=ac (hR3.out.keep hb);have h64:=ac (h63.out.kept hb)
   have h44:=ac (h43.out.kept hb);have hEx4:=ac (hEx3.out.below hb);have hb4:=ac (bg hb3.out hb);have HX4:=ac (HX3.out.keep hb);clear hb hR3 h63 h43 hEx3 hb3 HX3;go_wp2_with fail;rw[<-hW4]
   refine(C8q.out _ so dap hb4.out HX4.out x2).mono ?_;rintro e w5 ⟨cs,rfl,hki,hb,nf⟩
   have lL:Hid ((∀gg,v.ownBlock=some gg->NE gg cs)/\∀g0,g0<=gx->NE g0 cs):=by
    refine⟨fun gg hg=>?_,fun g0 hg0=>nf.ne (by have:=h64.out.lt;omega)⟩;refine nf.ne ?_;rcases hR4.out.lo with⟨rfl,_⟩ | ⟨g',cp,rfl,_,ce⟩
    .cases hg
    .injection hg with e
     have:=ce.lt;rw[<-e];exact this
   have hR5:=ac (hR4.out.keep hb);have h65:=ac (h64.out.kept hb);have h45:=ac (h44.out.kept hb);have hEx5:=ac (hEx4.out.below hb);have hb5:=ac (bg hb4.out hb)
   have HL:=ac hki.arg.len;have H1:=ac hki.arg.one;have H22:=ac (uZ.trans hki.arg.nine);have l4:w.heap.size<w5.heap.size:=h45.out.lt;have l6:gx<w5.heap.size:=h65.out.lt;have HK5:=ac hki
   clear hb nf hki hR4 h64 h44 hEx4 hb4 HX4 C8q hW4 B4;go_wp2_with (refine lj mB ?_);intro w6 c13 b6 s6;try simp only[Act.put,ae,List.set]
   have HB6:=ac b6;clear b6;go_wp2_with (refine aP w5.heap.size zv cs rfl rfl c13 H22.out HL.out H1.out ?_);intro w7' c13' o7;try simp only[Act.put,ae,List.set]
   have hb:Below w5.heap.size w5 w7':=HB6.out.trans (o7.below (Nat.le_refl _));have hR7:=ac (hR5.out.keep hb);have h67:=ac (h65.out.kept hb);have h47:=ac (h45.out.kept hb);have hEx7:=ac (hEx5.out.below hb)
   have hb7:=ac (bg hb5.out hb);have HK7:=ac (HK5.out.keep hb);have l7:w5.heap.size<=w7'.heap.size:=hb.size;clear hb o7 HB6 s6 c13 hR5 h65 h45 hEx5 hb5 HK5;generalize w5.heap.size=g13 at *
   have x2':=h67.out.cell 3 rfl;have fz:=h67.out.frozen 3;have ncs:cs.length=22:=HK7.out.arg.nine.symm
   have H11:Hid (∀u∈cs,u.oneCell'=true):=fun u hu=>by
    have:=H1.out;rw[List.all_toArray,List.all_eq_true]at this;exact this u hu
   have hb:=below_alloc w7' (.cells cs.toArray 44);have cA:=aa.new w7' cs 44;have hRA:=ac (hR7.out.keep hb);have h6A:=ac (h67.out.kept hb);have h4A:=ac (h47.out.kept hb);have hExA:=ac (hEx7.out.below hb)
   have hbA:=ac (bg hb7.out hb);have HKA:=ac (HK7.out.keep hb);have HNc:=ac ncs;have lA:gx<(w7'.alloc (.cells cs.toArray 44)).heap.size:=h6A.out.lt
   have l67:gx<w7'.heap.size:=h67.out.lt;clear hb ncs hR7 h67 h47 hEx7 hb7 HK7
   go_wp2_with (first | refine iH g13 cs rfl c13' underlying44 HL.out ?_ | refine I9 cs HNc.out rfl ?_ | (at_builtin;refine xZ rfl _ _ rfl v css rfl hRA.out.lo hRA.out.l22 cs HNc.out ⟨w7'.heap.size,0,none⟩ 1 rfl ?n1 H11.out (by have:=hl.out;have:=HFew.out;omega) ?_))
   case n1=>
    intro j u hj;have:=cA.cell j hj;rw[<-this];unfold Addr.add;split
    .subst_vars;rfl
    .simp
   intro v' w8 hLO hTn hv
   have hv2:∀gg,v'.ownBlock=some gg->v.ownBlock=some gg\/gg=(w7'.alloc (.cells cs.toArray 44)).heap.size:=fun gg hg=>by
    rw[show(w7'.alloc (.cells cs.toArray 44)).heap.size=w7'.heap.size+1 by simp];exact hv gg hg
   clear hv
   obtain⟨g',cp',ev⟩:∃g' cp',v'=.slice (some ⟨g',0,none⟩) (q+1) cp':=by
    rcases hLO with⟨_,e⟩ | ⟨g',cp',e1,_,_⟩
    .simp at e
    .refine⟨g',cp',?_⟩;rw[e1,List.length_append,hl.out];rfl
   subst ev;have hb8:Below w.heap.size w w8:=hbA.out.trans (hTn.below (fun gg hg=>by have:=hv0.out gg hg;omega) hbA.out.size)
   have hR8:=hRA.out.push (by show KI _ cs (A.getD css.length cy);rw[hl.out,HAq.out];exact HKA.out) lL.out hLO hTn hv2 (HG.out.keep hb8);have h68:=hTn.cel h6A.out (by decide);have h48:=hTn.cel h4A.out (by decide)
   have hEx8:=hExA.out.tn hTn hv0.out
   have HV8:Hid (∀gg,(Value.slice (some ⟨g',0,none⟩) (q+1) cp').ownBlock=some gg->w7.heap.size<=gg):=fun gg hg=>by
    rcases hv2 gg hg with e | rfl
    .exact hv0.out gg e
    .exact hExA.out.size
   have nv:bT [.int .i64 k,.int .i64 (n:Int),.slice (some ⟨g2,0,none⟩) 256 256,v]:=fun u hu nn ee=>by
    subst ee;rcases hRA.out.lo with⟨rfl,_⟩ | ⟨g',cp,rfl,_,_⟩<;>simp at hu
   have z3:=h68.cell 3 rfl;have fz3:=h68.frozen 3;have lx8:=h68.lt;have o9:aw gx w8 (w8.setCell ⟨gx,3,none⟩ (.slice (some ⟨g',0,none⟩) (q+1) cp')):=(aw.refl _ _).set 3 _
   have hb9:=hb8.trans (o9.below (base:=w.heap.size) (Nat.le_of_lt hwx.out));have F1:=ac (hR8.only (Nat.le_refl _) h68 (by decide) nv o9 (HG.out.keep hb9))
   have F2:=ac (h68.set 3 (.slice (some ⟨g',0,none⟩) (q+1) cp'));have F3:=ac (o9.cel h48 (by have:=hwx.out;omega));have F4:=ac (hEx8.only o9);have F5:=ac hb9
   have l8:Hid ((css++[cs]).length=q+1):=by show _=_;rw[List.length_append,hl.out];rfl
   clear hR8 h68 h48 hb8 nv o9 hLO hTn hv2 hRA h6A h4A hExA hbA HKA x2' fz hEx8 hb9 cA;go_wp2
   exact⟨⟨q+1,css++[cs],.slice (some ⟨g',0,none⟩) (q+1) cp',by omega,by first | rfl | go_num,l8,HV8,F1,F2,F3,F4,F5⟩,by simp only[intOf];omega⟩
  .obtain rfl:q=(nT t).length:=by omega
   have hlA:Hid (css.length=A.length):=by show _=_;rw[hl.out,hA.out,aT_len]
   obtain⟨lo,lc,rfl,hlv⟩:=hR.out.lv hlA.out;have x0:=h6.out.cell 0 rfl;have x1:=h6.out.cell 1 rfl;have x2:=h6.out.cell 2 rfl;have x3:=h6.out.cell 3 rfl;have l6:=h6.out.lt;have l4:=h4.out.lt
   obtain⟨al,hal⟩:∃al,Hid (al=A.length):=⟨_,rfl⟩;rw[<-hal.out]at h6 x3 hR;clear hlv
   go_wp2_with (refine aP w.heap.size [.int .i64 0,.int .i64 0,.slice none 0 0,.slice none 0 0] [.int .i64 k,.int .i64 (n:Int),.slice (some ⟨g2,0,none⟩) 256 256,.slice lo al lc] rfl rfl h4.out rfl vF (by simp[Value.oneCell']) ?_)
   intro w8 c8 o8;try simp only[Act.put,ae,List.set]
   have hb8:=hb.out.trans (o8.below (base:=w.heap.size) (Nat.le_refl _));have G8:=HG.out.keep hb8
   have HS:Hid (SX w8 [.int .i64 k,.int .i64 (n:Int),.slice (some ⟨g2,0,none⟩) 256 256,.slice lo al lc] k t):=by
    obtain⟨lo2,lc2,e2,hl2⟩:=(hR.out.only (Nat.le_of_lt hwx.out) h4.out (by decide) (fun u hu nn ee=>by subst ee;simp at hu) o8 G8).lv hlA.out;injection e2 with e2 e3 e4
    subst e2;refine⟨⟨_,_,lo,lc,by rw[hal.out,hA.out,<-hnn.out],?_,by rw[<-hA.out];exact hl2⟩,hk,HN3.out,HBy.out,G8⟩;refine o8.nd2 (hEx.out.nd HL7.out (by omega)) fun _ a ha=>?_;cases ha;show g2≠w.heap.size
    omega
   have HC:=ac c8;have HB8:=ac hb8;clear c8 o8 hb8 G8 x0 x1 x2 x3 hR h6 h4 hEx hb;go_wp2
   (try simp only[Exit.inBlock,Exit.then]);exact bodyPost_ret (bJ rfl w.heap.size _ rfl HC.out underlying27 vF) rfl ⟨_,rfl,HS.out,HB8.out⟩
theorem xY{ops:Array Oper}{rest:List Oper}{o:Oper}{a:Act}{w:World}{Q:Exit->Act->World->Prop}{t e:TypeId}(hg:o.guard=none)(m x u:Operand)(hop:o.op=Op.insert t m x u)
  (b n:Nat) (M:Nat->Nat->Option Value) (L X:Nat) (v:Value) (ht:prog.underlying t=some (.map 83 e)) (hm:a.eval m=.map (some b)) (hx:a.eval x=cv L X) (hu:a.eval u=v) (h:CM w b n M) (hn:n<maxLen) (hL:L<=64) (hX:X<18446744073709551616)
  (hK:∀w',CM w' b (n+1) (cup M L X v)->aw b w w'->wpList prog ops Q rest (a.put o.dst undef) w'):wpList prog ops Q (o::rest) a w:=by
 refine wpList_plain hg fun K' hK'=>?_;obtain⟨w',hrun,r1,r2⟩:=h.store ht hn hL hX v;unfold Oper.wp;simp[execOp,hop,hm,hx,hu,hrun,Result.andThen];exact hK' _ _ (hK w' r1 r2)
theorem sR{ops:Array Oper}{d:Option Tmp}{ty t e:TypeId}{ps:String}{af:Array Edge}{a:Act}{w:World}{K:Act->World->Prop}{Q:Exit->Act->World->Prop}{E:Prop}{m x u:Operand}
  (b n:Nat) (M:Nat->Nat->Option Value) (L X:Nat) (v:Value) (ht:prog.underlying t=some (.map 83 e)) (hm:a.eval m=.map (some b)) (hx:a.eval x=cv L X) (hu:a.eval u=v) (h:CM w b n M) (hn:n<maxLen) (hL:L<=64) (hX:X<18446744073709551616)
  (hK:∀w',CM w' b (n+1) (cup M L X v)->aw b w w'->K (a.put d undef) w'):
  if Region.wanted (⟨d,.mapUpdate t m x u,ty,ps,af,none⟩:Oper) (yielded ops a.tmps)=true then Oper.wp prog (⟨d,.mapUpdate t m x u,ty,ps,af,none⟩:Oper) a w K Q else E:=by
 rw[if_pos (by simp[Region.wanted])];obtain⟨w',hrun,r1,r2⟩:=h.store ht hn hL hX v;unfold Oper.wp;simp only[execOp,hm,hx,hu,hrun,Sem.run_bind,Result.andThen_ok,Sem.run_pure];exact hK w' r1 r2
theorem rV(w:World):(zeroValue 24).run prog w=.ok (.slice none 0 0) w:=by kernel_rfl
theorem ux{w:World}{base n:Nat}{v:Value}{l:List Nat}(h:w.ownsRow base 3 1 v n (aX l))(hn:n=l.length):∃ao cap,v=.slice ao l.length cap/\Nd w ao (aV l)/\Fr base ao:=by
 obtain⟨_,⟨e,h0⟩ | ⟨g,cap,cur,e,hg,hh,_,_,hs,ht⟩⟩:=h
 .subst hn
  have h0':l.length=0:=by
   cases l with
   | nil=>rfl
   | cons a b=>simp[aX]at h0
  exact⟨none,0,by rw[e,h0'],fun q=>absurd q (by rw[kF,h0'];decide),bE _⟩
 .subst hn;refine⟨_,cap,e,fun _=>⟨g,0,rfl,(Array.getElem?_eq_some_iff.1 hh).1,fun i hi=>?_⟩,fun a ha=>?_⟩
  .rw[kF]at hi
   have e5:cur.toList[i]?=some (.int .i64 (gi (aV l) i)):=by
    have:(aX l)[i]?=some (.int .i64 (gi (aV l) i)):=by
     rw[qK l i hi];unfold aX gt;rw[List.getElem?_map,List.getD_eq_getElem?_getD,List.getElem?_eq_getElem hi];rfl
    rw[<-ht,List.getElem?_take_of_lt (by omega)]at this;exact this
   rw[Nat.zero_add];unfold World.cell?;rw[show w.heap[({ block:=g,off:=i,spot:=none }:Addr).block]?=_ from hh];simpa using e5
  .cases ha;exact hg
structure PL (t:List Nat) (q gp c:Nat) (M:Nat->Nat->Option Value) (w:World):Prop where
 map:CM w gp c M
 val:∀L x,L<=64->x<18446744073709551616->ms t q L x->∃ao cap,M L x=some (.slice ao (bH t L x).length cap)/\Nd w ao (aV (bH t L x))/\Fr (gp+1) ao
theorem PL.keep{t:List Nat}{q gp c:Nat}{M:Nat->Nat->Option Value}{w w':World}(h:PL t q gp c M w)(hb:Below w.heap.size w w'):PL t q gp c M w':=
 ⟨h.map.kept hb,fun L x hL hx hk=>by
  obtain⟨ao,cap,e,h1,h2⟩:=h.val L x hL hx hk
  exact⟨ao,cap,e,h1.keep hb,h2⟩⟩
theorem PL.step{t:List Nat}{q gp c c2:Nat}{M:Nat->Nat->Option Value}{w w2:World}(h:PL t q gp c M w)(hn:t.length<=3000){L x:Nat}(hnode:(nT t)[q]?=some (L,x)){oo on:Option Addr}{co cn:Nat}
  (h1:Nd w oo (aV (bH t (L+1) (2*x)))) (f1:Fr (gp+1) oo) (h2:Nd w on (aV (bH t (L+1) (2*x+1)))) (f2:Fr (gp+1) on) (hO:aw gp w w2)
  (hm:CM w2 gp c2 (cup (cup M (L+1) (2*x) (.slice oo (bH t (L+1) (2*x)).length co)) (L+1) (2*x+1) (.slice on (bH t (L+1) (2*x+1)).length cn))):
  PL t (q+1) gp c2 (cup (cup M (L+1) (2*x) (.slice oo (bH t (L+1) (2*x)).length co)) (L+1) (2*x+1) (.slice on (bH t (L+1) (2*x+1)).length cn)) w2:=by
 refine⟨hm,fun L' x' hL hx hk=>?_⟩;by_cases e1:L'=L+1/\x'=2*x+1
 .obtain⟨rfl,rfl⟩:=e1;exact⟨on,cn,fk _ _ _ _,hO.nd h2 f2 (Nat.lt_succ_self _),f2⟩
 .rw[cup_other _ _ e1];by_cases e2:L'=L+1/\x'=2*x
  .obtain⟨rfl,rfl⟩:=e2;exact⟨oo,co,fk _ _ _ _,hO.nd h1 f1 (Nat.lt_succ_self _),f1⟩
  .rw[cup_other _ _ e2];rcases knw_succ hn hnode hk with hk | ⟨a,b | b⟩
   .obtain⟨ao,cap,e,g1,g2⟩:=h.val L' x' hL hx hk;exact⟨ao,cap,e,hO.nd g1 g2 (Nat.lt_succ_self _),g2⟩
   .exact absurd ⟨a,b⟩ e2
   .exact absurd ⟨a,b⟩ e1
theorem OT.node{w:World}{k:Int}{t:List Nat}{n:Int}{cv bv:Value}{gn:Nat}(h:OT w k t n cv bv gn)(hn:t.length<=3000){q L x:Nat}(hq:(nT t)[q]?=some (L,x)):∃b o rs o1 o2,
  (Instr.lookup 92 (.map (some gn)) (.agg #[.int .i64 (L:Nat),.int .u64 (x:Nat)]) false).run prog w=.ok (.agg #[.pointer (some ⟨b,o,none⟩),.int .i64 o1,.int .i64 o2]) w/\
  b<w.heap.size/\w.rangeAt b o rs/\KI w rs (kB k ((rwT t (L,x)).length:Int) (frL (rwT t (L,x)))):=by
 have hm:=List.mem_of_getElem? hq;have hj:=Sh.ixo_lt hm;obtain⟨s1,s2⟩:=tB (k:=k) hn hq;obtain⟨gc,bo,bc,c',b,off,e1,e2,a1,a2,a3,a4⟩:=h;obtain⟨hb,hr⟩:=a4 (by omega);obtain⟨rs,r1,r2⟩:=hr _ hj
 rw[j5 (Sh.get_ixo hm)]at r2;refine⟨b,_,rs,bF (aT k t) (Sh.ixo (L,x) (nT t))-bM (aT k t) (Sh.ixo (L,x) (nT t)),bM (aT k t) (Sh.ixo (L,x) (nT t)),?_,hb,r1,r2⟩
 have:=a3.look underlying92 (lG w) (L:=L) (x:=x) s1 s2;unfold bz at this;rw[if_pos hj]at this;exact this
theorem OT.cs{w:World}{k:Int}{t:List Nat}{n:Int}{cv:Value}{bo:Option Addr}{m bc gn:Nat}(h:OT w k t n cv (.slice bo m bc) gn):Cs w bo (nT t):=by
 obtain⟨gc,bo',bc',c',b,off,e1,e2,a1,a2,a3,a4⟩:=h;injection e2 with e2 e3 e4
 subst e2;exact a2
theorem PL.root{t:List Nat}(hn:t.length<=3000){gp ga c:Nat}{w:World}(hc:aa w ga (aX (List.range t.length)) 3)(hg:gp<ga){M:Nat->Nat->Option Value}(hm:CM w gp c M)(e:M 0 0=some (.slice (some ⟨ga,0,none⟩) t.length t.length)):PL t 0 gp c M w:=by
 refine⟨hm,fun L x _ _ hk=>?_⟩;rcases hk with⟨rfl,rfl⟩ | ⟨_,h⟩
 .rw[BW hn,List.length_range];exact⟨_,_,e,ma hc,fun a ha=>by cases ha;exact hg⟩
 .omega
def dy(t:List Nat)(c q:Nat):List Nat:=(List.range t.length).map fun j=>if gt t j<c\/(gt t j=c/\Sh.cp (fun d=>decide (d=c)) t j<q)then gt t j else 0
def dD(l:List Nat):List Value:=l.map fun n:Nat=>Value.int .u8 (n:Int)
theorem jl(t:List Nat)(c q:Nat):(dy t c q).length=t.length:=by simp[dy]
theorem kU(t:List Nat)(c q j:Nat)(h:j<t.length):(dy t c q)[j]?=some (if gt t j<c\/(gt t j=c/\Sh.cp (fun d=>decide (d=c)) t j<q)then gt t j else 0):=by
 unfold dy;rw[List.getElem?_map,List.getElem?_range h];rfl
theorem mV{t a b:List Nat}(ha:a.length=t.length)(hb:b.length=t.length)(h:∀j,j<t.length->a[j]?=b[j]?):a=b:=by
 refine List.ext_getElem? fun j=>?_;by_cases hj:j<t.length
 .exact h j hj
 .rw[List.getElem?_eq_none (by omega),List.getElem?_eq_none (by omega)]
theorem yo(t:List Nat):dy t 0 0=List.replicate t.length 0:=mV (t:=t) (jl _ _ _) (by simp) fun j hj=>by
 rw[kU t 0 0 j hj,if_neg (by omega),List.getElem?_replicate,if_pos hj]
theorem sB(t:List Nat)(c:Nat):dy t c (Sh.mem (fun d=>decide (d=c)) t t.length).length=dy t (c+1) 0:=mV (jl _ _ _) (jl _ _ _) fun j hj=>by
 rw[kU _ _ _ j hj,kU _ _ _ j hj,Sh.length_mem];congr 1;by_cases h1:gt t j<c
 .rw[if_pos (.inl h1),if_pos (.inl (by omega))]
 .by_cases h2:gt t j=c
  .have h3:Sh.cp (fun d=>decide (d=c)) t j<Sh.cp (fun d=>decide (d=c)) t t.length:=by
    have:=Sh.cp_mono (fun d=>decide (d=c)) t (j+1) (t.length-(j+1));rw[show j+1+(t.length-(j+1))=t.length by omega,Sh.cp,decide_eq_true h2]at this;simp at this;omega
   rw[if_pos (.inr ⟨h2,h3⟩),if_pos (.inl (by omega))]
  .rw[if_neg (by omega),if_neg (by omega)]
theorem yp(t:List Nat)(c q p:Nat)(h:(Sh.mem (fun d=>decide (d=c)) t t.length)[q]?=some p):p<t.length/\(dy t c q).set p c=dy t c (q+1):=by
 have hm:p∈Sh.mem (fun d=>decide (d=c)) t t.length:=List.mem_of_getElem? h;unfold Sh.mem at hm;obtain⟨h1,h2⟩:=List.mem_filter.1 hm;have hp:p<t.length:=List.mem_range.1 h1
 have hc:gt t p=c:=of_decide_eq_true h2
 have hq:Sh.cp (fun d=>decide (d=c)) t p=q:=by
  have e:=Sh.mem_at (fun d=>decide (d=c)) t p t.length hp h2;have l1:=(List.getElem?_eq_some_iff.1 e).1;have l2:=(List.getElem?_eq_some_iff.1 h).1
  have nd:(Sh.mem (fun d=>decide (d=c)) t t.length).Nodup:=List.Pairwise.filter _ List.nodup_range;exact(List.getElem?_inj l1 nd).1 (e.trans h.symm)
 refine⟨hp,mV (by rw[List.length_set,jl]) (jl _ _ _) fun j hj=>?_⟩;rw[List.getElem?_set,jl,kU _ _ _ j hj,kU _ _ _ j hj];by_cases e:p=j
 .subst e;rw[if_pos rfl,if_pos hp,if_pos (.inr ⟨hc,by omega⟩),hc]
 .rw[if_neg e];congr 1;by_cases h3:gt t j<c
  .rw[if_pos (.inl h3),if_pos (.inl h3)]
  .by_cases h4:gt t j=c
   .by_cases h5:Sh.cp (fun d=>decide (d=c)) t j<q
    .rw[if_pos (.inr ⟨h4,h5⟩),if_pos (.inr ⟨h4,by omega⟩)]
    .have h6:Sh.cp (fun d=>decide (d=c)) t j≠q:=fun h6=>by
      have e2:=Sh.mem_at (fun d=>decide (d=c)) t j t.length hj (decide_eq_true h4);rw[h6,h]at e2;simp at e2;exact e e2
     rw[if_neg (by omega),if_neg (by omega)]
   .rw[if_neg (by omega),if_neg (by omega)]
theorem yq{t:List Nat}(hn:t.length<=3000){c:Nat}(hc:c<256)(h:vT t c=0):dy t c 0=dy t (c+1) 0:=by
 have h0:(Sh.mem (fun d=>decide (d=c)) t t.length).length=0:=by rw[Sh.length_mem];exact mG hn hc h
 have:=sB t c;rw[h0]at this;exact this
theorem yr{t:List Nat}(hB:cM t):dy t 256 0=t:=mV (jl _ _ _) rfl fun j hj=>by
 rw[kU _ _ _ j hj,if_pos (.inl (hB j))];unfold gt;rw[List.getD_eq_getElem?_getD,List.getElem?_eq_getElem hj];rfl
theorem I3(l:List Nat)(i v:Nat):(dD l).set i (.int .u8 (v:Nat))=dD (l.set i v):=by simp[dD,List.map_set]
theorem JI{w:World}{g:Nat}{t:List Nat}(h:aa w g (dD t) 5):Bd w (some ⟨g,0,none⟩) t:=fun _=>⟨g,0,rfl,h.lt,fun i hi=>by
 rw[Nat.zero_add];refine h.cell i ?_;unfold dD gt;rw[List.getElem?_map,List.getD_eq_getElem?_getD,List.getElem?_eq_getElem hi]
 rfl⟩
theorem I4(l:List Nat)(i:Nat)(h:i<l.length):(dD l)[i]?=some (.int .u8 (l.getD i 0:Nat)):=by
 unfold dD;rw[List.getElem?_map,List.getD_eq_getElem?_getD,List.getElem?_eq_getElem h];rfl
theorem II{w:World}{base g n:Nat}(h:w.ownsRow base 5 1 (.slice (some ⟨g,0,none⟩) n n) n (madeCells #[.int .u8 0] n).toList):aa w g (dD (List.replicate n 0)) 5:=by
 obtain⟨_,h | ⟨g',cap,cur,e,_,hh,_,_,hs,ht⟩⟩:=h
 .simp at h
 .simp only[Value.slice.injEq,Option.some.injEq,Addr.mk.injEq]at e;obtain⟨⟨rfl,_,_⟩,_,rfl⟩:=e;unfold aa;rw[hh]
  have e2:(madeCells #[.int .u8 0] n).toList=dD (List.replicate n 0):=by
   rw[toList_madeCells_one (.int .u8 0) n,dD,List.map_replicate];rfl
  rw[e2]at ht;have e3:cur.toList.take (n*1)=cur.toList:=List.take_of_length_le (by simp;omega);rw[e3]at ht;rw[<-ht]
theorem Fq:(prog.info? 5).map (fun i=>(i.zero,i.size,i.bytes))=some (some (.int .u8 0),1,1):=by kernel_rfl
theorem Do{w:World}{ao:Option Addr}{l:List Int}{g:Nat}{b:List Nat}(h:Nd w ao l)(hc:aa w g (dD b) 5)(h0:0<l.length):∀a,ao=some a->a.block≠g:=fun a ha e=>by
 obtain⟨k,off,e1,_,hcc⟩:=h h0;rw[e1]at ha;cases ha;have h1:=hcc 0 h0;dsimp only at e;subst e;rw[Nat.add_zero]at h1;unfold World.cell? at h1
 rw[show w.heap[({ block:=k,off:=off,spot:=none }:Addr).block]?=_ from hc]at h1;simp only[List.getElem?_toArray]at h1;unfold dD at h1;rw[List.getElem?_map]at h1;cases h2:b[off]? with
 | none=>rw[h2]at h1;simp at h1
 | some y=>rw[h2]at h1;simp at h1
theorem uz{w w':World}{ao:Option Addr}{l:List Int}{g:Nat}{b:List Nat}(h:Nd w ao l)(hc:aa w g (dD b) 5)(hO:aw g w w'):Nd w' ao l:=hO.nd2 h fun h0=>Do h hc h0
theorem PL.byt{t:List Nat}{q gp c g:Nat}{M:Nat->Nat->Option Value}{w w':World}{b:List Nat}(h:PL t q gp c M w)(hc:aa w g (dD b) 5)(hg:gp≠g)(hO:aw g w w'):PL t q gp c M w':=
 ⟨h.map.only hO hg,fun L x hL hx hk=>by
  obtain⟨ao,cap,e,h1,h2⟩:=h.val L x hL hx hk
  exact⟨ao,cap,e,uz h1 hc hO,h2⟩⟩
theorem yM(cs:List Value)(k:Int)(t:List Nat)(w:World)(h:SX w cs k t):
  Calls prog 26 #[.agg cs.toArray] w fun e w'=>∃ao cap,e=.returned (.slice ao t.length cap)/\Bd w' ao t/\Below w.heap.size w w':=by
 have hmm:=@run_makeMap prog;have HSX:=ac h;have hkn:=h.kn;have hle:=h.le;have HBy:=ac h.by_;obtain⟨⟨lo,lc,no,nc,rfl,_,_⟩,_,_,_,_⟩:=h;have hL:=ac (dp t (by omega))
 obtain⟨W,hW⟩:∃W,W=w.alloc (.cells #[.int .i64 k,.int .i64 (t.length:Int),.slice lo 256 lc,.slice no (aT k t).length nc] 27):=⟨_,rfl⟩;have bW:=aM hW
 have B1:=ac (show aa W w.heap.size [.int .i64 k,.int .i64 (t.length:Int),.slice lo 256 lc,.slice no (aT k t).length nc] 27 by rw[hW];exact aa.new w _ _);have HB:=ac bW
 have C0:=ac (mZ _ k t W (HSX.out.keep bW));clear bW HSX;go_enter func26,ntmps26;go_wp2_with fail;rw[<-hW];refine C0.out.mono ?_;rintro e w1 ⟨cv,bv,gn,rfl,hot,hb⟩;have B11:=ac (B1.out.kept hb)
 have HB1:=ac (bg HB.out hb);have HO1:=ac hot;have hone:=hot.one;have z1:=B11.out.lt;clear hW hb C0 B1 HB hot;have c1:=B11.out.cell 1 rfl
 obtain⟨gc,bo,bc,c',b,off,rfl,rfl,a1,_⟩:=HO1.out.ex;clear hone;have HGc:=ac a1;have HCS:=ac HO1.out.cs
 obtain⟨W2,hW2⟩:∃W2,W2=(w1.alloc (.cells #[.int .i64 (t.length:Int),.slice (some ⟨gc,0,none⟩) 256 256,.slice bo (nT t).length bc,.map (some gn)] 94)).alloc (.map #[] 0):=⟨_,rfl⟩
 have b2:Below w1.heap.size w1 W2:=by rw[hW2];exact(below_alloc w1 _).alloc (by simp) _
 have K1:=ac (show aa W2 w1.heap.size [.int .i64 (t.length:Int),.slice (some ⟨gc,0,none⟩) 256 256,.slice bo (nT t).length bc,.map (some gn)] 94 by rw[hW2];exact(aa.new w1 _ _).alloc _)
 have HM2:Hid (CM W2 (w1.heap.size+1) 0 fun _ _=>none):=by
  rw[hW2];have:=CM.made (w1.alloc (.cells #[.int .i64 (t.length:Int),.slice (some ⟨gc,0,none⟩) 256 256,.slice bo (nT t).length bc,.map (some gn)] 94))
  rw[show(w1.alloc (.cells #[.int .i64 (t.length:Int),.slice (some ⟨gc,0,none⟩) 256 256,.slice bo (nT t).length bc,.map (some gn)] 94)).heap.size=w1.heap.size+1 by simp]at this;exact this
 have z2:W2.heap.size=w1.heap.size+2:=by rw[hW2];simp
 have x1:=(B11.out.kept b2).cell 1 rfl;rw[hW2]at x1;have HB2:=ac b2;have HFew:=ac (kt hle);clear b2 a1 c1;go_wp2_with fail;rw[<-hW2];refine(yX t.length W2 (by omega)).mono ?_
 rintro e w3 ⟨ga,rfl,hca,hga,hb⟩;obtain⟨gp,hgp⟩:∃gp,Hid (gp=w1.heap.size+1):=⟨_,rfl⟩;rw[<-hgp.out]at HM2;have HM3:=ac (HM2.out.kept hb);have K3:=ac (K1.out.kept hb)
 have HB3:=ac (bg HB2.out hb);have HA3:=ac hca;have hgag:gp<ga:=by have:=hgp.out;omega
 clear hb hca K1 HM2 HB2 x1 hW2 hga;rw[<-hgp.out]
 go_wp2_with (refine xY rfl _ _ _ rfl gp 0 (fun _ _=>none) 0 0 (.slice (some ⟨ga,0,none⟩) t.length t.length) underlying125 rfl rfl rfl HM3.out (by unfold maxLen;omega) (by omega) (by omega) ?_)
 intro w4 hm4 hO4;try simp only[Act.put,ae,List.set]
 have HP4:=ac (PL.root hle (hO4.cel HA3.out (by omega)) hgag hm4 (fk _ _ _ _));have K4:=ac (hO4.cel K3.out (by have:=hgp.out;omega))
 have HB4:=ac (HB3.out.trans (hO4.below (base:=w1.heap.size) (by have:=hgp.out;omega)));have k2:=K4.out.cell 2 rfl;clear hm4 hO4 HM3 K3 HB3 HA3 hgag
 generalize (cup (fun _ _=>none) 0 0 (.slice (some ⟨ga,0,none⟩) t.length t.length))=M0 at *;go_wp2
 go_loopw [30] (fun vi wr=>∃(q c:Nat) (M:Nat->Nat->Option Value),q<=(nT t).length/\vi=.int .i64 q/\c<=1+2*q/\Hid (PL t q gp c M wr)/\Hid (aa wr w1.heap.size [.int .i64 (t.length:Int),.slice (some ⟨gc,0,none⟩) 256 256,.slice bo (nT t).length bc,.map (some gn)] 94)/\Hid (Below w1.heap.size w1 wr)) (fun vi _=>(nT t).length-(intOf vi).toNat)
 case atStart=>exact⟨0,1,M0,Nat.zero_le _,rfl,by omega,HP4,K4,HB4⟩
 case round=>
  clear HP4 K4 HB4 k2;obtain⟨q,c,M,hq,rfl,hcq,HP,K1,HB⟩:=hrel;have k12:=K1.out.cell 2 rfl;have k13:=K1.out.cell 3 rfl;have zb:=HB.out.size;have zk:=K1.out.lt;by_cases hlt:q<(nT t).length
  .have hltz:(q:Int)<((nT t).length:Int):=by omega
   have hq10:q<=10240:=by have:=HFew.out;omega
   obtain⟨⟨L,x⟩,hnode⟩:∃p,(nT t)[q]?=some p:=⟨_,List.getElem?_eq_getElem hlt⟩;obtain⟨s1,s2⟩:=Sh.node_small (vT t) (kT t) (bP t (by omega)) hL.out.le (List.mem_of_getElem? hnode)
   have s3:x<9223372036854775808:=by
    obtain⟨d,d1,d2,d3⟩:=ks hle (List.mem_of_getElem? hnode);rw[<-d3];exact nr hle d L
   obtain⟨bb,rfl,hbl,hcc⟩:=(HCS.out.keep HB.out) (by omega);obtain⟨e1,e2⟩:=hcc q _ hnode;dsimp only at e1 e2;have HN:=ac hnode;have hr:=gF t (L,x);have HT:=ac (jT hkn (rwT t (L,x)) (by omega))
   obtain⟨pa,pc,hMp,hPn,hPf⟩:=HP.out.val L x (by omega) s2 (ED hle hnode);obtain⟨W5,hW5⟩:∃W5,W5=wr.alloc (.cells #[.int .i64 (L:Nat),.int .u64 (x:Nat)] 83):=⟨_,rfl⟩
   have b5:Below wr.heap.size wr W5:=by rw[hW5];exact below_alloc wr _
   have HP5:=ac (HP.out.keep b5);have K15:=ac (K1.out.kept b5);have B75:=ac (show aa W5 wr.heap.size [.int .i64 (L:Nat),.int .u64 (x:Nat)] 83 by rw[hW5];exact aa.new wr _ _)
   have HB5:=ac (bg HB.out b5);have HOr:=ac ((HO1.out.keep HB.out).keep b5);obtain⟨rb,ro,rs,o1,o2,hlk,hrb,hrg,hki⟩:=HOr.out.node hle hnode;have hfd:=wJ ⟨rb,ro,none⟩ o1 o2
   have HLen:=ac hki.arg.len;have HK5:=ac hki;have k13:=K15.out.cell 3 rfl;rw[hW5]at hlk hrg k13;have HLK:=ac hlk;have HRa:=ac hrg;have z5:=b5.size;have HMp:=ac hMp;have HPn5:=ac (hPn.keep b5)
   have hne7:Hid (wr.heap.size≠gp):=by show wr.heap.size≠gp;have:=HP.out.map.lt;omega
   clear hlk hrg hrb hki HOr b5 HP K1 HB hMp hPn hcc;go_wp2_with (first | refine lH rfl _ _ rfl _ _ _ rfl rfl HLK.out ?_ | refine aN rb ro rs (by rfl) rfl HRa.out underlying44 HLen.out ?_);rw[<-hW5]
   refine(Ju rs _ W5 HK5.out).mono ?_;rintro e w6 ⟨so,sc,rfl,hwd,hcap,hb⟩;rw[HT.out.2.1,HT.out.2.2];rw[HT.out.2.2]at hwd hcap;have HPa:=ac (fun b=>BX hle HBy.out HN.out b)
   obtain⟨rl,hrl⟩:∃rl,Hid (rl=(rwT t (L,x)).length):=⟨_,rfl⟩;obtain⟨xs,hxs⟩:∃xs,Hid (xs=frL (rwT t (L,x))):=⟨_,rfl⟩;have HFit:Hid (Fit xs):=by rw[hxs.out];exact db _ _
   rw[<-hrl.out,<-hxs.out]at HPa⊢;rw[<-hxs.out]at hwd hcap;obtain⟨W7,hW7⟩:∃W7,W7=w6.alloc (.cells #[.int .i64 (rl:Nat),.slice so xs.length sc] 33):=⟨_,rfl⟩
   have b7:Below w6.heap.size w6 W7:=by rw[hW7];exact below_alloc w6 _
   have bb7:=bg hb b7;have HP7:=ac (HP5.out.keep bb7);have K17:=ac (K15.out.kept bb7);have B77:=ac (B75.out.kept bb7)
   have B87:=ac (show aa W7 w6.heap.size [.int .i64 (rl:Nat),.slice so xs.length sc] 33 by rw[hW7];exact aa.new w6 _ _);have HB7:=ac (bg HB5.out bb7);have HX7:=ac (hwd.keep b7)
   have HPn7:=ac (HPn5.out.keep bb7);have z7:=bb7.size;have hne8:Hid (w6.heap.size≠gp):=by show w6.heap.size≠gp;have:=(HP5.out.keep hb).map.lt;omega
   obtain⟨g7,hg7⟩:∃g7,Hid (g7=wr.heap.size):=⟨_,rfl⟩;obtain⟨g8,hg8⟩:∃g8,Hid (g8=w6.heap.size):=⟨_,rfl⟩;have m7:=B77.out.cell 0 rfl;clear hb b7 bb7 HP5 K15 B75 HB5 hwd HPn5 HK5 HRa HLK k13 hfd hW5 m7
   go_wp2;rw[<-hW7];rw[<-hg7.out]at B77 hne7⊢;rw[<-hg8.out]at B87 hne8⊢;clear hg7 hg8 hW7;obtain⟨L1,hL1⟩:∃L1,Hid (L1=L+1):=⟨_,rfl⟩;obtain⟨xa,hxa⟩:∃xa,Hid (xa=2*x):=⟨_,rfl⟩
   obtain⟨xb,hxb⟩:∃xb,Hid (xb=2*x+1):=⟨_,rfl⟩
   have CL0:Hid (∀w0,Qq 47 #[.agg #[.int .i64 (L:Nat),.int .u64 (x:Nat)],.bool false] w0 (.agg #[.int .i64 (L1:Nat),.int .u64 (xa:Nat)])):=fun w0=>by rw[hL1.out,hxa.out];exact pC L x false (by omega) s3 w0
   have CL1:Hid (∀w0,Qq 47 #[.agg #[.int .i64 (L:Nat),.int .u64 (x:Nat)],.bool true] w0 (.agg #[.int .i64 (L1:Nat),.int .u64 (xb:Nat)])):=fun w0=>by rw[hL1.out,hxb.out];exact pC L x true (by omega) s3 w0
   have HLk:Hid (∀w0 c' M',CM w0 gp c' M'->M' L x=M L x->(Instr.lookup 125 (.map (some gp)) (.agg #[.int .i64 (L:Nat),.int .u64 (x:Nat)]) false).run prog w0=.ok (.slice pa (bH t L x).length pc) w0):=fun w0 c' M' h0 h1=>by
    have:=h0.look underlying125 (rV w0) (L:=L) (x:=x) (by omega) s2;rw[h1,HMp.out]at this;exact this
   have hpl:=pV t L x;obtain⟨pl,hplh⟩:∃pl,Hid (pl=bH t L x):=⟨_,rfl⟩;rw[<-hplh.out]at HLk HPn7 HPa hpl
   have HPa0:Hid (a_ (fun i=>dh (rl:Int) xs (i:Int)) false pl pl.length=bH t L1 xa):=by rw[hL1.out,hxa.out];exact HPa.out false
   have HPa1:Hid (a_ (fun i=>dh (rl:Int) xs (i:Int)) true pl pl.length=bH t L1 xb):=by rw[hL1.out,hxb.out];exact HPa.out true
   obtain⟨la,hla⟩:∃la,Hid (la=(bH t L1 xa).length):=⟨_,rfl⟩;obtain⟨lb,hlb⟩:∃lb,Hid (lb=(bH t L1 xb).length):=⟨_,rfl⟩
   refine aB [] (fun w'=>aa w' g7 [.int .i64 (L:Nat),.int .u64 (x:Nat)] 83/\aa w' g8 [.int .i64 (rl:Nat),.slice so xs.length sc] 33/\(Instr.lookup 125 (.map (some gp)) (.agg #[.int .i64 (L:Nat),.int .u64 (x:Nat)]) false).run prog w'=.ok (.slice pa pl.length pc) w') (by kernel_rfl) ?_
   have hS:aa W7.drew g7 [.int .i64 (L:Nat),.int .u64 (x:Nat)] 83/\aa W7.drew g8 [.int .i64 (rl:Nat),.slice so xs.length sc] 33/\(Instr.lookup 125 (.map (some gp)) (.agg #[.int .i64 (L:Nat),.int .u64 (x:Nat)]) false).run prog W7.drew=.ok (.slice pa pl.length pc) W7.drew:=⟨B77.out,B87.out,HLk.out _ _ _ (HP7.out.keep (Below.refl _ _).drew).map rfl⟩
   have HP8:Hid (PL t q gp c M W7.drew):=HP7.out.keep (Below.refl _ _).drew
   have K18:Hid (aa W7.drew w1.heap.size [.int .i64 (t.length:Int),.slice (some ⟨gc,0,none⟩) 256 256,.slice (some ⟨bb,0,none⟩) (nT t).length bc,.map (some gn)] 94):=K17.out
   have HB8:Hid (Below w1.heap.size w1 W7.drew):=HB7.out.drew;have HX8:Hid (Wd W7.drew so xs):=HX7.out;have HPn8:Hid (Nd W7.drew pa (aV pl)):=HPn7.out;generalize W7.drew=Y at *;clear HP7 K17 B77 B87 HB7 HX7 HPn7
   refine aF 0 hS rfl (fun w0 h0=>by have d0:=h0.1.cell 0 rfl;have d1:=h0.1.cell 1 rfl;have f0:=h0.2.1.cell 0 rfl;have f1:=h0.2.1.cell 1 rfl;have hlk:=h0.2.2;go_simp;try with_reducible rfl) ?_
   refine aF 1 hS rfl (fun w0 h0=>by have d0:=h0.1.cell 0 rfl;have d1:=h0.1.cell 1 rfl;have f0:=h0.2.1.cell 0 rfl;have f1:=h0.2.1.cell 1 rfl;have hlk:=h0.2.2;go_simp;try with_reducible rfl) ?_
   refine aW 3 ?_
   refine aF 4 hS rfl (fun w0 h0=>by have d0:=h0.1.cell 0 rfl;have d1:=h0.1.cell 1 rfl;have f0:=h0.2.1.cell 0 rfl;have f1:=h0.2.1.cell 1 rfl;have hlk:=h0.2.2;go_simp;try with_reducible rfl) ?_
   refine aF 6 hS rfl (fun w0 h0=>by have d0:=h0.1.cell 0 rfl;have d1:=h0.1.cell 1 rfl;have f0:=h0.2.1.cell 0 rfl;have f1:=h0.2.1.cell 1 rfl;have hlk:=h0.2.2;go_simp;try with_reducible rfl) ?_
   refine aF 7 hS rfl (fun w0 h0=>by have d0:=h0.1.cell 0 rfl;have d1:=h0.1.cell 1 rfl;have f0:=h0.2.1.cell 0 rfl;have f1:=h0.2.1.cell 1 rfl;have hlk:=h0.2.2;go_simp;try with_reducible rfl) ?_
   refine aF 8 hS rfl (fun w0 h0=>by have d0:=h0.1.cell 0 rfl;have d1:=h0.1.cell 1 rfl;have f0:=h0.2.1.cell 0 rfl;have f1:=h0.2.1.cell 1 rfl;have hlk:=h0.2.2;go_simp;try with_reducible rfl) ?_
   refine aF 9 hS rfl (fun w0 h0=>by have d0:=h0.1.cell 0 rfl;have d1:=h0.1.cell 1 rfl;have f0:=h0.2.1.cell 0 rfl;have f1:=h0.2.1.cell 1 rfl;have hlk:=h0.2.2;go_simp;try with_reducible rfl) ?_
   refine aO 2 ?_;intro K hK;go_simp;refine mr (CL0.out _) fun wA hb=>?_;replace hS:=And.intro (hS.1.kept hb) (And.intro (hS.2.1.kept hb) (HLk.out _ _ _ (HP8.out.keep hb).map rfl))
   have HPA:=ac (HP8.out.keep hb);have K1A:=ac (K18.out.kept hb);have HBA:=ac (bg HB8.out hb);have HXA:=ac (HX8.out.keep hb);have HPnA:=ac (HPn8.out.keep hb)
   clear hb HP8 K18 HB8 HX8 HPn8;refine hK.out _ _ (fun _=>hS) ?_;clear hK K;try simp only[Act.put,ak,aj,ai,ae,ah,ag]
   refine aO 5 ?_;intro K hK;go_simp;refine mr (CL1.out _) fun wB hb=>?_;replace hS:=And.intro (hS.1.kept hb) (And.intro (hS.2.1.kept hb) (HLk.out _ _ _ (HPA.out.keep hb).map rfl))
   have HPB:=ac (HPA.out.keep hb);have K1B:=ac (K1A.out.kept hb);have HBB:=ac (bg HBA.out hb);have HXB:=ac (HXA.out.keep hb);have HPnB:=ac (HPnA.out.keep hb)
   clear hb HPA K1A HBA HXA HPnA;refine hK.out _ _ (fun _=>hS) ?_;clear hK K;try simp only[Act.put,ak,aj,ai,ae,ah,ag]
   refine aO 10 ?_;intro K hK;go_simp;refine(yY pa pl pc (rl:Int) so xs sc wB HPnB.out (by omega) HXB.out HFit.out).mono ?_;rintro e wC ⟨vo,vn,rfl,hpd,hb⟩;obtain⟨oo,co,rfl,n1,r1⟩:=ux hpd.o1 rfl
   obtain⟨on,cn,rfl,n2,r2⟩:=ux hpd.o2 rfl;rw[HPa0.out]at n1⊢;rw[HPa1.out]at n2⊢;rw[<-hla.out,<-hlb.out];have HN1:=ac n1;have HN2:=ac n2
   have HF1:Hid (Fr (gp+1) oo):=fun a ha=>by have:=r1 a ha;have:=HPB.out.map.lt;omega
   have HF2:Hid (Fr (gp+1) on):=fun a ha=>by have:=r2 a ha;have:=HPB.out.map.lt;omega
   clear n1 n2 r1 r2;have zC:=HPB.out.map.lt;replace hS:=And.intro (hS.1.kept hb) (And.intro (hS.2.1.kept hb) (HLk.out _ _ _ (HPB.out.keep hb).map rfl));have HPC:=ac (HPB.out.keep hb);have K1C:=ac (K1B.out.kept hb)
   have HBC:=ac (bg HBB.out hb);have HXC:=ac (HXB.out.keep hb);have HPnC:=ac (HPnB.out.keep hb);clear hb HPB K1B HBB HXB HPnB;clear hpd;refine hK.out _ _ (fun _=>hS) ?_;clear hK K
   try simp only[Act.put,ak,aj,ai,ae,ah,ag]
   refine aF 11 hS rfl (fun w0 h0=>by have d0:=h0.1.cell 0 rfl;have d1:=h0.1.cell 1 rfl;have f0:=h0.2.1.cell 0 rfl;have f1:=h0.2.1.cell 1 rfl;have hlk:=h0.2.2;go_simp;try with_reducible rfl) ?_
   refine aF 12 hS rfl (fun w0 h0=>by have d0:=h0.1.cell 0 rfl;have d1:=h0.1.cell 1 rfl;have f0:=h0.2.1.cell 0 rfl;have f1:=h0.2.1.cell 1 rfl;have hlk:=h0.2.2;go_simp;try with_reducible rfl) ?_
   refine aW 13 ?_;refine aO 14 ?_;intro K hK
   refine sR gp c M L1 xa (.slice oo la co) underlying125 rfl rfl rfl HPC.out.map (by unfold maxLen;omega) (by have:=hL1.out;omega) (by have:=hxa.out;omega) ?_;intro wD hmD hOD
   replace hS:=And.intro (hOD.cel hS.1 hne7.out) (And.intro (hOD.cel hS.2.1 hne8.out) (HLk.out _ _ _ hmD (cup_other _ _ (by have:=hL1.out;omega))));refine hK.out _ _ (fun _=>hS) ?_;clear hK K
   try simp only[Act.put,ak,aj,ai,ae,ah,ag]
   refine aO 15 ?_;intro K hK;refine sR gp (c+1) _ L1 xb (.slice on lb cn) underlying125 rfl rfl rfl hmD (by unfold maxLen;omega) (by have:=hL1.out;omega) (by have:=hxb.out;omega) ?_;intro wE hmE hOE
   replace hS:=And.intro (hOE.cel hS.1 hne7.out) (And.intro (hOE.cel hS.2.1 hne8.out) (HLk.out _ _ _ hmE ((cup_other _ _ (by have:=hL1.out;omega)).trans (cup_other _ _ (by have:=hL1.out;omega)))))
   refine hK.out _ _ (fun _=>hS) ?_;clear hK K;try simp only[Act.put,ak,aj,ai,ae,ah,ag]
   refine aq.done (by kernel_rfl) ?_ _;have hOO:=hOD.trans hOE;have K1E:=ac (hOO.cel K1C.out (by have:=hgp.out;omega));have HBE:=ac (HBC.out.trans (hOO.below (base:=w1.heap.size) (by have:=hgp.out;omega)))
   rw[hla.out,hlb.out,hxa.out,hxb.out,hL1.out]at hmE;have HN1':=HN1.out;have HN2':=HN2.out;rw[hL1.out,hxa.out]at HN1';rw[hL1.out,hxb.out]at HN2'
   have HPE:=ac (HPC.out.step hle HN.out HN1' HF1.out HN2' HF2.out hOO hmE);clear hS hOO hmE hOD hOE hmD HPC K1C HBC HXC HPnC HN1' HN2';go_wp2
   exact⟨⟨q+1,c+1+1,_,by omega,rfl,by omega,HPE,K1E,HBE⟩,by simp only[intOf];omega⟩
  .obtain rfl:q=(nT t).length:=by omega
   have B1r:=ac (B11.out.kept HB.out);have HGr:=ac (HGc.out.kept HB.out);have x1:=B1r.out.cell 1 rfl;have k11:=K1.out.cell 1 rfl;have hgl:=HP.out.map.lt;have hgcl:=HGr.out.lt
   obtain⟨i0,hi,hz0,hz1,hz2⟩:=info_parts Fq;clear k12 k13 HFew
   go_wp2_with (at_make;refine wpList_make_full _ rfl _ _ 22 rfl wr.heap.size 5 i0 (.int .u8 0) 1 underlying22 hi hz0 hz1 .i64 .i64 _ _ t.length rfl rfl rfl rfl ?b2 ?b3 ?b4 ?_)
   case b2=>rw[hz2];omega
   case b3=>unfold maxLen;omega
   case b4=>omega
   intro w2 hown hgr;have c3:=II hown;have b2:Below wr.heap.size wr w2:=(Below.refl _ _).grown hgr (Nat.le_refl _) (fun k h=>by cases h);rw[<-yo t]at c3
   obtain⟨g9,hg9⟩:∃g9,Hid (g9=wr.heap.size):=⟨_,rfl⟩;have HP2:=ac (HP.out.keep b2);have K12:=ac (K1.out.kept b2);have HB2:=ac (bg HB.out b2);have HG2:=ac (HGr.out.kept b2)
   have HC2:=ac c3;rw[<-hg9.out]at HC2⊢;have hp9:gp<g9:=by rw[hg9.out];exact hgl
   have hgc9:gc<g9:=by rw[hg9.out];exact hgcl
   have hw9:w1.heap.size<=g9:=by rw[hg9.out];exact HB.out.size
   have k21:=K12.out.cell 1 rfl;clear c3 b2 hown hgr hi hz0 hz1 hz2 x1 k11 HP K1 HB HGr B1r zb zk hgl hgcl hg9 hlt hq;go_wp2
   go_loopw [63] (fun vi wq=>∃d:Nat,d<=256/\vi=.int .i64 d/\Hid (aa wq g9 (dD (dy t d 0)) 5)/\Hid (PL t (nT t).length gp c M wq)/\Hid (aa wq gc (cC (vT t)) 83)/\Hid (Below w1.heap.size w1 wq)) (fun vi _=>256-(intOf vi).toNat)
   case atStart=>exact⟨0,Nat.zero_le _,rfl,HC2,HP2,HG2,HB2⟩
   case round=>
    obtain⟨d,hd,rfl,HC,HPd,HGd,HBd⟩:=hrel;clear HC2 HP2 HG2 HB2 K12 k21;by_cases hld:d<256
    .have hldz:(d:Int)<256:=by omega
     have a1:=HGd.out.cell (d*2) (gD (vT t) _ hld);have a2:=HGd.out.cell (d*2+1) (gC (vT t) _ hld);have v40:=hL.out.le d
     have hk64:cod (vT t) d<18446744073709551616:=iD (bP t (by omega) d) v40;have HV:=ac (fun h0:0<vT t d=>HPd.out.val (vT t d) (cod (vT t) d) (by omega) hk64 (EF hle hld h0))
     have HQ:=ac (fun h0:0<vT t d=>BZ hle HBy.out (c:=d) h0);have HSk:=ac (fun h0:vT t d=0=>yq hle hld h0);obtain⟨L,hLL⟩:∃L,Hid (L=vT t d):=⟨_,rfl⟩
     obtain⟨x,hxx⟩:∃x,Hid (x=cod (vT t) d):=⟨_,rfl⟩;have HQ':Hid (0<L->bH t L x=Sh.mem (fun e=>decide (e=d)) t t.length):=by rw[hLL.out,hxx.out];exact HQ.out
     rw[<-hLL.out,<-hxx.out]at HV;rw[<-hxx.out]at a2;rw[<-hLL.out]at HSk a1 v40;rw[<-hxx.out]at hk64;obtain⟨W8,hW8⟩:∃W8,W8=wr.alloc (.cells #[.int .i64 (L:Nat),.int .u64 (x:Nat)] 83):=⟨_,rfl⟩
     have b8:Below wr.heap.size wr W8:=by rw[hW8];exact below_alloc wr _
     have HP8:=ac (HPd.out.keep b8);have HC8:=ac (HC.out.kept b8);have HG8:=ac (HGd.out.kept b8);have HB8:=ac (bg HBd.out b8);by_cases h0:L=0
     .have hF:=ac (HSk.out h0);clear HV HQ HQ' HSk hLL hxx b8 HPd HC HGd HBd v40 hk64;subst h0;have hW8':W8=wr.alloc (.cells #[.int .i64 0,.int .u64 (x:Nat)] 83):=hW8;clear hW8;go_wp2;rw[<-hW8']
      exact⟨⟨d+1,by omega,rfl,by rw[<-hF.out];exact HC8,HP8,HG8,HB8⟩,by simp only[intOf];omega⟩
     .have h0p:0<L:=by omega
      have h0z:¬((L:Nat):Int)=0:=by omega
      obtain⟨pa,pc,hMp,hPn,hPf⟩:=HV.out h0p;have HPn:=ac (hPn.keep b8);have ePl:=ac (HQ'.out h0p);have hlk:=HP8.out.map.look underlying125 (rV W8) (L:=L) (x:=x) (by omega) hk64;rw[hMp]at hlk
      have hpl:=pV t L x;obtain⟨pl,hplh⟩:∃pl,Hid (pl=bH t L x):=⟨_,rfl⟩;rw[<-hplh.out]at HPn hpl ePl hlk
      have hlk':(Instr.lookup 125 (.map (some gp)) (.agg #[.int .i64 (L:Nat),.int .u64 (x:Nat)]) false).run prog W8=.ok (.slice pa pl.length pc) W8:=hlk;rw[hW8]at hlk';have HLK:=ac hlk'
      clear hlk hlk' hMp hPn hPf HV HQ HQ' HSk hLL hxx b8 HPd HC HGd HBd v40 hk64 hplh;go_wp2_with (refine lH rfl _ _ rfl _ _ _ rfl rfl HLK.out ?_);rw[<-hW8];clear HLK hW8 a1 a2
      go_loopw [75] (fun vi wz=>∃q:Nat,q<=pl.length/\vi=.int .i64 q/\Hid (aa wz g9 (dD (dy t d q)) 5)/\Hid (PL t (nT t).length gp c M wz)/\Hid (aa wz gc (cC (vT t)) 83)/\Hid (Nd wz pa (aV pl))/\Hid (Below w1.heap.size w1 wz)) (fun vi _=>pl.length-(intOf vi).toNat)
      case atStart=>exact⟨0,Nat.zero_le _,rfl,HC8,HP8,HG8,HPn,HB8⟩
      case round=>
       obtain⟨q,hq,rfl,HC,HPd,HGd,HN,HBd⟩:=hrel;clear HC8 HP8 HG8 HPn HB8;by_cases hlq:q<pl.length
       .have hlqz:(q:Int)<(pl.length:Int):=by omega
        have hpe:pl[q]?=some (gt pl q):=by unfold gt;rw[List.getD_eq_getElem?_getD,List.getElem?_eq_getElem hlq];rfl
        obtain⟨p,hp⟩:∃p,Hid (p=gt pl q):=⟨_,rfl⟩;obtain⟨s1,s2⟩:=yp t d q p (by rw[hp.out,<-hpe,ePl.out]);obtain⟨nb,no,rfl,hnl,hnc⟩:=HN.out (by rw[kF];omega)
        have n1:=hnc q (by rw[kF];exact hlq);rw[qK pl q hlq,<-hp.out]at n1;have c1:=HC.out.cell p (I4 _ p (by rw[jl];exact s1));have f1:=HC.out.frozen p
        have hpz:(p:Int)<(t.length:Int):=by omega
        have wd8:IntKind.u8.wrap (d:Int)=(d:Int):=by rw[IntKind.wrap_u8];omega
        have o3:aw g9 wr (wr.setCell ⟨g9,p,none⟩ (.int .u8 (d:Nat))):=(aw.refl _ _).set p _
        have HC':Hid (aa (wr.setCell ⟨g9,p,none⟩ (.int .u8 (d:Nat))) g9 (dD (dy t d (q+1))) 5):=by
         have:=HC.out.set p (.int .u8 (d:Nat));rw[I3,s2]at this;exact this
        have HP':=ac (HPd.out.byt HC.out (by omega) o3);have HG':=ac (o3.cel HGd.out (by omega));have HN':=ac (uz HN.out HC.out o3);have HB':=ac (HBd.out.trans (o3.below (base:=w1.heap.size) hw9))
        clear HC HPd HGd HN HBd o3 hnc hpe s2 hp;go_wp2;exact⟨⟨q+1,by omega,by go_num,HC',HP',HG',HN',HB'⟩,by simp only[intOf];omega⟩
       .obtain rfl:q=pl.length:=by omega
        have hF:Hid (dy t d pl.length=dy t (d+1) 0):=by rw[ePl.out];exact sB t d
        go_wp2;exact⟨⟨d+1,by omega,by go_num,by rw[<-hF.out];exact HC,HPd,HGd,HBd⟩,by simp only[intOf];omega⟩
    .obtain rfl:d=256:=by omega
     have hF:=ac (JI (t:=t) (by have:=HC.out;rw[yr HBy.out]at this;exact this));have HBE:=ac (bg HB1.out HBd.out);clear HC HPd HGd HBd;go_wp2;go_ret
     exact⟨_,_,rfl,hF.out,HBE.out⟩
def pg:List Value:=[.int .i64 0,.slice none 0 0,.slice none 0 0,.map none]
theorem vH:(prog.info? 94).map (fun i=>(i.zero,i.size))=some (some (.agg pg.toArray),4):=by kernel_rfl
theorem vG:(prog.info? 94).map (·.size)=some 4:=by kernel_rfl
theorem tm(k n:Int)(lo:Option Addr)(l:List Int)(lc:Nat)(no:Option Addr)(av:List RA)(nc:Nat)(w:World)(hk:ax k)(hn:ax n)(hx:Nd w lo l)(hl:l.length<=1048576)(hv:Lv w no av)(ha:av.length<=1048576)(G:GV w):
  Qq 24 #[.agg #[.int .i64 k,.int .i64 n,.slice lo l.length lc,.slice no av.length nc]] w (.bool (bn k n l av)):=by
 obtain⟨W,hW⟩:∃W,W=w.alloc (.cells #[.int .i64 k,.int .i64 n,.slice lo l.length lc,.slice no av.length nc] 27):=⟨_,rfl⟩;have bW:=aM hW;have HB:=ac bW
 have C0:=ac (pB k n lo l lc no av nc W hk hn (hx.keep bW) hl (hv.keep bW) ha (G.keep bW));obtain⟨ok,hok⟩:∃ok,Hid (ok=bn k n l av):=⟨_,rfl⟩;rw[<-hok.out]at C0;rw[<-hok.out];clear bW hx hv G hk hn hl ha hok
 go_enter func24,ntmps24;go_wp2_with fail;rw[<-hW];refine C0.out.mono ?_;rintro e w1 ⟨sv,rfl,⟨s1,s2,s3,s4,rfl,o1,o2,o3,o4⟩,_,hb⟩;have HB1:=ac (bg HB.out hb);clear hb C0 HB hW
 go_wp2_with (refine lj vH ?_);intro w2 B2 hb2 hs2;try simp only[Act.put,ae,List.set]
 have HB2:=ac hb2;clear hb2;go_wp2_with (refine aP w1.heap.size pg [s1,s2,s3,s4] rfl rfl B2 rfl vG (by simp[o1,o2,o3,o4]) ?_);intro w3 B3 hO;try simp only[Act.put,ae,List.set]
 have HB3:=ac (HB1.out.trans ((HB2.out.trans (hO.below (Nat.le_refl _))).mono HB1.out.size));clear HB1 HB2 B2 B3 hO hs2;go_wp2;go_ret;exact⟨rfl,HB3.out⟩
theorem yW(k n:Int)(lo:Option Addr)(l:List Int)(lc:Nat)(no:Option Addr)(av:List RA)(nc:Nat)(w:World)(hk:ax k)(hn:ax n)(hx:Nd w lo l)(hl:l.length<=1048576)(hv:Lv w no av)(ha:av.length<=1048576)(G:GV w)(c:Nat)(i:Int)(hbad:bn k n l av=false):
  Qq 14 #[.agg #[.int .i64 k,.int .i64 n,.slice lo l.length lc,.slice no av.length nc],.int .u8 (c:Int),.int .i64 i] w (.tuple #[.int .i64 0,.int .i64 2]):=by
 obtain⟨W,hW⟩:∃W,W=w.alloc (.cells #[.int .i64 k,.int .i64 n,.slice lo l.length lc,.slice no av.length nc] 27):=⟨_,rfl⟩;have bW:=aM hW;have HB:=ac bW
 have C0:=ac (pB k n lo l lc no av nc W hk hn (hx.keep bW) hl (hv.keep bW) ha (G.keep bW));obtain⟨ok,hok⟩:∃ok,Hid (ok=bn k n l av):=⟨_,rfl⟩;rw[<-hok.out]at C0;rw[hok.out.trans hbad]at C0;clear hbad
 clear bW hx hv G hk hn hl ha hok;go_enter func14,ntmps14;go_wp2_with fail;rw[<-hW];refine C0.out.mono ?_;rintro e w1 ⟨sv,rfl,⟨s1,s2,s3,s4,rfl,o1,o2,o3,o4⟩,_,hb⟩
 have HB1:=ac (bg HB.out hb);clear hb C0 HB hW;go_wp2_with (refine lj vH ?_);intro w2 B2 hb2 hs2;try simp only[Act.put,ae,List.set]
 have HB2:=ac hb2;clear hb2;go_wp2_with (refine aP w1.heap.size pg [s1,s2,s3,s4] rfl rfl B2 rfl vG (by simp[o1,o2,o3,o4]) ?_);intro w3 B3 hO;try simp only[Act.put,ae,List.set]
 have HB3:=ac (HB1.out.trans ((HB2.out.trans (hO.below (Nat.le_refl _))).mono HB1.out.size));clear HB1 HB2 B2 B3 hO hs2;go_wp2;go_ret2;exact⟨rfl,HB3.out⟩
def zsR(L:Nat)(av:List RA):Nat->Int
 | 0=>6*(L:Int)
 | q+1=>wrap64 (zsR L av q+kZ (av.getD q cy))
def sZ(k n:Int)(l:List Int)(av:List RA):Int:=if bn k n l av then zsR l.length av av.length else 0
theorem An(k n:Int)(lo:Option Addr)(l:List Int)(lc:Nat)(no:Option Addr)(av:List RA)(nc:Nat)(w:World)(hk:ax k)(hn:ax n)(hx:Nd w lo l)(hl:l.length<=1048576)(hv:Lv w no av)(ha:av.length<=1048576)(G:GV w):
  Qq 17 #[.agg #[.int .i64 k,.int .i64 n,.slice lo l.length lc,.slice no av.length nc]] w (.int .i64 (sZ k n l av)):=by
 obtain⟨W,hW⟩:∃W,W=w.alloc (.cells #[.int .i64 k,.int .i64 n,.slice lo l.length lc,.slice no av.length nc] 27):=⟨_,rfl⟩;have bW:=aM hW;have HB:=ac bW
 have B1:=ac (show aa W w.heap.size [.int .i64 k,.int .i64 n,.slice lo l.length lc,.slice no av.length nc] 27 by rw[hW];exact aa.new w _ _)
 have C0:=ac (tm k n lo l lc no av nc W hk hn (hx.keep bW) hl (hv.keep bW) ha (G.keep bW));have HV:=ac hv;obtain⟨Z,hZ⟩:∃Z,Hid (Z=sZ k n l av):=⟨_,rfl⟩;rw[<-hZ.out];clear bW hx hv G hk hn
 go_enter func17,ntmps17;go_wp2_with fail;rw[<-hW];refine C0.out.mono ?_;rintro e w1 ⟨rfl,hb⟩;have HB1:=ac (bg HB.out hb);have B11:=ac (B1.out.kept hb);clear hb C0 HB B1 hW
 cases ok:bn k n l av with
 | false=>
  have HZ0:Hid (Z=0):=by rw[hZ.out];unfold sZ;rw[ok];rfl
  clear ok hZ;go_wp2;go_ret;exact⟨by rw[HZ0.out];rfl,HB1.out⟩
 | true=>
  have HZ1:Hid (Z=zsR l.length av av.length):=by rw[hZ.out];unfold sZ;rw[ok];rfl
  clear ok hZ;have x2:=B11.out.cell 2 rfl;have x3:=B11.out.cell 3 rfl;go_wp2
  go_loopw [3,16] (fun vs vi wr=>∃q:Nat,q<=av.length/\vi=.int .i64 q/\vs=.int .i64 (zsR l.length av q)/\Hid (Below w.heap.size w wr)) (fun _ vi _=>av.length-(intOf vi).toNat)
  case atStart=>exact⟨0,Nat.zero_le _,rfl,rfl,HB1⟩
  case round=>
   clear HB1 B11 x2 x3;obtain⟨q,hq,rfl,rfl,HB⟩:=hrel;by_cases hlt:q<av.length
   .have hltz:(q:Int)<(av.length:Int):=by omega
    obtain⟨b,off,rfl,hbl,hr⟩:=(HV.out.keep HB.out) (by omega);obtain⟨cs,rg,ki⟩:=hr q hlt;have HL:=ac ki.arg.len;have H1:=ac ki.arg.one;have HK:=ac ki;have HR:=ac rg
    have E:Hid (wrap64 (zsR l.length av q+kZ (av.getD q cy))=zsR l.length av (q+1)):=rfl;obtain⟨A,hA⟩:∃A,Hid (A=av.getD q cy):=⟨_,rfl⟩;rw[<-hA.out]at HK E;generalize zsR l.length av q=X at *
    clear hr rg ki hA;go_wp2_with (first | refine aN b (off+q*22) cs (by rfl) rfl HR.out underlying44 HL.out ?_ | refine lj mB ?_);intro w2 B2 hb2 hs2;try simp only[Act.put,ae,List.set]
    have HB2:=ac hb2;have zb:=HB.out.size;clear hb2 HR
    go_wp2_with (refine aP wr.heap.size zv cs rfl rfl B2 (by have:=HL.out;have h2:=mB;rw[Option.map_eq_some_iff]at this h2;obtain⟨i1,e1,e2⟩:=this;obtain⟨i2,e3,e4⟩:=h2;rw[e1]at e3;cases e3;have:=congrArg Prod.snd e4;exact this.symm.trans e2) HL.out H1.out ?_)
    intro w3 B3 hO;try simp only[Act.put,ae,List.set]
    have hb3:=HB2.out.trans (hO.below (Nat.le_refl _));have HK3:=ac (HK.out.keep hb3);have HB3:=ac (bg HB.out hb3);clear hb3 HK HB HB2 hO B2
    go_wp2_with (refine iH wr.heap.size cs rfl B3 underlying44 HL.out ?_);refine mr (zL cs A w3 HK3.out) fun w4 hb4=>?_;have HB4:=ac (bg HB3.out hb4)
    generalize kZ A=Y at *;clear hb4 HB3 HK3 B3;go_wp2;refine⟨⟨q+1,by omega,by go_num,?_,HB4⟩,by simp only[intOf];omega⟩;rw[<-E.out]
   .obtain rfl:q=av.length:=by omega
    rw[<-HZ1.out];go_wp2;go_ret;exact⟨rfl,HB.out⟩
theorem SX.check{w:World}{cs:List Value}{k:Int}{t:List Nat}(h:SX w cs k t):Qq 24 #[.agg cs.toArray] w (.bool true):=by
 obtain⟨⟨lo,lc,no,nc,rfl,h1,h2⟩,hk,hn,hB,G⟩:=h
 have:=tm k (t.length:Int) lo (cZ (vT t)) lc no (aT k t) nc w (by unfold ax;omega) (by unfold ax;omega) h1 (by rw[length_lst];omega) h2 (by rw[aT_len];have:=kt hn;omega) G
 rw[length_lst,pH hk hn hB]at this;exact this
theorem SX.size{w:World}{cs:List Value}{k:Int}{t:List Nat}(h:SX w cs k t):Qq 17 #[.agg cs.toArray] w (.int .i64 (zsR 256 (aT k t) (aT k t).length)):=by
 obtain⟨⟨lo,lc,no,nc,rfl,h1,h2⟩,hk,hn,hB,G⟩:=h
 have:=An k (t.length:Int) lo (cZ (vT t)) lc no (aT k t) nc w (by unfold ax;omega) (by unfold ax;omega) h1 (by rw[length_lst];omega) h2 (by rw[aT_len];have:=kt hn;omega) G;unfold sZ at this
 rw[length_lst,pH hk hn hB]at this;exact this
structure xJ (k:Int) (t:List Nat) (m:Nat) (SA:World->Option Addr->Nat->Option Addr->Nat->Prop):Prop where
 keep:∀w0 w1 lo lc no nc,SA w0 lo lc no nc->Below w0.heap.size w0 w1->SA w1 lo lc no nc
 build:∀w0 ao cap,Bd w0 ao t->GV w0->Calls prog 10 #[.int .i64 k,.slice ao t.length cap] w0 fun e w'=>∃lo lc no nc,e=.returned (.tuple #[.agg #[.int .i64 k,.int .i64 (t.length:Int),.slice lo 256 lc,.slice no m nc],.int .i64 0])/\SA w' lo lc no nc/\Below w0.heap.size w0 w'
 check:∀w0 lo lc no nc,SA w0 lo lc no nc->Qq 24 #[.agg #[.int .i64 k,.int .i64 (t.length:Int),.slice lo 256 lc,.slice no m nc]] w0 (.bool true)
 size:∃Z,Z=zsR 256 (aT k t) (aT k t).length/\∀w0 lo lc no nc,SA w0 lo lc no nc->Qq 17 #[.agg #[.int .i64 k,.int .i64 (t.length:Int),.slice lo 256 lc,.slice no m nc]] w0 (.int .i64 Z)
 text:∀w0 lo lc no nc,SA w0 lo lc no nc->Calls prog 26 #[.agg #[.int .i64 k,.int .i64 (t.length:Int),.slice lo 256 lc,.slice no m nc]] w0 fun e w'=>∃bo bc,e=.returned (.slice bo t.length bc)/\(convert 22 9 (.slice bo t.length bc)).run prog w'=.ok (.string (strOfNums (jL t))) w'/\Below w0.heap.size w0 w'
 access:∀i:Int,ax i->∀w0 lo lc no nc,SA w0 lo lc no nc->Qq 13 #[.agg #[.int .i64 k,.int .i64 (t.length:Int),.slice lo 256 lc,.slice no m nc],.int .i64 i] w0 (.tuple #[.int .u8 (saC t i:Int),.int .i64 (gE t i)])
 rank:∀(c:Nat) (i:Int),c<256->ax i->∀w0 lo lc no nc,SA w0 lo lc no nc->Qq 14 #[.agg #[.int .i64 k,.int .i64 (t.length:Int),.slice lo 256 lc,.slice no m nc],.int .u8 (c:Int),.int .i64 i] w0 (.tuple #[.int .i64 (iY t c i),.int .i64 (gU t i)])
 select:∀(c:Nat) (i:Int),c<256->ax i->∀w0 lo lc no nc,SA w0 lo lc no nc->Qq 22 #[.agg #[.int .i64 k,.int .i64 (t.length:Int),.slice lo 256 lc,.slice no m nc],.int .u8 (c:Int),.int .i64 i] w0 (.tuple #[.int .i64 (iX t c i),.int .i64 (jI t c i)])
theorem rY(k:Int)(t:List Nat)(hk:1<=k/\k<=3)(hn:t.length<=3000)(hB:cM t):∃m SA,xJ k t m SA:=by
 refine⟨(aT k t).length,fun w lo lc no nc=>SX w [.int .i64 k,.int .i64 (t.length:Int),.slice lo 256 lc,.slice no (aT k t).length nc] k t,⟨fun w0 w1 lo lc no nc h hb=>h.keep hb,fun w0 ao cap hx G=>?_,fun w0 lo lc no nc h=>h.check,⟨_,rfl,fun w0 lo lc no nc h=>h.size⟩,fun w0 lo lc no nc h=>?_,fun i hi w0 lo lc no nc h=>Am _ k t i w0 h hi,fun c i hc hi w0 lo lc no nc h=>yV _ k t c i w0 h hc hi,fun c i hc hi w0 lo lc no nc h=>yR _ k t c i w0 h hc hi⟩⟩
 .refine(Ai k ao t cap w0 hk hx hB hn G).mono ?_;rintro e w' ⟨cs,rfl,h1,h2⟩;obtain⟨lo,lc,no,nc,rfl,_,_⟩:=h1.ex;exact⟨lo,lc,no,nc,rfl,h1,h2⟩
 .refine(yM _ k t w0 h).mono ?_;rintro e w' ⟨bo,bc,rfl,g1,g2⟩;exact⟨bo,bc,rfl,conv bc g1,g2⟩
theorem xO:∃m SA,xJ 2 ab m SA:=rY 2 ab (by decide) (by decide) IY
theorem Ey(l:List Bool)(h:l.length<=3000):0<kZ (kB 2 (l.length:Int) (frL l))/\kZ (kB 2 (l.length:Int) (frL l))<=100000:=by
 have hk:ar (l.length:Int) (frL l)=true:=dO _ _ (by omega);refine⟨EH _ _ (db _ _) hk,?_⟩
 rw[nZ _ _ (qy _ _ hk),(gX (pY (kB8 (l.length:Int) (frL l)))).2.2.2,show({ K:=2,p:=n7,r:=kB8 (l.length:Int) (frL l),f:=n9 }:RA).r=kB8 (l.length:Int) (frL l)from rfl,vh l.length (frL l) (db _ _) hk]
 have b:=jz l.length (bitAt (frL l)) (nb l.length);have e1:nb l.length<=201:=by unfold nb;omega
 have e2:gN l.length<=30:=by unfold gN;omega
 generalize bat l.length (bitAt (frL l)) (nb l.length)=x at *;generalize nb l.length=y at *;generalize gN l.length=z at *;omega
theorem rR(t:List Nat)(hn:t.length<=3000):∀q,q<=(aT 2 t).length->0<zsR 256 (aT 2 t) q/\zsR 256 (aT 2 t) q<=1536+100000*q
 | 0,_=>by unfold zsR;omega
 | q+1,hq=>by
  have ih:=rR t hn q (by omega);have h2:=kt hn;rw[aT_len]at hq;obtain⟨p,hp⟩:∃p,(nT t)[q]?=some p:=⟨_,List.getElem?_eq_getElem (by omega)⟩;have hr:=gF t p;have hz:=Ey (rwT t p) (by omega)
  rw[zsR,j5 hp];generalize kZ (kB 2 ((rwT t p).length:Int) (frL (rwT t p)))=z at *;generalize zsR 256 (aT 2 t) q=y at *;rw[show wrap64 (y+z)=y+z by unfold wrap64;omega];omega
theorem J5(Z:Int)(h:Z=zsR 256 (aT 2 ab) (aT 2 ab).length):0<Z:=by
 rw[h];exact(rR ab (by decide) _ (Nat.le_refl _)).1
theorem o5:iX ab 114 1=9/\jI ab 114 1=0/\iX ab 122 0=0/\jI ab 122 0=3:=by decide +kernel
theorem FN(w:World)(G:GV w):Qq 9 #[] w (.bool true):=by
 have kc:=fun(w:World) (C:Array Value) (n c:Nat)=>Lib.run_convert_bytes_const (P:=prog) w 22 5 C n c underlying22 underlying5;obtain⟨f1,f2,f3,f4,f5⟩:=J6
 have bW:=below_alloc w (.cells #[.int .u8 97,.int .u8 98,.int .u8 114,.int .u8 97,.int .u8 99,.int .u8 97,.int .u8 100,.int .u8 97,.int .u8 98,.int .u8 114,.int .u8 97] 5 (11,12));obtain⟨m,SA,HXP⟩:=xO
 have HK:=ac HXP.keep
 have H1:Hid (∀w0,w0=w.alloc (.cells #[.int .u8 97,.int .u8 98,.int .u8 114,.int .u8 97,.int .u8 99,.int .u8 97,.int .u8 100,.int .u8 97,.int .u8 98,.int .u8 114,.int .u8 97] 5 (11,12))->Calls prog 10 #[.int .i64 2,.slice (some ⟨w.heap.size,0,none⟩) 11 11] w0 fun e w'=>∃lo lc no nc,e=.returned (.tuple #[.agg #[.int .i64 2,.int .i64 11,.slice lo 256 lc,.slice no m nc],.int .i64 0])/\SA w' lo lc no nc/\Below w0.heap.size w0 w'):=fun w0 h=>by
  subst h;exact HXP.build _ (some ⟨w.heap.size,0,none⟩) 11 (J7 w) (G.keep bW)
 have H2:Hid (∀w0 lo lc no nc,SA w0 lo lc no nc->Qq 13 #[.agg #[.int .i64 2,.int .i64 11,.slice lo 256 lc,.slice no m nc],.int .i64 4] w0 (.tuple #[.int .u8 99,.int .i64 0])):=fun w0 lo lc no nc h=>by
  have:=HXP.access 4 (by unfold ax;omega) w0 lo lc no nc h;rw[show saC ab 4=99 from f1,show gE ab 4=0 from rfl]at this;exact this
 have H3:Hid (∀w0 lo lc no nc,SA w0 lo lc no nc->Qq 14 #[.agg #[.int .i64 2,.int .i64 11,.slice lo 256 lc,.slice no m nc],.int .u8 97,.int .i64 8] w0 (.tuple #[.int .i64 4,.int .i64 0])):=fun w0 lo lc no nc h=>by
  have:=HXP.rank 97 8 (by decide) (by unfold ax;omega) w0 lo lc no nc h;rw[show iY ab 97 8=4 from congrArg (fun n:Nat=>(n:Int)) f2,show gU ab 8=0 from rfl]at this;exact this
 have H4:Hid (∀w0 lo lc no nc,SA w0 lo lc no nc->Qq 22 #[.agg #[.int .i64 2,.int .i64 11,.slice lo 256 lc,.slice no m nc],.int .u8 114,.int .i64 1] w0 (.tuple #[.int .i64 9,.int .i64 0])):=fun w0 lo lc no nc h=>by
  have:=HXP.select 114 1 (by decide) (by unfold ax;omega) w0 lo lc no nc h;rw[o5.1,o5.2.1]at this;exact this
 have H5:Hid (∀w0 lo lc no nc,SA w0 lo lc no nc->Qq 22 #[.agg #[.int .i64 2,.int .i64 11,.slice lo 256 lc,.slice no m nc],.int .u8 122,.int .i64 0] w0 (.tuple #[.int .i64 0,.int .i64 3])):=fun w0 lo lc no nc h=>by
  have:=HXP.select 122 0 (by decide) (by unfold ax;omega) w0 lo lc no nc h;rw[o5.2.2.1,o5.2.2.2]at this;exact this
 have H6:Hid (∀w0 lo lc no nc,SA w0 lo lc no nc->Qq 13 #[.agg #[.int .i64 2,.int .i64 11,.slice lo 256 lc,.slice no m nc],.int .i64 11] w0 (.tuple #[.int .u8 0,.int .i64 3])):=fun w0 lo lc no nc h=>by
  have:=HXP.access 11 (by unfold ax;omega) w0 lo lc no nc h;rw[show saC ab 11=0 from rfl,show gE ab 11=3 from rfl]at this;exact this
 have H7:Hid (∀w0:World,GV w0->Qq 14 #[.agg #[.int .i64 0,.int .i64 0,.slice none 0 0,.slice none 0 0],.int .u8 0,.int .i64 0] w0 (.tuple #[.int .i64 0,.int .i64 2])):=fun w0 G0=>yW 0 0 none [] 0 none [] 0 w0 (by unfold ax;omega) (by unfold ax;omega) (fun h=>absurd h (by decide)) (by decide) (fun h=>absurd h (by decide)) (by decide) G0 0 0 (by decide +kernel)
 have H8:Hid (∀w0 lo lc no nc,SA w0 lo lc no nc->Qq 24 #[.agg #[.int .i64 2,.int .i64 11,.slice lo 256 lc,.slice no m nc]] w0 (.bool true)):=fun w0 lo lc no nc h=>by
  exact HXP.check w0 lo lc no nc h
 obtain⟨Z,hZ,HXZ⟩:=HXP.size;have zp:=J5 Z hZ
 have H9:Hid (∀w0 lo lc no nc,SA w0 lo lc no nc->Qq 17 #[.agg #[.int .i64 2,.int .i64 11,.slice lo 256 lc,.slice no m nc]] w0 (.int .i64 Z)):=fun w0 lo lc no nc h=>by
  exact HXZ w0 lo lc no nc h
 have HT:Hid (∀w0 lo lc no nc,SA w0 lo lc no nc->Calls prog 26 #[.agg #[.int .i64 2,.int .i64 11,.slice lo 256 lc,.slice no m nc]] w0 fun e w'=>∃bo bc,e=.returned (.slice bo 11 bc)/\(convert 22 9 (.slice bo 11 bc)).run prog w'=.ok (.string ⟨#[97,98,114,97,99,97,100,97,98,114,97]⟩) w'/\Below w0.heap.size w0 w'):=fun w0 lo lc no nc h=>by
  have:=HXP.text w0 lo lc no nc h;rw[J4]at this;exact this
 have HG:=ac G;clear hZ f1 f2 f3 f4 f5 G HXP HXZ;go_enter func9,ntmps9;go_wp2_with fail;refine(H1.out _ rfl).mono ?_;rintro e w1 ⟨lo,lc,no,nc,rfl,hP0,hb⟩;have hw:=ac (bg bW hb)
 clear H1 bW hb;have b1:=below_alloc w1 (.cells [.int .i64 2,.int .i64 11,.slice lo 256 lc,.slice no m nc].toArray 27);have hB:=ac (aa.new w1 [.int .i64 2,.int .i64 11,.slice lo 256 lc,.slice no m nc] 27)
 have hP:=ac (HK.out _ _ _ _ _ _ hP0 b1);replace hw:=ac (bg hw.out b1);clear b1 hP0;go_wp2_with fail;refine mr (H2.out _ _ _ _ _ hP.out) fun w2 hb=>?_
 replace hP:=ac (HK.out _ _ _ _ _ _ hP.out hb);replace hB:=ac (hB.out.kept hb);replace hw:=ac (bg hw.out hb);clear hb H2;have y0:=hB.out.cell 0 rfl;have y1:=hB.out.cell 1 rfl
 have y2:=hB.out.cell 2 rfl;have y3:=hB.out.cell 3 rfl;go_wp2_with fail;refine mr (H3.out _ _ _ _ _ hP.out) fun w3 hb=>?_;replace hP:=ac (HK.out _ _ _ _ _ _ hP.out hb);replace hB:=ac (hB.out.kept hb)
 replace hw:=ac (bg hw.out hb);clear hb H3 y0 y1 y2 y3;have y0:=hB.out.cell 0 rfl;have y1:=hB.out.cell 1 rfl;have y2:=hB.out.cell 2 rfl;have y3:=hB.out.cell 3 rfl;go_wp2_with fail
 refine mr (H4.out _ _ _ _ _ hP.out) fun w4 hb=>?_;replace hP:=ac (HK.out _ _ _ _ _ _ hP.out hb);replace hB:=ac (hB.out.kept hb);replace hw:=ac (bg hw.out hb);clear hb H4 y0 y1 y2 y3
 have y0:=hB.out.cell 0 rfl;have y1:=hB.out.cell 1 rfl;have y2:=hB.out.cell 2 rfl;have y3:=hB.out.cell 3 rfl;go_wp2_with fail;refine mr (H5.out _ _ _ _ _ hP.out) fun w5 hb=>?_
 replace hP:=ac (HK.out _ _ _ _ _ _ hP.out hb);replace hB:=ac (hB.out.kept hb);replace hw:=ac (bg hw.out hb);clear hb H5 y0 y1 y2 y3;have y0:=hB.out.cell 0 rfl;have y1:=hB.out.cell 1 rfl
 have y2:=hB.out.cell 2 rfl;have y3:=hB.out.cell 3 rfl;go_wp2_with fail;refine mr (H6.out _ _ _ _ _ hP.out) fun w6 hb=>?_;replace hP:=ac (HK.out _ _ _ _ _ _ hP.out hb);replace hB:=ac (hB.out.kept hb)
 replace hw:=ac (bg hw.out hb);clear hb H6 y0 y1 y2 y3;go_wp2_with fail;refine mr (H7.out _ (HG.out.keep hw.out)) fun w7 hb=>?_;replace hP:=ac (HK.out _ _ _ _ _ _ hP.out hb)
 replace hB:=ac (hB.out.kept hb);replace hw:=ac (bg hw.out hb);clear hb H7;have y0:=hB.out.cell 0 rfl;have y1:=hB.out.cell 1 rfl;have y2:=hB.out.cell 2 rfl;have y3:=hB.out.cell 3 rfl
 go_wp2_with fail;refine mr (H8.out _ _ _ _ _ hP.out) fun w8 hb=>?_;replace hP:=ac (HK.out _ _ _ _ _ _ hP.out hb);replace hB:=ac (hB.out.kept hb);replace hw:=ac (bg hw.out hb)
 clear hb H8 y0 y1 y2 y3;have y0:=hB.out.cell 0 rfl;have y1:=hB.out.cell 1 rfl;have y2:=hB.out.cell 2 rfl;have y3:=hB.out.cell 3 rfl;go_wp2_with fail;refine mr (H9.out _ _ _ _ _ hP.out) fun w9 hb=>?_
 replace hP:=ac (HK.out _ _ _ _ _ _ hP.out hb);replace hB:=ac (hB.out.kept hb);replace hw:=ac (bg hw.out hb);clear hb H9 y0 y1 y2 y3;have y0:=hB.out.cell 0 rfl;have y1:=hB.out.cell 1 rfl
 have y2:=hB.out.cell 2 rfl;have y3:=hB.out.cell 3 rfl;go_wp2_with fail;refine(HT.out _ _ _ _ _ hP.out).mono ?_;rintro e wa ⟨bo,bc,rfl,hcv,hb⟩;replace hw:=ac (bg hw.out hb)
 clear hb y0 y1 y2 y3 hP hB HT;go_wp2;go_ret;exact⟨rfl,hw.out⟩
open Go.ChangeShapes Go.WideShapes Go.ChangeAt Go.RowKit Num Bit
theorem Tryz.cells5:prog.cellsOf 5=1:=by kernel_rfl
theorem sA(x:Int)(h:(Lit.int .u8 x).wf=true):0<=x/\x<256:=by
 simp only[Lit.wf,IntKind.min,IntKind.max,IntKind.signed,IntKind.bits,Bool.and_eq_true,decide_eq_true_eq]at h;simp at h;omega
def lz(b:List Nat):Prop:=∀x∈b,x<256
theorem IX{b:List Nat}(h:∀i,i<b.length->gt b i<256):lz b:=by
 intro x hx;obtain⟨i,hi,e⟩:=List.getElem_of_mem hx;have:=h i hi;unfold gt at this;rw[List.getD_eq_getElem?_getD,List.getElem?_eq_getElem hi,Option.getD_some]at this;omega
theorem lz.byt{b:List Nat}(h:lz b):cM b:=fun i=>by
 by_cases hi:i<b.length
 .have:=gt_get b i hi;exact h _ (List.mem_of_getElem? this)
 .rw[jq _ _ (by omega)];decide
theorem JG(w:World)(a:Addr)(len:Nat)(zs:List Int)(hl:len<=zs.length)(hc:∀i,i<zs.length->w.cell? (a.add i)=some (.int .u8 (zs.getD i 0)))(hw:∀n∈zs,(Lit.int .u8 n).wf=true):
  ∃xs:List Nat,xs.length=len/\Bd w (some a) xs/\lz xs:=by
 have hb:∀i,i<zs.length->0<=zs.getD i 0/\zs.getD i 0<256:=by
  intro i hi;have:zs.getD i 0=zs[i]:=by rw[List.getD_eq_getElem?_getD,List.getElem?_eq_getElem hi];rfl
  rw[this];exact sA _ (hw _ (List.getElem_mem hi))
 have hg:∀i,i<len->(gt ((zs.take len).map Int.toNat) i:Int)=zs.getD i 0:=by
  intro i hi;have h:=hb i (by omega);unfold gt;rw[List.getD_eq_getElem?_getD,List.getElem?_map,List.getElem?_take_of_lt hi,List.getElem?_eq_getElem (by omega:i<zs.length)]
  rw[List.getD_eq_getElem?_getD,List.getElem?_eq_getElem (by omega:i<zs.length)]at h⊢;simp only[Option.map_some,Option.getD_some]at h⊢;omega
 have hlen:((zs.take len).map Int.toNat).length=len:=by simp;omega
 refine⟨(zs.take len).map Int.toNat,hlen,?_,?_⟩
 .intro h0;obtain⟨b,off,s⟩:=a;have h00:0<zs.length:=by simp at h0;omega
  have c0:=hc 0 h00;have k:=IG (show w.cell? ⟨b,off,s⟩=_ from c0);obtain⟨k1,rfl⟩:=k;refine⟨b,off,rfl,k1,fun i hi=>?_⟩;have hi2:i<len:=by simp at hi;omega
  have ci:=hc i (by omega);rw[hg i hi2,<-ci];unfold Addr.add;split
  .subst_vars;rfl
  .rfl
 .refine IX fun i hi=>?_;rw[hlen]at hi;have:=hb i (by omega);have:=hg i hi;omega
theorem Cu{H:Type}{enc:TypeId×Value->H}{W:World}{base:Nat}{v:Value}{d:DataW H}{p:List MemPlace}(hv:Value.okWide prog W .any base 22 v)(h:DataW.Trod enc prog W 0 (fun _=>true) true 22 v d p):
  ∃ao xs cap,v=.slice ao xs.length cap/\Bd W ao xs/\lz xs/\xs.length<=cap:=by
 obtain⟨a0,len,cap,rfl⟩:=okWide_slice underlying22 hv;obtain⟨fuel,hf⟩:=h;have hf2:DataW.trod enc prog W 0 (fun _=>true) true fuel 22 [.slice a0 len cap]=some (d,p):=by simpa [Value.cells]using hf
 rcases open_ints underlying22 underlying5 Tryz.cells5 hf2 with⟨hcs,_⟩ | ⟨x,l,cp,zs,hcs,_,hl,hm,hz,_,hcell,hwz⟩
 .simp at hcs;obtain⟨rfl,rfl,rfl⟩:=hcs;exact⟨none,[],0,rfl,JJ _ _,(by intro x hx;cases hx),by simp⟩
 .simp at hcs;obtain⟨rfl,rfl,rfl⟩:=hcs;have hz2:zs.length=cap:=by simpa using hz
  obtain⟨xs,hx1,hx2,hx3⟩:=JG W x len zs (by omega) hcell hwz;subst hx1;exact⟨some x,xs,cap,rfl,hx2,hx3,hl⟩
end Go.Proofs.YtleegaihbgbcjaaGreatDoor
namespace Go.Proofs.YtleegaihbgbcjaaGreatDoor
open Go.RowKit Num Bit
theorem JK{a b:Bool}(ha:a=true)(hb:b=true):(a&&b)=true:=by rw[ha,hb];rfl
theorem yx{W:World}{fuel:Nat}{t:TypeId}{k:IntKind}{cs:List Value}{y:DataW Unit×List MemPlace}(hu:prog.underlying t=some (.int k))(h:DataW.trod (fun _=>()) prog W 0 (fun _=>true) false fuel t cs=some y):∃n,cs=[.int k n]/\y.1=.lit (.int k n):=by
 cases fuel with
 | zero=>simp[DataW.trod]at h
 | succ fuel=>
  unfold DataW.trod at h;rw[hu]at h;match cs,h with
  | [.int k' n],h=>
   dsimp only at h;split at h
   .rename_i hk;obtain⟨rfl,_⟩:=hk;cases h;exact⟨n,rfl,rfl⟩
   .cases h
theorem uN{α β:Type}(f:α->Option β):∀(L:List α) (ys:List β),L.mapM f=some ys->ys.length=L.length/\∀(i:Nat) a y,L[i]?=some a->ys[i]?=some y->f a=some y
 | [],ys,h=>by
  rw[List.mapM_nil]at h;cases h;exact⟨rfl,fun i a y e=>by simp at e⟩
 | b::L,ys,h=>by
  rw[List.mapM_cons]at h;simp only[Option.bind_eq_bind,Option.bind_eq_some_iff,Option.pure_def,Option.some.injEq]at h;obtain⟨z,h1,zs,h2,rfl⟩:=h;obtain⟨e1,e2⟩:=uN f L zs h2
  refine⟨by simp[e1],fun i a y ha hy=>?_⟩;cases i with
  | zero=>simp at ha hy;subst ha;subst hy;exact h1
  | succ i=>exact e2 i a y (by simpa using ha) (by simpa using hy)
theorem sD{W:World}{fuel n:Nat}{t e:TypeId}{k:IntKind}{cs:List Value}{l:List Int}{p:List MemPlace}(hu:prog.underlying t=some (.array n e))(he:prog.underlying e=some (.int k))(ce:prog.cellsOf e=1)(ct:prog.cellsOf t=n)
  (h:DataW.trod (fun _=>()) prog W 0 (fun _=>true) false fuel t cs=some (.agg (l.map fun x=>.lit (.int k x)),p)):cs=l.map fun x=>.int k x:=by
 cases fuel with
 | zero=>simp[DataW.trod]at h
 | succ fuel=>
  unfold DataW.trod at h;rw[hu]at h;dsimp only at h;split at h
  .rename_i hl;rw[Option.map_eq_some_iff]at h;obtain⟨ys,h1,h2⟩:=h;obtain⟨g1,g2⟩:=uN _ _ _ h1;simp only[Prod.mk.injEq,DataW.agg.injEq]at h2;have hy:=h2.1
   have ll:l.length=n:=by
    have:=congrArg List.length hy;simp only[List.length_map]at this;rw[<-this,g1,List.length_range]
   rw[ct]at hl;refine List.ext_getElem? fun i=>?_;by_cases hi:i<n
   .obtain⟨y,ey⟩:∃y,ys[i]?=some y:=⟨_,List.getElem?_eq_getElem (by rw[g1,List.length_range];exact hi)⟩;have e3:=g2 i i y (List.getElem?_range hi) ey;obtain⟨m,e4,e5⟩:=yx he e3
    have e6:(ys.map (·.1))[i]?=some (.lit (.int k m)):=by rw[List.getElem?_map,ey];exact congrArg some e5
    rw[hy,List.getElem?_map]at e6;obtain⟨x,ex⟩:∃x,l[i]?=some x:=⟨_,List.getElem?_eq_getElem (by omega)⟩;rw[ex]at e6;simp only[Option.map_some,Option.some.injEq,DataW.lit.injEq,Lit.int.injEq,true_and]at e6
    rw[List.getElem?_map,ex,e6];rw[ce,Nat.mul_one]at e4;have e7:=congrArg (·[0]?) e4;simp only[List.getElem?_take_of_lt (Nat.one_pos),List.getElem?_drop,Nat.add_zero]at e7;exact e7
   .rw[List.getElem?_eq_none (by omega),List.getElem?_eq_none (by rw[List.length_map];omega)]
  .cases h
theorem xq{W:World}{g:Nat}{nm:String}{cs:Array Value}{vs:List Value}(hg:prog.globalNamed nm=some g)(hv:W.var? prog nm=some cs)(hc:cs.toList=vs)(hm:∃c t,W.heap[g]?=some (.cells c t (0,0))):Tb W g vs:=by
 obtain⟨c,t,e⟩:=hm;refine⟨t,?_⟩;unfold World.var? at hv;rw[hg]at hv;simp only[Option.bind_some,e,Option.some.injEq]at hv;subst hv;unfold aa;rw[e,<-hc]
def laidL:List (String×DataW Unit):=[("errors.errorType",Rows.laid_errors_errorType),("haystack/rrr.ways",Rows.laid_haystack_rrr_ways),("haystack/rrr.widths",Rows.laid_haystack_rrr_widths)]
theorem FO{W:World}(h:laidMetH prog laidL W):GV W:=by
 have h0:laidMet prog [("haystack/rrr.ways",Rows.laid_haystack_rrr_ways),("haystack/rrr.widths",Rows.laid_haystack_rrr_widths)] W:=And.left (show _/\_ from h)
 obtain⟨ps,⟨g,t,cs,fuel,p,q,hg,ht,hv,hd,⟨g2,t2,cs2,fuel2,p2,q2,hg2,ht2,hv2,hd2,hr,hq⟩,hps⟩,_,hm⟩:=h0;obtain rfl:q2=[]:=hr
 obtain rfl:=Option.some.inj ((show prog.globalNamed "haystack/rrr.ways" =some 1 by kernel_rfl).symm.trans hg)
 obtain rfl:=Option.some.inj ((show prog.globalNamed "haystack/rrr.widths" =some 0 by kernel_rfl).symm.trans hg2)
 obtain rfl:=Option.some.inj ((show(prog.globals[1]?).map (·.type)=some 298 by kernel_rfl).symm.trans ht)
 obtain rfl:=Option.some.inj ((show(prog.globals[0]?).map (·.type)=some 283 by kernel_rfl).symm.trans ht2)
 have e1:cs.toList=wv gO:=(sD (l:=[1,15,105,455,1365,3003,5005,6435,6435,5005,3003,1365,455,105,15,1]) underlying298 underlying81 (by kernel_rfl) (by kernel_rfl) hd).trans rfl
 have e2:cs2.toList=vI bj:=(sD (l:=[0,4,7,9,11,12,13,13,13,13,12,11,9,7,4,0]) underlying283 underlying3 (by kernel_rfl) (by kernel_rfl) hd2).trans rfl
 have s1:cs.size=16:=by rw[<-Array.length_toList,e1];rfl
 have s2:cs2.size=16:=by rw[<-Array.length_toList,e2];rfl
 refine⟨xq hg2 hv2 e2 (hm _ 0 ?_).1,xq hg hv e1 (hm _ 0 ?_).1⟩
 .rw[hps,hq,s2];exact List.mem_append_right _ (List.mem_append_left _ (List.mem_append_left _ (List.mem_map.2 ⟨0,List.mem_range.2 (by decide),rfl⟩)))
 .rw[hps,s1];exact List.mem_append_left _ (List.mem_append_left _ (List.mem_map.2 ⟨0,List.mem_range.2 (by decide),rfl⟩))
end Go.Proofs.YtleegaihbgbcjaaGreatDoor
