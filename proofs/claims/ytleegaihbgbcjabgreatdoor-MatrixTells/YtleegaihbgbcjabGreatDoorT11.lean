import Derived.Test.YtleegaihbgbcjabGreatDoorT10
import Derived.Deep.WholeRow
import Derived.Laws.ResultCell
import Derived.Laws.Cover3
set_option linter.unusedVariables false
set_option linter.unusedSimpArgs false
set_option maxRecDepth 100000
set_option maxHeartbeats 16000000
open Go.Proofs.Tryz
namespace Go.Proofs.YtleegaihbgbcjabGreatDoor
open Num
namespace Bit
def aI(xs:List Nat)(g:Nat):List Nat:=(xs.drop (8*g)).take 8
theorem fh(xs:List Nat)(g:Nat):(aI xs g).length=min 8 (xs.length-8*g):=by simp[aI]
theorem rm(xs:List Nat)(g k:Nat)(h:k<8):gt (aI xs g) k=gt xs (8*g+k):=by
 unfold gt aI;rw[List.getD_eq_getElem?_getD,List.getD_eq_getElem?_getD,List.getElem?_take_of_lt h,List.getElem?_drop]
theorem wU(xs:List Nat)(hf:aA xs)(g:Nat):aA (aI xs g):=by
 intro i;by_cases h:i<8
 .rw[rm xs g i h];exact hf _
 .rw[js _ _ (by rw[fh];omega)];decide
theorem JJ(xs:List Nat)(g i:Nat)(h:i<512):bitAt (aI xs g) i=bitAt xs (512*g+i):=by
 unfold bitAt;rw[rm xs g (i/64) (by omega),show(512*g+i)/64=8*g+i/64 by omega,show(512*g+i)%64=i%64 by omega]
theorem rI(xs:List Nat)(g:Nat):∀i,i<=512->cntB xs (512*g+i)=cntB xs (512*g)+cntB (aI xs g) i
 | 0,_=>by simp[cntB]
 | i+1,h=>by
  have ih:=rI xs g i (by omega);rw[show 512*g+(i+1)=512*g+i+1 by omega];simp only[cntB];rw[ih,JJ xs g i (by omega)];omega
theorem JH(xs:List Nat)(i:Nat)(h:64*xs.length<=i):bitAt xs i=false:=by
 unfold bitAt;rw[js xs _ (by omega)];simp
theorem IA(xs:List Nat)(d:Nat):cntB xs (64*xs.length+d)=cntB xs (64*xs.length):=by
 induction d with
 | zero=>rfl
 | succ d ih=>
  rw[show 64*xs.length+(d+1)=64*xs.length+d+1 by omega];simp only[cntB];rw[ih,JH xs _ (by omega)];simp
theorem xm(xs:List Nat)(g:Nat):cntB xs (512*(g+1))=cntB xs (512*g)+cntB (aI xs g) (64*(aI xs g).length):=by
 have a:=rI xs g 512 (by omega);have hl:(aI xs g).length<=8:=by rw[fh];omega
 have b:=IA (aI xs g) (512-64*(aI xs g).length);rw[show 64*(aI xs g).length+(512-64*(aI xs g).length)=512 by omega]at b;rw[show 512*(g+1)=512*g+512 by omega,a,b]
def je(ws:List Nat)(q:Nat):List Int:=(List.range 8).map fun j=>if j<q then (cntB ws (64*j):Int)else 0
def gY(ws:List Nat):List Int:=je ws ws.length
theorem kD(ws:List Nat)(q:Nat):(je ws q).length=8:=by simp[je]
theorem lP(ws:List Nat):(gY ws).length=8:=kD _ _
theorem ru(ws:List Nat)(q i:Nat)(h:i<8):gi (je ws q) i=if i<q then (cntB ws (64*i):Int)else 0:=ju _ _ _ h
theorem J7(ws:List Nat):je ws 0=List.replicate 8 0:=by
 unfold je;simp;rfl
theorem GD(l:List Int)(i j:Nat)(v:Int)(h:i<l.length):gi (l.set i v) j=if i=j then v else gi l j:=by
 unfold gi;rw[List.getD_eq_getElem?_getD,List.getD_eq_getElem?_getD,List.getElem?_set];by_cases c:i=j
 .subst c;simp[h]
 .simp[c]
theorem J8(ws:List Nat)(q:Nat)(h:q<8):(je ws q).set q (cntB ws (64*q):Int)=je ws (q+1):=by
 refine jy (by simp[kD]) fun i hi=>?_;rw[List.length_set,kD]at hi;rw[GD _ _ _ _ (by rw[kD];exact h),ru _ _ _ hi,ru _ _ _ hi];by_cases c:q=i
 .subst c;rw[if_pos rfl,if_pos (by omega)]
 .rw[if_neg c];by_cases d:i<q
  .rw[if_pos d,if_pos (by omega)]
  .rw[if_neg d,if_neg (by omega)]
theorem Iz(ws:List Nat)(q:Nat):cntB ws (64*(q+1))=cntB ws (64*q)+cnt (gt ws q) 64:=by
 have:=kJ ws q 64 (Nat.le_refl _);rw[show 64*(q+1)=64*q+64 by omega];exact this
def ahT(xs:List Nat)(g:Nat):List Int:=(gY (aI xs g)).take (aI xs g).length
theorem kC(xs:List Nat)(g:Nat):(ahT xs g).length=(aI xs g).length:=by
 unfold ahT;rw[List.length_take,lP,fh];omega
theorem l_(l:List Int)(n i:Nat)(h:i<n):gi (l.take n) i=gi l i:=by
 unfold gi;rw[List.getD_eq_getElem?_getD,List.getD_eq_getElem?_getD,List.getElem?_take_of_lt h]
theorem rr(l:List Int)(n i:Nat):gi (l.drop n) i=gi l (n+i):=by
 unfold gi;rw[List.getD_eq_getElem?_getD,List.getD_eq_getElem?_getD,List.getElem?_drop]
theorem rt(xs:List Nat)(g i:Nat)(h:i<(aI xs g).length):gi (ahT xs g) i=(cntB (aI xs g) (64*i):Int):=by
 have:=fh xs g;unfold ahT;rw[l_ _ _ _ h];unfold gY;rw[ru _ _ _ (by omega),if_pos h]
theorem rJ(N:Int)(xs:List Nat)(h:az N xs=true):∃m:Nat,N=(m:Int)/\m<=1048576/\xs.length=(m+63)/64:=by
 obtain⟨h0,h1,h2,_⟩:=bp N xs h;exact⟨N.toNat,by omega,by omega,by omega⟩
theorem qr(m:Nat)(xs:List Nat)(hk:az (m:Int) xs=true)(i:Nat)(hi:i<=m):onesI (m:Int) xs (i:Int)=(cntB xs i:Int):=by
 unfold onesI;rw[if_pos hk,show(min (i:Int) (m:Int)).toNat=i by omega]
theorem nM(m:Nat)(xs:List Nat)(hk:az (m:Int) xs=true)(g:Nat)(hg:g<=m/512):fI (m:Int) xs g=(cntB xs (512*g):Int):=by
 unfold fI;have:=qr m xs hk (512*g) (by omega);rw[<-this];congr 1
theorem pP(m:Nat)(xs:List Nat)(hk:az (m:Int) xs=true)(hl:xs.length=(m+63)/64)(g i:Nat)(hi:i<(aI xs g).length):fJ (m:Int) xs (8*g+i)=(cntB (aI xs g) (64*i):Int):=by
 rw[fh]at hi;unfold fJ;have a:=qr m xs hk (64*(8*g+i)) (by omega);have b:=nM m xs hk g (by omega);have c:=rI xs g (64*i) (by omega)
 rw[show 512*g+64*i=64*(8*g+i)by omega]at c;rw[show(64*((8*g+i:Nat):Int))=((64*(8*g+i):Nat):Int)by omega,a,show(8*g+i)/8=g by omega,b,c];omega
theorem yZ(m:Nat)(xs:List Nat)(hk:az (m:Int) xs=true)(hl:xs.length=(m+63)/64)(g:Nat)(hg:8*g<=xs.length):dv (m:Int) xs (8*g)++ahT xs g=dv (m:Int) xs (8*g+(aI xs g).length):=by
 refine jy (by rw[List.length_append,jN,jN,kC]) fun i hi=>?_;rw[List.length_append,jN,kC]at hi;rw[ma _ _ _ _ hi];by_cases c:i<8*g
 .have:gi (dv (m:Int) xs (8*g)++ahT xs g) i=gi (dv (m:Int) xs (8*g)) i:=by
   unfold gi;rw[List.getD_eq_getElem?_getD,List.getD_eq_getElem?_getD,List.getElem?_append_left (by rw[jN];exact c)]
  rw[this,ma _ _ _ _ c]
 .have:gi (dv (m:Int) xs (8*g)++ahT xs g) i=gi (ahT xs g) (i-8*g):=by
   unfold gi;rw[List.getD_eq_getElem?_getD,List.getD_eq_getElem?_getD,List.getElem?_append_right (by rw[jN];omega),jN]
  rw[this,rt xs g _ (by omega),<-pP m xs hk hl g (i-8*g) (by omega),show 8*g+(i-8*g)=i by omega]
def wb(xs:List Nat)(bit:Bool)(j:Nat):Nat:=if bit then gt xs j else 18446744073709551615-gt xs j
theorem yE(xs:List Nat)(hf:aA xs)(bit:Bool)(j:Nat):wb xs bit j<18446744073709551616:=by
 have:=hf j;unfold wb;split<;>omega
theorem rK(xs:List Nat)(hf:aA xs)(bit:Bool)(j r:Nat)(hr:r<=64):cB xs bit (64*j+r)=cB xs bit (64*j)+cnt (wb xs bit j) r:=by
 have a:=kJ xs j r hr;have l:=fW xs (64*j);have l2:=dL (gt xs j) r;unfold cB wb;cases bit with
 | true=>simp only[if_true];exact a
 | false=>
  have f:=pn (gt xs j) r 64 (by have:=hf j;omega) hr;rw[show(2^64-1-gt xs j)=18446744073709551615-gt xs j by omega]at f;simp only[Bool.false_eq_true,if_false];rw[a,f];omega
theorem yF(xs:List Nat)(hf:aA xs)(bit:Bool)(j r:Nat)(hr:r<64)(h:bitAt xs (64*j+r)=bit):wb xs bit j/2^r%2=1:=by
 have a:=rK xs hf bit j r (by omega);have b:=rK xs hf bit j (r+1) (by omega);have c:=jB xs bit (64*j+r);rw[if_pos h]at c;rw[show 64*j+(r+1)=64*j+r+1 by omega]at b;simp only[cnt]at b
 have:(wb xs bit j/2^r%2)<2:=Nat.mod_lt _ (by decide);revert b;generalize wb xs bit j/2^r%2=z at *;intro b;omega
theorem zj(m:Nat)(xs:List Nat)(hf:aA xs)(hl:xs.length=(m+63)/64)(bit:Bool)(k j:Nat)(hk:k<cB xs bit m)(hj:j<=xs.length-1)
  (h1:∀i,i<j->cB xs bit (64*(i+1))<=k) (h2:∀i,j<=i->i<xs.length-1->k<cB xs bit (64*(i+1))):
  cB xs bit (64*j)<=k/\∃r:Nat,r<64/\jf (wb xs bit j:Int) ((k:Int)-(cB xs bit (64*j):Int))=(r:Int)/\dc (m:Int) xs bit (k:Int)=some (64*j+r):=by
 have hle:cB xs bit (64*j)<=k:=by
  by_cases c:j=0
  .subst c;have:=iF xs bit (64*0);omega
  .have:=h1 (j-1) (by omega);rw[show j-1+1=j by omega]at this;exact this
 refine⟨hle,?_⟩;have hs:(dc (m:Int) xs bit (k:Int)).isSome=true:=(kj _ _ _ _).2 ⟨by omega,by rw[Int.toNat_natCast];omega⟩;obtain⟨i,hi⟩:=Option.isSome_iff_exists.1 hs
 obtain⟨g1,g2,g3⟩:=qi _ _ _ _ _ hi;rw[Int.toNat_natCast]at g1
 have e1:64*j<=i:=by
  apply Nat.le_of_not_lt;intro c;have a:=jB xs bit i;rw[if_pos g2]at a;have b:=jC xs bit (i+1) (64*j-(i+1));rw[show i+1+(64*j-(i+1))=64*j by omega]at b;omega
 have e2:i<64*(j+1):=by
  apply Nat.lt_of_not_le;intro c;have a:=h2 j (Nat.le_refl _) (by omega);have b:=jC xs bit (64*(j+1)) (i-64*(j+1));rw[show 64*(j+1)+(i-64*(j+1))=i by omega]at b;omega
 have ei:i=64*j+(i-64*j):=by omega
 refine⟨i-64*j,by omega,?_,by rw[<-ei];exact hi⟩;have w1:=yF xs hf bit j (i-64*j) (by omega) (by rw[<-ei];exact g2);have w2:=rK xs hf bit j (i-64*j) (by omega);rw[<-ei]at w2;unfold jf
 rw[Int.toNat_natCast];have:=tt (wb xs bit j) ((k:Int)-(cB xs bit (64*j):Int)) (i-64*j) w1 (by omega) (i-64*j) 0 (by omega) (by omega);rw[show 64-0=64 from rfl]at this;rw[this]
theorem Ha(xs:List Nat)(hf:aA xs)(j:Nat):Go.bits .xor .u64 18446744073709551615 (gt xs j:Int)=(wb xs false j:Int):=by
 have h:=hf j;rw[wP _ (by omega) (by omega),Int.toNat_natCast];unfold wb;simp
theorem Ir(m:Nat)(xs:List Nat)(hf:aA xs)(hk:az (m:Int) xs=true)(hl:xs.length=(m+63)/64)(j r:Nat)(h0:0<r)(h1:r<=64)(h2:64*j+r<=m):
  fI (m:Int) xs (j/8)+fJ (m:Int) xs j+dH (gt xs j:Int) (r:Int)=(cntB xs (64*j+r):Int):=by
 have a:=qr m xs hk (64*j) (by omega);have b:=kJ xs j r h1;unfold fJ dH;rw[show(64*(j:Int))=((64*j:Nat):Int)by omega,a,b,Int.toNat_natCast,Int.toNat_natCast,show min r 64=r by omega]
 omega
theorem mH(N:Int)(xs:List Nat)(su sb:List Int)(h:pchk N xs su sb=true):∃m:Nat,N=(m:Int)/\m<=1048576/\xs.length=(m+63)/64/\az (m:Int) xs=true/\su=supL (m:Int) xs/\sb=subL (m:Int) xs:=by
 obtain⟨a,b,c⟩:=lq N xs su sb h;obtain⟨m,rfl,h1,h2⟩:=rJ N xs a;exact⟨m,rfl,h1,h2,a,b,c⟩
end Bit
open Go.RowKit Num Bit
theorem wH(m:Nat)(hm:m<=1048576)(ao:Option Addr)(n cap:Nat)(w:World):
  Qq 85 #[.agg #[.int .i64 m,.slice ao n cap]] w (.int .i64 ((m/512+1:Nat):Int)):=by
 go_enter func85,ntmps85;go_wp2;go_ret;exact⟨dy (by omega),below_alloc w _⟩
theorem tK{a:Option Addr}{n k c:Nat}(h:n=k):Ending.returned (.slice a n c)=.returned (.slice a k c):=by rw[h]
theorem yz{w w':World}{b off:Nat}{xs:List Nat}(hb:b<w.heap.size)(hcc:∀i,i<xs.length->w.cell? ⟨b,off+i,none⟩=some (.int .u64 (gt xs i)))(hw:Below w.heap.size w w')(g:Nat):Wd w' (some ⟨b,off+8*g,none⟩) (aI xs g):=by
 intro h0;refine⟨b,off+8*g,rfl,Nat.lt_of_lt_of_le hb hw.size,fun i hi=>?_⟩;rw[fh]at hi;rw[rm xs g i (by omega),hw.cell (p:=⟨b,off+8*g+i,none⟩) hb,Nat.add_assoc];exact hcc _ (by omega)
theorem yx(w:World)(bo:Option Addr){xs:List Nat}(h:xs.length=0):Wd w bo xs:=fun h0=>absurd h0 (by omega)
def sr(xs:List Nat)(g:Nat)(w:World)(e:Ending)(w':World):Prop:=∃bo bc,e=.returned (.slice bo (aI xs g).length bc)/\Wd w' bo (aI xs g)/\Below w.heap.size w w'
theorem sL{xs:List Nat}{g n:Nat}{w w':World}{e:Ending}{bo:Option Addr}{k bc:Nat}(hn:Hid (n=xs.length))(hw:Below w.heap.size w w')(he:e=.returned (.slice bo k bc))(h8:n<=8*g)(hk:k=0):sr xs g w e w':=by
 have h0:(aI xs g).length=0:=by rw[fh];have:=hn.out;omega
 subst he hk;exact⟨bo,bc,tK h0.symm,yx _ _ h0,hw⟩
theorem sK{xs:List Nat}{g n:Nat}{w w':World}{e:Ending}{b off:Nat}{k bc:Nat}(hn:Hid (n=xs.length))(hx:Hid (Wd w (some ⟨b,off,none⟩) xs))(hw:Below w.heap.size w w')(o2:Nat)(he:e=.returned (.slice (some ⟨b,o2,none⟩) k bc))(h8:8*g<n)(ho:o2=off+8*g)(hk:k=min (8*g+8) n-8*g):sr xs g w e w':=by
 have h0:(aI xs g).length=k:=by rw[fh];have:=hn.out;omega
 obtain⟨b',off',e2,hb,hcc⟩:=hx.out (by have:=hn.out;omega);simp only[Option.some.injEq,Addr.mk.injEq]at e2;obtain⟨rfl,rfl,_⟩:=e2;subst he ho;exact⟨_,bc,tK h0.symm,yz hb hcc hw g,hw⟩
theorem yr(m:Nat)(hm:m<=1048576)(ao:Option Addr)(xs:List Nat)(cap n g:Nat)(HN:Hid (n=xs.length))(l1:8*g<=n)(l2:n<=16384)(hcap:n<=cap)(w:World)(HX:Hid (Wd w ao xs)):
  Calls prog 86 #[.agg #[.int .i64 m,.slice ao n cap],.int .i64 g] w (sr xs g w):=by
 by_cases h8:n=8*g
 .have d1:(n:Int)<((g:Int)+1)*8:=by omega
  cases ao with
  | none=>
   go_enter func86,ntmps86;go_wp2;all_goals go_ret
   all_goals exact sL HN (below_alloc w _) rfl (by omega) (by omega)
  | some a=>
   go_enter func86,ntmps86;go_wp2;all_goals go_ret
   all_goals exact sL HN (below_alloc w _) rfl (by omega) (by omega)
 .obtain⟨b,off,rfl,hb,hcc⟩:=HX.out (by have:=HN.out;omega);clear hcc hb;have h8':8*g<n:=by omega
  have h9:8*g<cap:=by omega
  by_cases h10:n<8*g+8
  .have d1:(n:Int)<((g:Int)+1)*8:=by omega
   go_enter func86,ntmps86;go_wp2;all_goals go_ret
   all_goals exact sK HN HX (below_alloc w _) _ rfl (by omega) (by omega) (by omega)
  .have d1:¬(n:Int)<((g:Int)+1)*8:=by omega
   have d2:((g:Int)+1)*8<=(n:Int):=by omega
   go_enter func86,ntmps86;go_wp2;all_goals go_ret
   all_goals exact sK HN HX (below_alloc w _) _ rfl (by omega) (by omega) (by omega)
theorem sM(m:Nat)(hm:m<=1048576)(ao:Option Addr)(xs:List Nat)(cap:Nat)(hl:xs.length=(m+63)/64)(hcap:xs.length<=cap)(g:Nat)(hg:g<=m/512)(w:World)(hx:Wd w ao xs):
  Calls prog 86 #[.agg #[.int .i64 m,.slice ao xs.length cap],.int .i64 g] w fun e w'=>∃bo bc,e=.returned (.slice bo (aI xs g).length bc)/\Wd w' bo (aI xs g)/\Below w.heap.size w w':=
 yr m hm ao xs cap xs.length g rfl (by omega) (by omega) hcap w hx
theorem vU:(prog.info? 130).map (fun i=>(i.zero,i.size))=some (some (.agg (iv (List.replicate 8 0)).toArray),8):=by kernel_rfl
theorem sp(l:List Int)(h:l.length=8):(prog.info? 130).map (·.size)=some (iv l).toArray.size:=by
 rw[(zero_of_info vU).2,List.size_toArray,lM,h]
theorem DB(l:List Int):(iv l).toArray.all (·.oneCell')=true:=by
 rw[List.all_toArray,List.all_eq_true];intro v hv;obtain⟨a,_,rfl⟩:=List.mem_map.1 hv;rfl
theorem xz{w:World}{g:Nat}{l:List Int}{T:TypeId}(h:aa w g (iv l) T)(j:Nat)(hj:j<l.length):w.cell? ⟨g,j,none⟩=some (.int .i64 (gi l j)):=h.cell j (mW l j hj)
theorem IV{w:World}{g:Nat}{l:List Int}{T:TypeId}(h:aa w g (iv l) T)(j:Nat)(v:Int):aa (w.setCell ⟨g,j,none⟩ (.int .i64 v)) g (iv (l.set j v)) T:=by
 have:=h.set j (.int .i64 v);rwa [show(iv l).set j (.int .i64 v)=iv (l.set j v)by simp[iv,List.map_set]]at this
theorem pE{ops:Array Oper}{rest:List Oper}{d:Option Tmp}{ty:TypeId}{ps:String}{af:Array Edge}{a:Act}{w:World}{Q:Exit->Act->World->Prop}
  (h:∀w1,aa w1 w.heap.size (iv (List.replicate 8 0)) 130->Below w.heap.size w w1->w.heap.size<w1.heap.size->wpList prog ops Q rest (a.put d (.pointer (some ⟨w.heap.size,0,none⟩))) w1):
  wpList prog ops Q (⟨d,.alloc 130,ty,ps,af,none⟩::rest) a w:=by
 refine wpList_plain rfl fun K hK=>?_;unfold Oper.wp execOp;have z:=(zero_of_info vU).1;have nw:=h _ (aa.new w _ _) (below_alloc w _) (by simp);refine cast ?_ (hK _ _ nw)
 simp[Instr.alloc,Sem.run_bind,z,newVar,Value.cells,go_sem]
theorem pQ{ops:Array Oper}{rest:List Oper}{d:Option Tmp}{ty:TypeId}{ps:String}{af:Array Edge}{a:Act}{w:World}{Q:Exit->Act->World->Prop}{x y:Operand}
  (g:Nat) (old ys:List Int) (hx:a.eval x=.pointer (some ⟨g,0,none⟩)) (hy:a.eval y=.agg (iv ys).toArray) (hc:aa w g (iv old) 130) (lo:old.length=8) (ly:ys.length=8)
  (h:∀w1,aa w1 g (iv ys) 130->aB g w w1->wpList prog ops Q rest (a.put d undef) w1):
  wpList prog ops Q (⟨d,.store 130 x y,ty,ps,af,none⟩::rest) a w:=
 wpList_store_row rfl _ x y rfl g _ hx hy _ _ hc (sp ys ly) (by simp[lM,lo,ly]) (DB ys) (h _ (setRow_heap w g _ _ _ _ hc) (aB.row g w _))
theorem Fe{ops:Array Oper}{rest:List Oper}{d:Option Tmp}{ty:TypeId}{ps:String}{af:Array Edge}{a:Act}{w:World}{Q:Exit->Act->World->Prop}{x:Operand}
  (g:Nat) (ys:List Int) (hx:a.eval x=.pointer (some ⟨g,0,none⟩)) (hc:aa w g (iv ys) 130) (ly:ys.length=8)
  (h:wpList prog ops Q rest (a.put d (.agg (iv ys).toArray)) w):
  wpList prog ops Q (⟨d,.load 130 x,ty,ps,af,none⟩::rest) a w:=
 wpList_load_row rfl _ x rfl g hx _ _ _ _ hc underlying130 rfl (sp ys ly) h
theorem AO{fn:Func}{p:Tmp}{w:World}{tmps:Array Value}{u:Tmp}(h:fn.results=#[.cell p 130,.tmp u])(g:Nat)(ys:List Int)(ly:ys.length=8)(hp:tmps.getD p undef=.pointer (some ⟨g,0,none⟩))(hc:aa w g (iv ys) 130):
  (results fn tmps).run prog w=.ok (.tuple #[.agg (iv ys).toArray,tmps.getD u undef]) w:=by
 have hp':tmps[p]?.getD undef=.pointer (some ⟨g,0,none⟩):=by simpa using hp
 have hl:=run_loadVar_row (P:=prog) w g 130 130 (iv ys).toArray (0,0) _ hc underlying130 rfl (sp ys ly);simp[results,h,hp',asAddr,hl]
theorem xj(ao:Option Addr)(ws:List Nat)(cap:Nat)(w:World)(hx:Wd w ao ws)(hf:aA ws)(hl:ws.length<=8):
  Qq 87 #[.slice ao ws.length cap] w (.tuple #[.agg (iv (gY ws)).toArray,.int .i64 (cntB ws (64*ws.length):Nat)]):=by
 go_enter func87,ntmps87;go_wp2_with (refine pE ?_);intro w1 hc1 hb1 hs1;go_wp2_with (refine pE ?_);intro w2 hc2 hb2 hs2;have hA:Below w.heap.size w w2:=hb1.trans (hb2.mono (by omega))
 have hR:=hc1.kept hb2;have hlt:w.heap.size<w1.heap.size:=hs1;clear hc1 hb1 hs1 hb2 hs2;generalize w1.heap.size=g at *;simp only[Act.put,ah,List.set];go_wp2
 go_loopw [5,9] (fun t s wr=>∃q:Nat,q<=ws.length/\s=.int .i64 q/\t=.int .i64 (cntB ws (64*q):Nat)/\aa wr g (iv (je ws q)) 130/\aa wr w.heap.size (iv (List.replicate 8 0)) 130/\Below w.heap.size w wr) (fun _ s _=>ws.length-(intOf s).toNat)
 case atStart=>exact⟨0,Nat.zero_le _,rfl,rfl,by rw[J7];exact hc2,hR,hA⟩
 case round=>
  obtain⟨q,hq,rfl,rfl,hc,hr,hb⟩:=hrel;clear hc2 hR hA;by_cases hi:q<ws.length
  .have hi2:(q:Int)<(ws.length:Int):=by omega
   have hi3:(q:Int)<8:=by omega
   obtain⟨b,off,rfl,hbl,hcc⟩:=hx (by omega);have e1:=xz hc q (by rw[kD];omega);have fz:=hc.frozen q;have st:=IV hc q (cntB ws (64*q):Nat);rw[J8 ws q (by omega)]at st
   have hr2:=hr.other (a:=⟨g,q,none⟩) (by show w.heap.size≠g;omega) (.int .i64 (cntB ws (64*q):Nat))
   have hb2:Below w.heap.size w (wr.setCell ⟨g,q,none⟩ (.int .i64 (cntB ws (64*q):Nat))):=hb.setCell (by show w.heap.size<=g;omega) _;have e2:=(hb2.cell (p:=⟨b,off+q,none⟩) hbl).trans (hcc q hi)
   have bd:=fW ws (64*q);have stp:=Iz ws q;have hfq:=hf q;have hp:Hid (fB (gt ws q:Int)=((cnt (gt ws q) 64:Nat):Int)):=by show fB (gt ws q:Int)=_;unfold fB;rw[Int.toNat_natCast]
   have hc64:=dL (gt ws q) 64
   have C:Hid (∀w0,Qx 138 #[.int .u64 (gt ws q:Int)] w0 (.int .i64 ((cnt (gt ws q) 64:Nat):Int))):=by
    intro w0;have:=nZ (gt ws q:Int) (Int.natCast_nonneg _) (Int.ofNat_lt.2 hfq) w0;rw[hp.out]at this;exact this
   have HF:Hid (aa (wr.setCell ⟨g,q,none⟩ (.int .i64 (cntB ws (64*q):Nat))) g (iv (je ws (q+1))) 130/\aa (wr.setCell ⟨g,q,none⟩ (.int .i64 (cntB ws (64*q):Nat))) w.heap.size (iv (List.replicate 8 0)) 130/\Below w.heap.size w (wr.setCell ⟨g,q,none⟩ (.int .i64 (cntB ws (64*q):Nat)))):=⟨st,hr2,hb2⟩
   have HS:Hid (cntB ws (64*(q+1))=cntB ws (64*q)+cnt (gt ws q) 64):=stp;clear st hr2 hb2 hc hr hb hcc hp stp;generalize cnt (gt ws q) 64=D at *;generalize cntB ws (64*q)=Z at *;go_wp2_with fail
   refine(C.out _).mono ?_;rintro e w4 ⟨rfl,rfl⟩;go_wp2;refine⟨⟨q+1,by omega,by go_num,?_,HF.out⟩,by simp only[intOf];omega⟩;rw[HS.out];go_num
  .obtain rfl:q=ws.length:=by omega
   have HB:Hid (Below w.heap.size w wr):=hb;clear hb hx;go_wp2_with (first | refine Fe g _ rfl hc (kD _ _) ?_ | refine pQ w.heap.size _ _ rfl rfl hr (by simp) (kD _ _) ?_);intro w5 hc5 hb5
   have HC:Hid (aa w5 w.heap.size (iv (gY ws)) 130):=hc5;have HB5:Hid (Below w.heap.size w w5):=HB.out.trans (hb5.below (Nat.le_refl _));clear hc5 hb5 hc hr;go_wp2
   (try simp only[Exit.inBlock,Exit.then]);exact bodyPost_ret (AO rfl w.heap.size (gY ws) (lP ws) rfl HC.out) rfl ⟨rfl,HB5.out⟩
theorem Gj:(prog.info? 126).map (fun i=>(i.zero,i.size,i.bytes))=some (some (.int .u64 0),1,8):=by kernel_rfl
def kh(ys:List Nat):List Value:=ys.map fun y:Nat=>Value.int .u64 (y:Int)
theorem qP(ys:List Nat):(kh ys).length=ys.length:=by simp[kh]
theorem uh(l:List Nat)(i:Nat)(h:i<l.length):(kh l)[i]?=some (.int .u64 (gt l i)):=by
 unfold kh;rw[List.getElem?_map,gt_get l i h];rfl
theorem yv{w:World}{base n c:Nat}{ao:Option Addr}{l:List Nat}(h:w.ownsRow base 126 1 (.slice ao n c) n (kh l)):Wd w ao l:=by
 intro h0;have hlen:(kh l).length=n*1:=h.1;rw[qP]at hlen;have hk:=fun k hk=>h.lt k hk;have hc:=fun g hg=>h.cells (g:=g) hg;obtain⟨_,⟨e,e2⟩ | ⟨g,cap,cur,e,_⟩⟩:=h
 .omega
 .simp only[Value.slice.injEq]at e;obtain⟨rfl,_,rfl⟩:=e;refine⟨g,0,rfl,(hk g rfl).2,fun i hi=>?_⟩;rw[<-hc g rfl i _ (uh l i hi)];unfold Addr.add;split
  .subst_vars;rfl
  .simp
theorem xg(a:Option Addr)(l c:Nat)(w:World):(binOp .eql 51 (.slice a l c) (.slice none 0 0)).run prog w=.ok (.bool a.isNone) w:=by
 simp only[binOp];simp[run_equal_slice_nil w 51 126 a l c underlying51]
theorem IB(ao:Option Addr)(xs:List Nat)(cap:Nat)(w:World)(hx:Wd w ao xs)(hl:xs.length<=1048576):
  Calls prog 137 #[.slice ao xs.length cap] w fun e w'=>∃bo bc,e=.returned (.slice bo xs.length bc)/\Wd w' bo xs/\xs.length<=bc/\Below w.heap.size w w':=by
 cases ao with
 | none=>
  have h0:xs=[]:=by
   cases xs with
   | nil=>rfl
   | cons a t=>
    obtain⟨b,off,e,_⟩:=hx (by simp);cases e
  subst h0;have hq:=xg none 0 cap;have hq2:(none:Option Addr).isNone=true:=rfl;go_enter func137,ntmps137;go_wp2;go_ret;exact⟨none,0,rfl,cE _ _,Nat.le_refl _,Below.refl _ _⟩
 | some a=>
  obtain⟨i0,hi,hz0,hz1,hz2⟩:=info_parts Gj;have hq:=xg (some a) xs.length cap;have hq2:(some a).isNone=false:=rfl;go_enter func137,ntmps137
  go_wp2_with (at_builtin;refine Ap.wpList_append_u (by rfl) _ _ _ (by rfl) w.heap.size 126 i0 (.int .u64 0) 8 underlying51 hi hz0 hz1 hz2 rfl (.slice (some ⟨w.heap.size,0,none⟩) 0 0) 0 [] (by rfl) ?c0 (some a) xs.length cap (kh xs) (by rfl) (qP xs) ?c1 ?c2 ?c3 ?c4 ?c5 ?_)
  case c0=>
   exact⟨rfl,.inr ⟨w.heap.size,0,#[],rfl,Nat.le_refl _,aa.new w [] 126,Nat.le_refl _,by simp⟩⟩
  case c1=>
   intro h0;refine⟨a,rfl,fun j u hj=>?_⟩;obtain⟨b,off,e,hlt,hc⟩:=hx h0;obtain rfl:=Option.some.inj e
   have hjl:j<xs.length:=by
    have:=(List.getElem?_eq_some_iff.1 hj).1;rw[qP]at this;exact this
   rw[uh xs j hjl]at hj;obtain rfl:=Option.some.inj hj;rw[show(Addr.add ⟨b,off,none⟩ j)=⟨b,off+j,none⟩by unfold Addr.add;split<;>(try subst_vars)<;>rfl]
   rw[(below_alloc w _).cell (p:=⟨b,off+j,none⟩) hlt];exact hc j hjl
  case c2=>intro u hu;obtain⟨y,_,rfl⟩:=List.mem_map.1 hu;rfl
  case c3=>unfold maxLen;omega
  case c4=>omega
  case c5=>simp
  intro bo bc w1 hown hle hb;have hB:Below w.heap.size w w1:=(below_alloc w _).trans hb;have hW:=yv hown;have HF:Hid (Wd w1 bo xs/\xs.length<=bc/\Below w.heap.size w w1):=⟨hW,hle,hB⟩
  clear hown hb hW hB hx hq hi hz0 hz1 hz2;go_wp2;go_ret;exact⟨bo,bc,rfl,HF.out⟩
theorem z_(n:Nat)(hn:n<=1048576)(c1 c2 c3:Addr)(p:Nat->Bool)(w:World)
  (hf:Hid (∀(i:Nat) w0,i<n->Below w.heap.size w w0->Qq 193 #[.int .i64 i,.pointer (some c1),.pointer (some c2),.pointer (some c3)] w0 (.bool (p i)))) (hp:Hid (∀i j,i<=j->p i=true->p j=true)):
  Calls prog 192 #[.int .i64 n,.func (.func 193) #[] #[.pointer (some c1),.pointer (some c2),.pointer (some c3)]] w fun e w'=>∃j:Nat,e=.returned (.int .i64 j)/\j<=n/\(∀i,i<j->p i=false)/\(∀i,j<=i->i<n->p i=true)/\Below w.heap.size w w':=by
 go_enter func192,ntmps192;go_wp2
 go_loopw [5,6] (fun s t wr=>∃i j:Nat,i<=j/\j<=n/\s=.int .i64 i/\t=.int .i64 j/\Hid (∀q,q<i->p q=false)/\Hid (∀q,j<=q->q<n->p q=true)/\Below w.heap.size w wr) (fun s t _=>(intOf t).toNat-(intOf s).toNat)
 case atStart=>exact⟨0,n,by omega,by omega,rfl,rfl,fun q hq=>absurd hq (by omega),fun q h1 h2=>absurd h1 (by omega),Below.refl _ _⟩
 case round=>
  obtain⟨i,j,hij,hj,rfl,rfl,H1,H2,hw⟩:=hrel;by_cases hlt:i<j
  .have hlt2:(i:Int)<(j:Int):=by omega
   have hm:(((i+j)/2:Nat):Int)=((i:Int)+(j:Int))/2:=by omega
   have C:Hid (Qq 193 #[.int .i64 (((i:Int)+(j:Int))/2),.pointer (some c1),.pointer (some c2),.pointer (some c3)] wr (.bool (p ((i+j)/2)))):=by
    have:=hf.out ((i+j)/2) wr (by omega) hw;rw[hm]at this;exact this
   have mu:IntKind.i64.wrap (((i:Int)+(j:Int))/2+1)=((i:Int)+(j:Int))/2+1:=by rw[IntKind.wrap_i64];omega
   clear hf;go_wp2_with fail;refine C.out.mono ?_;rintro e w1 ⟨rfl,hb⟩;have hw1:=bg hw hb;clear hb C;cases hq:p ((i+j)/2)with
   | true=>
    go_wp2;refine⟨⟨i,(i+j)/2,by omega,by omega,rfl,by rw[hm],H1,?_,hw1⟩,by simp only[intOf];omega⟩;intro q h1 h2;exact hp.out _ _ h1 hq
   | false=>
    go_wp2;refine⟨⟨(i+j)/2+1,j,by omega,by omega,by rw[<-hm];rfl,rfl,?_,H2,hw1⟩,by simp only[intOf];omega⟩;intro q h1;cases hq2:p q with
    | false=>rfl
    | true=>
     have:=hp.out q ((i+j)/2) (by omega) hq2;rw[hq]at this;exact this.symm
  .have hlt2:¬(i:Int)<(j:Int):=by omega
   go_wp2;go_ret;exact⟨i,rfl,by omega,H1.out,fun q h1 h2=>H2.out q (by omega) h2,hw⟩
def Kk(N:Int)(xs:List Nat)(w:World)(e:Ending)(w':World):Prop:=∃bo bc,e=.returned (.agg #[.int .i64 N,.slice bo xs.length bc])/\Wd w' bo xs/\xs.length<=bc/\Below w.heap.size w w'
theorem ut(N:Int)(ao:Option Addr)(xs:List Nat)(cap:Nat)(w:World)(hx:Wd w ao xs)(hl:xs.length<=1048576):
  Calls prog 84 #[.agg #[.int .i64 N,.slice ao xs.length cap]] w (Kk N xs w):=by
 go_enter func84,ntmps84;go_wp2;obtain⟨W,hW⟩:∃W,W=(w.alloc (.cells #[.int .i64 N,.slice ao xs.length cap] 53)).alloc (.cells #[.int .i64 0,.slice none 0 0] 53):=⟨_,rfl⟩;have bW:=cZ hW;have B1:=dj hW
 have B2:=cQ hW;rw[<-hW];clear hW;refine ba [6] (fun w'=>aa w' w.heap.size [.int .i64 N,.slice ao xs.length cap] 53/\aa w' (w.heap.size+1) [.int .i64 0,.slice none 0 0] 53) (by kernel_rfl) ?_
 have hS:aa W.drew w.heap.size [.int .i64 N,.slice ao xs.length cap] 53/\aa W.drew (w.heap.size+1) [.int .i64 0,.slice none 0 0] 53:=⟨B1,B2⟩;have bW2:Below w.heap.size w W.drew:=bW.drew;generalize W.drew=V at *
 clear B1 B2 bW;refine aK 0 hS ?_;refine aF 1 hS rfl (fun w0 h0=>by have c0:=h0.1.cell 0 rfl;go_simp;try with_reducible rfl) ?_;refine aK 2 hS ?_
 refine aF 3 hS rfl (fun w0 h0=>by have c1:=h0.1.cell 1 rfl;go_simp;try with_reducible rfl) ?_;refine aO 4 ?_;intro K hK;go_simp;refine(IB _ _ _ _ (hx.keep bW2) hl).mono ?_
 rintro e w2 ⟨bo,bc,rfl,hO,hle,hb⟩;have hS2:=And.intro (hS.1.kept hb) (hS.2.kept hb);have bw2:=bg bW2 hb;refine hK.out _ _ (fun _=>hS2) ?_;clear hK K;try simp only[Act.put,ah,aj,ai]
 refine aK 5 hS2 ?_;refine aO 6 ?_;intro K hK;have x0:=hS2.2.cell 0 rfl;have x1:=hS2.2.cell 1 rfl;have f0:=hS2.2.frozen 0;have f1:=hS2.2.frozen 1;go_simp;refine hK.out _ _ (fun h=>absurd (by decide) h) ?_
 clear hK K;try simp only[Act.put,ah,aj,ai]
 refine aw.done (by kernel_rfl) ?_ _;have hC:=(hS2.2.set 0 (.int .i64 N)).set 1 (.slice bo xs.length bc)
 have oW:aB (w.heap.size+1) w2 ((w2.setCell ⟨w.heap.size+1,0,none⟩ (.int .i64 N)).setCell ⟨w.heap.size+1,1,none⟩ (.slice bo xs.length bc)):=((aB.refl _ _).set 0 _).set 1 _
 have hW2:=oW.wd hO (hO.apart hS2.2 (by intro v hv n;simp at hv;rcases hv with rfl | rfl<;>simp))
 have HF:Hid (Wd ((w2.setCell ⟨w.heap.size+1,0,none⟩ (.int .i64 N)).setCell ⟨w.heap.size+1,1,none⟩ (.slice bo xs.length bc)) bo xs/\xs.length<=bc/\Below w.heap.size w ((w2.setCell ⟨w.heap.size+1,0,none⟩ (.int .i64 N)).setCell ⟨w.heap.size+1,1,none⟩ (.slice bo xs.length bc))):=⟨hW2,hle,bw2.trans (oW.below (Nat.le_succ _))⟩
 have k0:=hC.cell 0 rfl;have k1:=hC.cell 1 rfl;clear hW2 oW hC hO hle bw2 hS2 hS hb bW2 x0 x1 f0 f1;go_wp2
 exact bodyPost_ret (v:=.agg #[.int .i64 N,.slice bo xs.length bc]) (by simp[results,Tryz.results84,go_sem,k0,k1]) rfl ⟨bo,bc,rfl,HF.out⟩
def Kl(m:Nat)(xs:List Nat)(w:World)(e:Ending)(w':World):Prop:=∃bo bc so sc tO tc,e=.returned (.tuple #[.agg #[.int .i64 (m:Int),.slice bo xs.length bc,.slice so (supL (m:Int) xs).length sc,.slice tO (subL (m:Int) xs).length tc],.int .i64 0])/\kR w.heap.size w' bo xs bc so (supL (m:Int) xs) sc tO (subL (m:Int) xs) tc/\Below w.heap.size w w'
structure PB (w3 wr:World) (m n:Nat) (bo:Option Addr) (bc:Nat) (sv tv:Value) (G T:Nat) (xs:List Nat):Prop where
 bx:aa wr w3.heap.size [.int .i64 (m:Int),.slice bo n bc,sv,tv] 55
 hb:Below w3.heap.size w3 wr
 o1:wr.ownsRow (w3.heap.size+1) 3 1 sv G (iv (dG (m:Int) xs G))
 o2:wr.ownsRow (w3.heap.size+1) 3 1 tv T (iv (dv (m:Int) xs T))
 ap:Ap.Apart sv tv
theorem PB.keep{w3 wr w':World}{m n:Nat}{bo:Option Addr}{bc:Nat}{sv tv:Value}{G T:Nat}{xs:List Nat}(h:PB w3 wr m n bo bc sv tv G T xs)(hb:Below wr.heap.size wr w'):PB w3 w' m n bo bc sv tv G T xs:=
 ⟨h.bx.kept hb,h.hb.trans (hb.mono h.hb.size),Ap.owns_below h.o1 hb,Ap.owns_below h.o2 hb,h.ap⟩
theorem PB.sup{w3 wr w2:World}{m n:Nat}{bo:Option Addr}{bc:Nat}{sv tv u:Value}{G T:Nat}{xs:List Nat}(h:PB w3 wr m n bo bc sv tv G T xs)(ho:w2.ownsRow (w3.heap.size+1) 3 1 u (G+1) (iv (dG (m:Int) xs (G+1))))(hB:Below (w3.heap.size+1) wr w2)
  (hblk:∀k,u.ownBlock=some k->(sv.ownBlock=some k\/k=wr.heap.size)/\k<w2.heap.size) (hkeep:∀k,k<wr.heap.size->sv.ownBlock≠some k->w2.heap[k]?=wr.heap[k]?):
  PB w3 (w2.setCell ⟨w3.heap.size,2,none⟩ u) m n bo bc u tv (G+1) T xs:=
 ⟨(h.bx.keep hB (Nat.lt_succ_self _)).set 2 u,(h.hb.trans (hB.mono (Nat.le_succ _))).setCell (Nat.le_refl _) _,iT ho (Nat.lt_succ_self _),iT (Ap.owns_other h.o2 hkeep h.ap.symm) (Nat.lt_succ_self _),(Ap.apart_new h.o2 hblk h.ap.symm).symm⟩
theorem PB.sub{w3 wr w2:World}{m n:Nat}{bo:Option Addr}{bc:Nat}{sv tv u:Value}{G T T2:Nat}{xs:List Nat}(h:PB w3 wr m n bo bc sv tv G T xs)(ho:w2.ownsRow (w3.heap.size+1) 3 1 u T2 (iv (dv (m:Int) xs T2)))(hB:Below (w3.heap.size+1) wr w2)
  (hblk:∀k,u.ownBlock=some k->(tv.ownBlock=some k\/k=wr.heap.size)/\k<w2.heap.size) (hkeep:∀k,k<wr.heap.size->tv.ownBlock≠some k->w2.heap[k]?=wr.heap[k]?):
  PB w3 (w2.setCell ⟨w3.heap.size,3,none⟩ u) m n bo bc sv u G T2 xs:=
 ⟨(h.bx.keep hB (Nat.lt_succ_self _)).set 3 u,(h.hb.trans (hB.mono (Nat.le_succ _))).setCell (Nat.le_refl _) _,iT (Ap.owns_other h.o1 hkeep h.ap) (Nat.lt_succ_self _),iT ho (Nat.lt_succ_self _),Ap.apart_new h.o1 hblk h.ap⟩
theorem F_(l k:List Int):iv l++iv k=iv (l++k):=by simp[iv]
theorem C7(m:Nat)(ao:Option Addr)(xs:List Nat)(cap:Nat)(w:World)(hx:Wd w ao xs)(hf:aA xs)(hcap:xs.length<=cap)(hk:az (m:Int) xs=true)(hm:m<=1048576)(hl:xs.length=(m+63)/64):
  Calls prog 51 #[.agg #[.int .i64 (m:Int),.slice ao xs.length cap]] w (Kl m xs w):=by
 have hlx:xs.length<=16384:=by omega
 obtain⟨i0,hi,hz0,hz1,hz2⟩:=info_parts Tryz.info3
 obtain⟨W,hW⟩:∃W,W=(w.alloc (.cells #[.int .i64 (m:Int),.slice ao xs.length cap] 53)).alloc (.cells #[.int .i64 0,.slice none 0 0,.slice none 0 0,.slice none 0 0] 55):=⟨_,rfl⟩;have bW:=cZ hW;have B1:=dj hW
 have B2:=cQ hW
 have C1:Hid (∀w0,w0=W->Qq 83 #[.agg #[.int .i64 (m:Int),.slice ao xs.length cap]] w0 (.bool true)):=fun w0 h=>by
  subst h;have:=cg (m:Int) ao xs cap w0 (hx.keep bW);rw[hk]at this;exact this
 have C2:Hid (∀w0,Below w.heap.size w w0->Calls prog 84 #[.agg #[.int .i64 (m:Int),.slice ao xs.length cap]] w0 fun e w'=>∃bo bc,e=.returned (.agg #[.int .i64 (m:Int),.slice bo xs.length bc])/\Wd w' bo xs/\xs.length<=bc/\Below w0.heap.size w0 w'):=fun w0 h=>ut (m:Int) ao xs cap w0 (hx.keep h) (by omega)
 have C3:Hid (∀w0,Qq 85 #[.agg #[.int .i64 (m:Int),.slice ao xs.length cap]] w0 (.int .i64 ((m/512+1:Nat):Int))):=fun w0=>wH m hm ao xs.length cap w0
 have C4:Hid (∀(G:Nat) w0,G<=m/512->Below w.heap.size w w0->Calls prog 86 #[.agg #[.int .i64 (m:Int),.slice ao xs.length cap],.int .i64 (G:Int)] w0 fun e w'=>∃bo bc,e=.returned (.slice bo (aI xs G).length bc)/\Wd w' bo (aI xs G)/\Below w0.heap.size w0 w'):=fun G w0 hG h=>sM m hm ao xs cap hl hcap G hG w0 (hx.keep h)
 obtain⟨M,hM⟩:∃M,Hid (M=m/512+1):=⟨_,rfl⟩;rw[<-hM.out]at C3;have hMb:M<=2049:=by have:=hM.out;omega
 have HL:Hid (xs.length=(m+63)/64):=hl;clear hl;go_enter func51,ntmps51;go_wp2_with fail;rw[<-hW];refine mr (C1.out _ rfl) fun w1 hb=>?_;have bw1:=bg bW hb
 replace B1:=B1.kept hb;replace B2:=B2.kept hb;clear hb C1 hW bW W;have r0:=B1.cell 0 rfl;have r1:=B1.cell 1 rfl;go_wp2_with fail;refine(C2.out _ bw1).mono ?_;rintro e w3 ⟨bo,bc,rfl,hW3,hbc,hb⟩
 have bw3:=bg bw1 hb;replace B1:=B1.kept hb;replace B2:=B2.kept hb;clear hb bw1 r0 r1 C2;have r0:=B1.cell 0 rfl;have r1:=B1.cell 1 rfl;have hlt0:=B2.lt
 have s0:=(B1.alloc (.cells #[.int .i64 (m:Int),.slice bo xs.length bc,.slice none 0 0,.slice none 0 0] 55)).cell 0 rfl
 have s1:=(B1.alloc (.cells #[.int .i64 (m:Int),.slice bo xs.length bc,.slice none 0 0,.slice none 0 0] 55)).cell 1 rfl
 obtain⟨V,hV⟩:∃V,V=w3.alloc (.cells #[.int .i64 (m:Int),.slice bo xs.length bc,.slice none 0 0,.slice none 0 0] 55):=⟨_,rfl⟩
 have P0:PB w3 V m xs.length bo bc (.slice none 0 0) (.slice none 0 0) 0 0 xs:=by
  rw[hV];exact⟨aa.new w3 _ _,below_alloc w3 _,World.ownsRow_nil _ _ _ _,World.ownsRow_nil _ _ _ _,Ap.apart_nil _⟩
 clear r0 r1;go_wp2_with fail;rw[<-hV];refine mr (C3.out _) fun w4 hb=>?_;replace P0:=P0.keep hb;clear hb hV s0 s1 C3 V;go_wp2
 go_loopw [5,19] (fun t s wr=>∃(G T:Nat) (so:Option Addr) (sc:Nat) (tO:Option Addr) (tc:Nat),G<=M/\s=.int .i64 G/\t=.int .i64 (cntB xs (512*G):Nat)/\Hid (T=min (8*G) xs.length)/\G<=sc/\T<=tc/\PB w3 wr m xs.length bo bc (.slice so G sc) (.slice tO T tc) G T xs) (fun _ s _=>M-(intOf s).toNat)
 case atStart=>exact⟨0,0,none,0,none,0,Nat.zero_le _,rfl,rfl,(by show 0=min (8*0) xs.length;omega),Nat.le_refl _,Nat.le_refl _,P0⟩
 case round=>
  obtain⟨G,T,so,sc,tO,tc,hG,rfl,rfl,HT,hsc,htc,HP⟩:=hrel;clear P0;have B1r:=B1.kept HP.hb;have q0:=B1r.cell 0 rfl;have q1:=B1r.cell 1 rfl;have bwr:=bw3.trans (HP.hb.mono bw3.size);by_cases hlt:G<M
  .have hlt2:(G:Int)<(M:Int):=by omega
   have hG2:G<=m/512:=by have:=hM.out;omega
   go_wp2_with fail;refine(C4.out G _ hG2 bwr).mono ?_;rintro e w5 ⟨wo,wc,rfl,hww,hb⟩;have HP5:=HP.keep hb;clear hb
   have C5:Hid (∀w0,w0=w5->Qq 87 #[.slice wo (aI xs G).length wc] w0 (.tuple #[.agg (iv (gY (aI xs G))).toArray,.int .i64 (cntB (aI xs G) (64*(aI xs G).length):Nat)])):=fun w0 h=>by subst h;exact xj wo (aI xs G) wc w0 hww (wU xs hf G) (by rw[fh];omega)
   have hall:=xm xs G;have hc8:(aI xs G).length<=8:=by rw[fh];omega
   have hTT:T=8*G:=by have:=HT.out;have:=HL.out;omega
   have HT2:Hid (T+(aI xs G).length=min (8*(G+1)) xs.length):=by
    show T+(aI xs G).length=min (8*(G+1)) xs.length;rw[fh];have:=HT.out;omega
   have HSP:Hid (iv (dv (m:Int) xs T)++iv (ahT xs G)=iv (dv (m:Int) xs (T+(aI xs G).length))):=by
    show iv (dv (m:Int) xs T)++iv (ahT xs G)=iv (dv (m:Int) xs (T+(aI xs G).length));rw[F_,hTT,yZ m xs hk HL.out G (by have:=HL.out;omega)]
   have HSU:Hid (iv (dG (m:Int) xs G)++[.int .i64 (cntB xs (512*G):Nat)]=iv (dG (m:Int) xs (G+1))):=by
    show iv (dG (m:Int) xs G)++[.int .i64 (cntB xs (512*G):Nat)]=iv (dG (m:Int) xs (G+1));rw[q_,te,nM m xs hk G hG2]
   have HA:Hid (∀(j:Nat) (u:Value),(iv (ahT xs G))[j]?=some u->(iv (gY (aI xs G)))[j]?=some u):=by
    intro j u hj
    have hjl:j<(ahT xs G).length:=by
     have:=(List.getElem?_eq_some_iff.1 hj).1;rw[lM]at this;exact this
    rw[mW _ j hjl]at hj;rw[kC]at hjl;rw[mW _ j (by rw[lP];omega),<-hj];unfold ahT;rw[l_ _ _ _ hjl]
   have HlT:Hid ((iv (ahT xs G)).length=(aI xs G).length):=by show(iv (ahT xs G)).length=(aI xs G).length;rw[lM,kC]
   have HO1:Hid (∀u∈iv (ahT xs G),u.oneCell'=true):=fun u hu=>by obtain⟨y,_,rfl⟩:=List.mem_map.1 hu;rfl
   have lD:=lP (aI xs G);have bZ:=fW xs (512*G);have bA:=fW (aI xs G) (64*(aI xs G).length);have hTb:T<=16384:=by omega
   have hGb:G<=2048:=by omega
   clear hTT;go_wp2_with fail;refine mr (C5.out _ rfl) fun w6 hb=>?_;have HP6:=HP5.keep hb;clear hb C5;obtain⟨D,hD⟩:∃D,Hid (D=gY (aI xs G)):=⟨_,rfl⟩;rw[<-hD.out]at lD HA⊢
   obtain⟨A,hA⟩:∃A,A=cntB (aI xs G) (64*(aI xs G).length):=⟨_,rfl⟩;rw[<-hA]at hall bA⊢;obtain⟨Z,hZ⟩:∃Z,Z=cntB xs (512*G):=⟨_,rfl⟩;rw[<-hZ]at hall bZ HSU⊢
   obtain⟨c,hc⟩:∃c,c=(aI xs G).length:=⟨_,rfl⟩;rw[<-hc]at hc8 bA HT2 HSP HlT⊢;have HALL:Hid (cntB xs (512*(G+1))=Z+A):=hall;clear hall hA hZ hc HT hww HP5;go_wp2_with (refine pE ?_)
   intro w7 hc7 hb7 hs7;go_wp2_with (refine pQ w6.heap.size _ _ rfl rfl hc7 (by simp) lD ?_);intro w8 hC8 ho8;have HP8:=HP6.keep (hb7.trans (ho8.below (Nat.le_refl _)))
   have hga:w6.heap.size<w8.heap.size:=by rw[ho8.size];exact hs7
   have hown1:∀k,(Value.slice so G sc).ownBlock=some k->k<w6.heap.size:=fun k hk=>(HP6.o1.lt k hk).2;have hgg:w3.heap.size<w6.heap.size:=HP6.bx.lt;clear hb7 hs7 hc7 ho8 HP6 w7;generalize w6.heap.size=ga at *
   have x2:=(HP8.bx.alloc (.cells #[.int .i64 (Z:Int)] 3)).cell 2 rfl;have x2b:=HP8.bx.cell 2 rfl;simp only[Act.put,ah,List.set]
   go_wp2_with (at_builtin;refine Ap.wpList_append_x (by rfl) _ _ _ (by rfl) (w3.heap.size+1) 3 i0 (.int .i64 0) 8 underlying25 hi hz0 hz1 hz2 rfl (.slice so G sc) G (iv (dG (m:Int) xs G)) (by rfl) (HP8.o1.alloc _) (some ⟨w8.heap.size,0,none⟩) 1 1 [.int .i64 (Z:Int)] (by rfl) rfl ?c1 ?c2 ?c3 ?c4 ?c5 ?_)
   case c1=>exact fun _=>⟨_,rfl,fun j u hj=>by
    match j,hj with
    | 0,hj=>simp at hj;subst hj;simp[Addr.add]⟩
   case c2=>intro u hu;simp at hu;subst hu;rfl
   case c3=>unfold maxLen;omega
   case c4=>omega
   case c5=>have:=HP8.bx.lt;simp;omega
   intro so2 sc2 w9 own9 hle9 hB9 hblk9 hkeep9 hsz9;rw[HSU.out]at own9;have HPa:=HP8.keep (below_alloc w8 (.cells #[.int .i64 (Z:Int)] 3))
   have esz:(w8.alloc (.cells #[.int .i64 (Z:Int)] 3)).heap.size=w8.heap.size+1:=by simp
   rw[<-esz]at hblk9 hkeep9;have HP9:=HPa.sup own9 hB9 hblk9 hkeep9;have hC9:aa w9 ga (iv D) 130:=(hkeep9 ga (by omega) (fun e=>by have:=hown1 ga e;omega)).trans (hC8.alloc (.cells #[.int .i64 (Z:Int)] 3))
   have hCa:=hC9.other (a:=⟨w3.heap.size,2,none⟩) (by show ga≠w3.heap.size;omega) (.slice so2 (G+1) sc2);have hga2:ga<(w9.setCell ⟨w3.heap.size,2,none⟩ (.slice so2 (G+1) sc2)).heap.size:=hCa.lt
   have xx2:=(HPa.bx.keep hB9 (Nat.lt_succ_self _)).cell 2 rfl;have ff2:=(HPa.bx.keep hB9 (Nat.lt_succ_self _)).frozen 2;clear esz own9 hB9 hblk9 hkeep9 hsz9 HPa hC9 HP8 hC8 x2 x2b hown1;go_wp2
   generalize (w9.setCell ⟨w3.heap.size,2,none⟩ (.slice so2 (G+1) sc2))=X at *
   refine ba [7] (fun w'=>aa w' w3.heap.size [.int .i64 (m:Int),.slice bo xs.length bc,.slice so2 (G+1) sc2,.slice tO T tc] 55) (by kernel_rfl) ?_
   have hPd:PB w3 X.drew m xs.length bo bc (.slice so2 (G+1) sc2) (.slice tO T tc) (G+1) T xs:=⟨HP9.bx,HP9.hb.drew,HP9.o1,HP9.o2,HP9.ap⟩;have hCd:aa X.drew ga (iv D) 130:=hCa;have hS:=hPd.bx
   have c1:(c:Int)<=8:=by omega
   clear HP9 hCa;generalize X.drew=Y at *;refine aK 0 hS ?_;refine aF 1 hS rfl (fun w0 h0=>by have c3:=h0.cell 3 rfl;go_simp;try with_reducible rfl) ?_;refine aK 2 hS ?_;refine aK 3 hS ?_
   refine aK 4 hS ?_;refine aO 5 ?_;intro K hK
   refine Ap.step_append_u (by rfl) _ _ _ (by rfl) (w3.heap.size+1) 3 i0 (.int .i64 0) 8 underlying25 hi hz0 hz1 hz2 rfl (.slice tO T tc) T (iv (dv (m:Int) xs T)) (by rfl) hPd.o2 (some ⟨ga,0,none⟩) c 8 (iv (ahT xs G)) (by rfl) HlT.out ?d1 HO1.out ?d3 ?d4 ?d5 ?d6
   case d1=>exact fun _=>⟨_,rfl,fun j u hj=>by
     have:=hCd.cell j (HA.out j u hj);rw[<-this];unfold Addr.add;split
     .subst_vars;rfl
     .simp⟩
   case d3=>unfold maxLen;omega
   case d4=>omega
   case d5=>have:=hPd.bx.lt;omega
   intro to2 tc2 wa own_a hle_a hB_a hblk_a hkeep_a hsz_a;rw[HSP.out]at own_a;have HPb:=hPd.sub own_a hB_a hblk_a hkeep_a;have hS2:=hPd.bx.keep hB_a (Nat.lt_succ_self _);refine hK.out _ _ (fun _=>hS2) ?_;clear hK K
   try simp only[Act.put,ar,an,am,ah,aj,ai]
   refine aK 6 hS2 ?_;refine aO 7 ?_;intro K hK;have z3:=hS2.cell 3 rfl;have fz3:=hS2.frozen 3;go_simp;refine hK.out _ _ (fun h=>absurd (by decide) h) ?_;clear hK K
   try simp only[Act.put,ar,an,am,ah,aj,ai]
   refine aw.done (by kernel_rfl) ?_ _;clear hS2 hPd hCd hS own_a hB_a hblk_a hkeep_a hsz_a z3 fz3;go_wp2
   refine⟨⟨G+1,T+c,so2,sc2,to2,tc2,by omega,by go_num,?_,HT2,by omega,by omega,HPb⟩,by simp only[intOf];omega⟩;rw[HALL.out];go_num
  .obtain rfl:G=M:=by omega
   have hlt2:¬(G:Int)<(G:Int):=by omega
   have eS:dG (m:Int) xs G=supL (m:Int) xs:=by unfold supL;rw[Int.toNat_natCast,hM.out]
   have eT:T=xs.length:=by have:=HT.out;have:=HL.out;have:=hM.out;omega
   subst eT;have lS:(supL (m:Int) xs).length=G:=by rw[lJ,Int.toNat_natCast];exact hM.out.symm
   have B2r:=B2.kept HP.hb;have x0:=HP.bx.cell 0 rfl;have x1:=HP.bx.cell 1 rfl;have x2:=HP.bx.cell 2 rfl;have x3:=HP.bx.cell 3 rfl;have y0:=B2r.cell 0 rfl;have y1:=B2r.cell 1 rfl;have y2:=B2r.cell 2 rfl
   have y3:=B2r.cell 3 rfl;have f0:=B2r.frozen 0;have f1:=B2r.frozen 1;have f2:=B2r.frozen 2;have f3:=B2r.frozen 3
   have hC:=(((B2r.set 0 (.int .i64 (m:Int))).set 1 (.slice bo xs.length bc)).set 2 (.slice so G sc)).set 3 (.slice tO xs.length tc)
   have oW:=((((aB.refl (w.heap.size+1) wr).set 0 (.int .i64 (m:Int))).set 1 (.slice bo xs.length bc)).set 2 (.slice so G sc)).set 3 (.slice tO xs.length tc);have hWr:=hW3.keep HP.hb
   have hWd:=oW.wd hWr (hWr.apart B2r (by intro v hv n;simp at hv;rcases hv with rfl | rfl<;>simp));have n1:=qy (oW.owns HP.o1 (by omega));have n2:=qy (oW.owns HP.o2 (by omega));rw[eS]at n1
   have HB:=bwr.trans (oW.below (Nat.le_succ _));have k0:=hC.cell 0 rfl;have k1:=hC.cell 1 rfl;have k2:=hC.cell 2 rfl;have k3:=hC.cell 3 rfl
   have F1:Fr w.heap.size so:=iL HP.o1 (by have:=bwr.size;have:=HP.bx.lt;omega);have F2:Fr w.heap.size tO:=iL HP.o2 (by have:=bwr.size;have:=HP.bx.lt;omega)
   have HF:=And.intro hWd (And.intro n1 (And.intro n2 (And.intro HB (And.intro F1 F2))));replace HF:=Hid.mk' HF;have lT:=jk (m:Int) xs;clear F1 F2 hWd n1 n2 HB oW hWr HP hC B2r B1r HT q0 q1;go_wp2
   refine bodyPost_ret (v:=.tuple #[.agg #[.int .i64 (m:Int),.slice bo xs.length bc,.slice so G sc,.slice tO xs.length tc],.int .i64 0]) (by simp[results,Tryz.results51,go_sem,k0,k1,k2,k3]) rfl ?_
   refine⟨bo,bc,so,sc,tO,tc,by rw[lS,lT],⟨HF.out.1,hbc,HF.out.2.1,by rw[lS];exact hsc,HF.out.2.2.1,by rw[lT];exact htc,HF.out.2.2.2.2.1,HF.out.2.2.2.2.2⟩,HF.out.2.2.2.1⟩
theorem Ii(ao:Option Addr)(l:List Int)(n cap:Nat)(hn:n=l.length)(bo:Option Addr)(m:List Int)(k dap:Nat)(hk:k=m.length)(w:World)(hx:Nd w ao l)(hy:Nd w bo m)(hl:l.length<=1048576):
  Qq 152 #[.slice ao n cap,.slice bo k dap] w (.bool (decide (l=m))):=by
 subst hn hk;by_cases h2:l.length=m.length
 .have h2':((l.length:Int) != (m.length:Int))=false:=by simp[h2]
  have H2:Hid (l.length=m.length):=h2;have h3:l.length<=m.length:=by omega
  clear h2;go_enter func152,ntmps152;go_wp2;go_loopw [13] (fun i wr=>∃k:Nat,k<=l.length/\i=.int .i64 k/\Hid (∀j,j<k->gi l j=gi m j)/\Below w.heap.size w wr) (fun i _=>l.length-(intOf i).toNat)
  case atStart=>exact⟨0,by omega,rfl,fun j hj=>absurd hj (by omega),Below.refl _ _⟩
  case round=>
   obtain⟨k,hk,rfl,H,hw⟩:=hrel;by_cases hlt:k<l.length
   .obtain⟨b,off,rfl,hb,hc⟩:=hx (by omega);obtain⟨d,off2,rfl,hd,hc2⟩:=hy (by omega);have e1:=(hw.cell (p:=⟨b,off+k,none⟩) hb).trans (hc k hlt)
    have e2:=(hw.cell (p:=⟨d,off2+k,none⟩) hd).trans (hc2 k (by omega));have hlt2:k<m.length:=by omega
    have hlt3:(k:Int)<(l.length:Int):=by omega
    have hlt4:(k:Int)<(m.length:Int):=by omega
    clear hc hc2;by_cases hv:gi l k=gi m k
    .have hne:(gi l k != gi m k)=false:=by simp[hv]
     go_wp2;go_quiet (fail);go_wp2;refine⟨⟨k+1,by omega,by go_num,?_,below_drewN hw _⟩,by simp only[intOf];omega⟩;intro j hj;by_cases e:j=k
     .subst e;exact hv
     .exact H.out j (by omega)
    .have hne:(gi l k != gi m k)=true:=by simp[hv]
     have R:Hid (decide (l=m)=false):=by
      show decide (l=m)=false;simp only[decide_eq_false_iff_not];intro e;subst e;exact hv rfl
     go_wp2;go_quiet (fail);go_wp2;go_ret;rw[R.out];exact⟨rfl,below_drewN hw _⟩
   .have R:Hid (decide (l=m)=true):=by
     show decide (l=m)=true;simp only[decide_eq_true_eq];exact jy H2.out (fun i hi=>H.out i (by omega))
    go_wp2;go_ret;rw[R.out];exact⟨rfl,hw⟩
 .have h2':((l.length:Int) != (m.length:Int))=true:=by simp;omega
  have R:Hid (decide (l=m)=false):=by
   show decide (l=m)=false;simp only[decide_eq_false_iff_not];intro e;subst e;exact h2 rfl
  go_enter func152,ntmps152;go_wp2;go_ret;rw[R.out];exact⟨rfl,Below.refl _ _⟩
end Go.Proofs.YtleegaihbgbcjabGreatDoor
