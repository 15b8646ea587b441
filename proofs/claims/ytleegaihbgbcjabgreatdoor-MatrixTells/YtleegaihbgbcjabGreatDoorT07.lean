import Derived.Test.YtleegaihbgbcjabGreatDoorT06
import Derived.ChangeSame
set_option linter.unusedVariables false
set_option linter.unusedSimpArgs false
set_option maxRecDepth 100000
set_option maxHeartbeats 16000000
open Go.Proofs.Tryz
namespace Go.Proofs.YtleegaihbgbcjabGreatDoor
open Num Bit
abbrev bF:=FA
def mh(a b:FA):Bool:=decide (a.N=b.N)&&decide (a.M=b.M)&&(decide (a.k=b.k)&&decide (a.V=b.V)&&(decide (a.LM=b.LM)&&decide (a.xs=b.xs)))&&(decide (a.H=b.H)&&decide (a.ys=b.ys))
theorem rA(a b:FA):mh a b=true↔a=b:=by
 obtain⟨a1,a2,a3,a4,a5,a6,a7,a8⟩:=a;obtain⟨b1,b2,b3,b4,b5,b6,b7,b8⟩:=b;unfold mh;simp only[Bool.and_eq_true,decide_eq_true_eq,FA.mk.injEq];constructor
 .rintro⟨⟨⟨rfl,rfl⟩,⟨rfl,rfl⟩,rfl,rfl⟩,rfl,rfl⟩;exact⟨rfl,rfl,rfl,rfl,rfl,rfl,rfl,rfl⟩
 .rintro⟨rfl,rfl,rfl,rfl,rfl,rfl,rfl,rfl⟩;exact⟨⟨⟨rfl,rfl⟩,⟨rfl,rfl⟩,rfl,rfl⟩,rfl,rfl⟩
def kOk9(a:bF):Bool:=
 match dC a with
 | some l=>mh a (aG a.N.toNat l)
 | none=>false
def kRow(a:bF):List Nat:=(dC a).getD []
def kBN9(a:bF):Int:=if kOk9 a=true then a.N else 0
def kBX9(a:bF):List Nat:=if kOk9 a=true then rowOf a.N.toNat (isIn (kRow a))else []
def kZ9(a:bF):Int:=if kOk9 a=true then a.LM+a.H+64 else 0
def kB9(N:Int)(xs:List Nat):bF:=if az N xs=true then aG N.toNat (plc (bitAt xs) N.toNat)else ⟨0,0,0,0,0,[],0,[]⟩
def kE9(N:Int)(xs:List Nat):Int:=if az N xs=true then 0 else 2
theorem mU(a:bF)(h:kOk9 a=true):dC a=some (kRow a)/\a=aG a.N.toNat (kRow a):=by
 unfold kOk9 at h;unfold kRow;cases e:dC a with
 | none=>rw[e]at h;cases h
 | some l=>
  rw[e]at h;exact⟨rfl,(rA _ _).1 h⟩
theorem Ht(n w:Nat)(lo hi:List Nat):∀q out,bK n w lo hi q=some out->∀j,j<q->gt out j=eO w lo hi j:=by
 intro q;induction q with
 | zero=>intro out _ j hj;omega
 | succ q ih=>
  intro out h j hj;rw[bK]at h;cases hq:bK n w lo hi q with
  | none=>rw[hq]at h;cases h
  | some o=>
   rw[hq]at h;have hlen:=(mg n w lo hi q o hq).1;simp only at h;split at h
   .cases h
   .obtain rfl:=Option.some.inj h;by_cases c:j<q
    .rw[jQ o _ j (by omega)];exact ih o hq j c
    .obtain rfl:j=o.length:=by omega
     rw[lY,hlen]
theorem ww(m:Nat)(f:Nat->Nat)(i:Nat)(h:i<m):gt ((List.range m).map f) i=f i:=by
 unfold gt;rw[List.getD_eq_getElem?_getD,List.getElem?_map,List.getElem?_range h];rfl
theorem Hs(n w:Nat)(lo hi:List Nat):∀m,(∀q,q<m->eO w lo hi q<n/\(0<q->eO w lo hi (q-1)<eO w lo hi q))->bK n w lo hi m=some ((List.range m).map (eO w lo hi)):=by
 intro m;induction m with
 | zero=>intro _;rfl
 | succ m ih=>
  intro h;rw[bK,ih (fun q hq=>h q (by omega))];simp only;obtain⟨h1,h2⟩:=h m (by omega);rw[if_neg,List.range_succ,List.map_append]
  .rfl
  .rintro(c | ⟨c1,c2⟩)
   .omega
   .rw[ww m _ _ (by omega)]at c2;have:=h2 c1;omega
def pI(n mm:Nat)(p:Nat->Nat):Prop:=∀q,q<mm->p q<n/\(0<q->p (q-1)<p q)
theorem ji(n mm kn vn hh:Nat)(LM:Int)(xs ys:List Nat)(h:kOk9 ⟨n,mm,kn,vn,LM,xs,hh,ys⟩=true):
  h_ n mm kn vn LM xs hh ys/\(kRow ⟨n,mm,kn,vn,LM,xs,hh,ys⟩).length=mm/\(∀q,q<mm->plq n mm xs hh ys q=gt (kRow ⟨n,mm,kn,vn,LM,xs,hh,ys⟩) q)/\br (kRow ⟨n,mm,kn,vn,LM,xs,hh,ys⟩) n:=by
 obtain⟨h1,h2⟩:=mU _ h;generalize kRow ⟨n,mm,kn,vn,LM,xs,hh,ys⟩=l at *;unfold dC at h1;simp only[Int.toNat_natCast]at h1;split at h1
 .rename_i c;obtain⟨⟨c1,c2,c3,c4⟩,c5,c6,c7,c8⟩:=c;have c7:(plc (bitAt ys) hh).length=mm:=by omega
  obtain⟨l1,l2⟩:=mg _ _ _ _ _ _ h1;rw[c7]at l1;have l3:=Ht _ _ _ _ _ _ h1;rw[c7]at l3;simp only[Int.toNat_natCast,aG,FA.mk.injEq,l1]at h2;obtain⟨-, -,e3,e4, -, -,e7, -⟩:=h2
  have F:h_ n mm kn vn LM xs hh ys:=by
   refine⟨by omega,by omega,c5,c6,c7,by omega,?_,?_⟩
   .unfold loN;by_cases c:wdF n mm=0
    .rw[if_pos c];rw[c]at e3;have:loP l 0=[]:=rfl;rw[this]at e3;simp at e3;omega
    .rw[if_neg c];rw[jm l _ (by omega)]at e3;omega
   .unfold hiN at e7;rw[l1]at e7;omega
  exact⟨F,l1,fun q hq=>by rw[l3 q hq,pf F q hq],l2⟩
 .cases h1
theorem uk(n mm:Nat)(xs:List Nat)(hh:Nat)(ys:List Nat)(q:Nat):plq n mm xs hh ys q/2^wdF n mm=gt (plc (bitAt ys) hh) q-q/\plq n mm xs hh ys q%2^wdF n mm=numAt (wdF n mm) xs q:=by
 unfold plq;have h:numAt (wdF n mm) xs q<2^wdF n mm:=fg _ _;have hp:=Nat.two_pow_pos (wdF n mm);rw[Nat.mul_comm,Nat.mul_add_div hp,Nat.mul_add_mod,Nat.mod_eq_of_lt h,Nat.div_eq_of_lt h];exact⟨rfl,rfl⟩
theorem vP(f:Nat->Bool)(n j:Nat):isIn (plc f n) j=(decide (j<n)&&f j):=by
 rw[Bool.eq_iff_iff,u9,uZ,Bool.and_eq_true,decide_eq_true_eq]
theorem Hc(n mm kn vn hh:Nat)(LM:Int)(xs ys:List Nat)(fx:aA xs)(fy:aA ys)(F:h_ n mm kn vn LM xs hh ys)(G:pI n mm (plq n mm xs hh ys)):kOk9 ⟨n,mm,kn,vn,LM,xs,hh,ys⟩=true:=by
 have hd:bK n (wdF n mm) ((List.range kn).map (numAt vn xs)) (plc (bitAt ys) hh) mm=some ((List.range mm).map (plq n mm xs hh ys)):=by
  rw[Hs _ _ _ _ mm]
  .congr 1;refine List.map_congr_left fun q hq=>?_;exact pf F q (List.mem_range.1 hq)
  .intro q hq;rw[pf F q hq];obtain⟨g1,g2⟩:=G q hq;refine⟨g1,fun h0=>?_⟩;rw[pf F (q-1) (by omega)];exact g2 h0
 have hrow:dC ⟨n,mm,kn,vn,LM,xs,hh,ys⟩=some ((List.range mm).map (plq n mm xs hh ys)):=by
  unfold dC;simp only[Int.toNat_natCast,F.on];rw[if_pos]
  .exact hd
  .refine⟨⟨by omega,by have:=F.hn;omega,by omega,by have:=F.hm;omega⟩,F.ik,F.ck,trivial,?_⟩;by_cases c:wdF n mm=0
   .exact .inl c
   .right;rw[List.length_map,List.length_range,F.hk];unfold loN;rw[if_neg c]
 unfold kOk9;rw[hrow];simp only[Int.toNat_natCast];rw[rA];obtain⟨l,hl⟩:∃l,l=(List.range mm).map (plq n mm xs hh ys):=⟨_,rfl⟩;have ll:l.length=mm:=by rw[hl];simp
 have lg:∀q,q<mm->gt l q=plq n mm xs hh ys q:=fun q hq=>by rw[hl];exact ww mm _ q hq
 rw[<-hl];have RS:=iK (bitAt ys) hh
 have e_hi:hiP l (wdF n mm)=plc (bitAt ys) hh:=by
  refine Bit.list_ext _ _ (by rw[lN,ll,F.on]) fun i hi=>?_;rw[lN,ll]at hi;rw[lX l _ i (by omega),lg i hi,(uk n mm xs hh ys i).1];have:=RS.step i 0 (by rw[F.on];omega)
  rw[Nat.zero_add]at this;omega
 obtain⟨v1,v2,v3,v4,v5,v6,v7,v8⟩:=dZ _ _ _ _ F.ik
 have e_lo:(loP l (wdF n mm)).length=kn:=by
  rw[F.hk];unfold loN;by_cases c:wdF n mm=0
  .rw[if_pos c,c];rfl
  .rw[if_neg c,jm l _ (by omega),ll]
 have e_xs:mkS (loP l (wdF n mm)) vn kn=xs:=by
  have hx:=kK LM xs fx v5;rw[hx];unfold mkS;rw[e_lo,show LM.toNat=kn*vn by rw[<-v4,<-Int.natCast_mul,Int.toNat_natCast]];refine da _ _ _ fun j hj=>?_;rw[decide_eq_true hj,Bool.true_and]
  have hw:¬wdF n mm=0:=fun c=>by
   have h0:kn=0:=by rw[F.hk];unfold loN;rw[if_pos c]
   rw[h0,Nat.zero_mul]at hj;omega
  have e1:vn=wdF n mm:=by rw[F.hv];omega
  have e2:kn=mm:=by rw[F.hk];unfold loN;rw[if_neg hw]
  have hv0:0<vn:=by omega
  have hq:j/vn<mm:=by rw[<-e2];exact(Nat.div_lt_iff_lt_mul hv0).2 hj
  have hmod:j%vn<vn:=Nat.mod_lt _ hv0;rw[oZ l _ _ (by omega) (by omega),lg _ hq,(uk n mm xs hh ys _).2,<-e1];unfold numAt
  rw[ie,decide_eq_true hmod,Bool.true_and,Nat.mul_comm,Nat.div_add_mod]
 unfold aG;simp only[FA.mk.injEq,ll];have hv:((max (wdF n mm) 1:Nat):Int)=(vn:Int):=by rw[F.hv]
 have hv2:max (wdF n mm) 1=vn:=F.hv.symm;refine⟨trivial,trivial,by rw[e_lo],hv.symm,?_,?_,?_,?_⟩
 .rw[e_lo,hv,v4]
 .rw[hv2,e_lo,e_xs]
 .unfold hiN;rw[ll,F.hh]
 .rw[e_hi];have e3:hiN l n (wdF n mm)=hh:=by unfold hiN;rw[ll,F.hh]
  rw[e3];have hy:=kK (hh:Int) ys fy F.ck;rw[Int.toNat_natCast]at hy;rw[da hh _ (bitAt ys) fun j hj=>by rw[vP,decide_eq_true hj,Bool.true_and]];exact hy
open Go.RowKit Go.Shelf Num Bit
attribute [local go_sem] Oper.semAt_some
theorem Wd.blk{w:World}{ao:Option Addr}{xs:List Nat}(h:Wd w ao xs){p:Addr}(hp:ao=some p)(h0:0<xs.length):p.block<w.heap.size:=by
 obtain⟨g,off,e,hg,_⟩:=h h0;rw[e]at hp;cases hp;exact hg
theorem aa.at{w:World}{b b':Nat}{cs:List Value}{T:TypeId}(h:aa w b cs T)(e:b=b'):aa w b' cs T:=e ▸ h
theorem aa.put{w:World}{b D:Nat}{cs:List Value}{T:TypeId}(h:aa w b cs T)(o:Obj)(e:b≠D):aa (w.putObj D o) b cs T:=(World.putObj_heap_other e).trans h
theorem Ge{l:List Nat}{n:Nat}(hr:br l n)(i q:Nat)(hq:q<l.length)(h1:∀j,j<q->gt l j<i)(h2:i<=gt l q):isIn l i=decide (gt l q=i):=by
 by_cases c:gt l q=i
 .rw[decide_eq_true c,gT];exact⟨q,hq,c⟩
 .rw[decide_eq_false c];refine Bool.eq_false_iff.2 fun h=>?_;obtain⟨j,hj,e⟩:=(gT l i).1 h;by_cases d:j<q
  .have:=h1 j d;omega
  .by_cases e2:j=q
   .subst e2;exact c e
   .have:=hr.lt (show q<j by omega) hj;omega
theorem Gd{l:List Nat}(i:Nat)(h1:∀j,j<l.length->gt l j<i):isIn l i=false:=by
 refine Bool.eq_false_iff.2 fun h=>?_;obtain⟨j,hj,e⟩:=(gT l i).1 h;have:=h1 j hj;omega
theorem GC(n mm kn vn hh:Nat)(LM:Int)(ao:Option Addr)(xs:List Nat)(cap:Nat)(qo:Option Addr)(ys:List Nat)(dap:Nat)(l:List Nat)(w:World)(F:h_ n mm kn vn LM xs hh ys)(hx:Wd w ao xs)(fx:aA xs)(hy:Wd w qo ys)(fy:aA ys)(hl:l.length=mm)(hg:∀q,q<mm->plq n mm xs hh ys q=gt l q)(hr:br l n)(i:Nat)(hi:i<=1048576):
  Qq 104 #[.agg #[.int .i64 (n:Nat),.int .i64 (mm:Nat),.int .i64 (kn:Nat),.int .i64 (vn:Nat),.int .i64 LM,.slice ao xs.length cap,.int .i64 (hh:Nat),.slice qo ys.length dap],.int .i64 i] w (.bool (isIn l i)):=by
 refine(callsIn_wide (n:=0)).1 (callsIn_of_wp_marks func104 rfl trivial ?_)
 simp only[ntmps104,List.size_toArray,List.length_cons,List.length_nil,Nat.reduceAdd,Nat.reduceSub,Array.replicate_succ,Array.replicate_zero,List.push_toArray,List.append_toArray,List.nil_append,List.cons_append]
 refine wpIn_wide.2 ?_
 have PC:Hid (∀w0,Calls prog 134 #[.agg #[.int .i64 (n:Nat),.int .i64 (mm:Nat),.int .i64 (kn:Nat),.int .i64 (vn:Nat),.int .i64 LM,.slice ao xs.length cap,.int .i64 (hh:Nat),.slice qo ys.length dap]] w0 fun e w'=>e=.returned (.func (.func 176) #[] #[.pointer (some ⟨w0.heap.size,0,none⟩),.pointer (some ⟨w0.heap.size+1,0,none⟩)])/\aa w' w0.heap.size [.int .i64 (n:Nat),.int .i64 (mm:Nat),.int .i64 (kn:Nat),.int .i64 (vn:Nat),.int .i64 LM,.slice ao xs.length cap,.int .i64 (hh:Nat),.slice qo ys.length dap] 61/\aa w' (w0.heap.size+1) [.int .i64 (wdF n mm:Nat)] 3/\w'.heap.size=w0.heap.size+2/\Below w0.heap.size w0 w'):=fun w0=>lZ n mm kn vn hh LM ao xs cap qo ys dap F.hn F.hm w0
 obtain⟨W1,hW1⟩:∃W1,W1=((w.alloc (.cells #[.int .i64 (n:Nat),.int .i64 (mm:Nat),.int .i64 (kn:Nat),.int .i64 (vn:Nat),.int .i64 LM,.slice ao xs.length cap,.int .i64 (hh:Nat),.slice qo ys.length dap] 61)).alloc (.cells #[.int .i64 (i:Nat)] 3)).alloc (.cells #[.bool false] 4):=⟨_,rfl⟩
 have z1:W1.heap.size=w.heap.size+3:=by rw[hW1];simp
 have b1:Below w.heap.size w W1:=by rw[hW1];exact(((below_alloc w _).alloc (by simp only[World.size_alloc];omega) _).alloc (by simp only[World.size_alloc];omega) _)
 have c0:aa W1 (w.heap.size+0) [.int .i64 (n:Nat),.int .i64 (mm:Nat),.int .i64 (kn:Nat),.int .i64 (vn:Nat),.int .i64 LM,.slice ao xs.length cap,.int .i64 (hh:Nat),.slice qo ys.length dap] 61:=by rw[hW1];exact((((aa.new _ _ _).alloc _).alloc _)).at (by simp)
 have c1:aa W1 (w.heap.size+1) [.int .i64 (i:Nat)] 3:=by rw[hW1];exact(((aa.new _ _ _).alloc _)).at (by simp)
 have c2:aa W1 (w.heap.size+2) [.bool false] 4:=by rw[hW1];exact((aa.new _ _ _)).at (by simp)
 go_wp2_with fail;rw[<-hW1];clear hW1;refine(PC.out _).mono ?_;rintro e w' ⟨rfl,cx,cw,z2,b2⟩;rw[z1]at cx cw z2;rw[z1];have b3:Below w.heap.size w w':=bg b1 b2;replace c0:=c0.kept b2
 replace c1:=c1.kept b2;replace c2:=c2.kept b2;go_wp2;clear b1 b2 PC
 have G:=(lp n mm kn vn hh LM ao xs cap qo ys dap (fun b=>b≠w.heap.size+2/\b≠w'.heap.size+1) w' (w.heap.size+3) (w.heap.size+4) F (hx.keep b3) fx (hy.keep b3) fy cx cw (by omega) (by omega) (fun p hp h0=>by have:=hx.blk hp h0;omega) (fun p hp h0=>by have:=hy.blk hp h0;omega)).enc (enc':=fun q=>#[.int .i64 q,.int .i64 (gt l q:Nat)]) (fun q hq=>by rw[hg q hq])
 refine jg (gf:=176) (lb:=#[.pointer (some ⟨w.heap.size+3,0,none⟩),.pointer (some ⟨w.heap.size+4,0,none⟩)]) (K:=fun b=>b≠w.heap.size+2) rfl (enters_of func176 (by kernel_rfl) rfl) (fun _=>rfl) G (fun b hb=>by omega)
  (fun q Wc=>aE (fun b=>b≠w.heap.size+2) w' Wc/\aa Wc (w.heap.size+2) [.bool false] 4/\∀j,j<q->gt l j<i) (fun q Wc=>aE (fun b=>b≠w.heap.size+2) w' Wc/\aa Wc (w.heap.size+2) [.bool (isIn l i)] 4) (fun q A B h hb=>⟨h.1.more hb (Nat.le_refl _),h.2.1.keep hb (by omega),h.2.2⟩) (fun q A B h hb=>⟨h.1.more hb (Nat.le_refl _),h.2.keep hb (by omega)⟩) ⟨aE.refl _ _,c2,fun j hj=>absurd hj (by omega)⟩
  (fun q=>{ tmps:=#[.agg #[.int .i64 (n:Nat),.int .i64 (mm:Nat),.int .i64 (kn:Nat),.int .i64 (vn:Nat),.int .i64 LM,.slice ao xs.length cap,.int .i64 (hh:Nat),.slice qo ys.length dap],.int .i64 (i:Nat),.pointer (some ⟨w.heap.size,0,none⟩),.pointer (some ⟨w.heap.size+1,0,none⟩),.pointer (some ⟨w.heap.size+2,0,none⟩),undef,.int .i64 (gt l q:Nat),.agg #[.int .i64 (n:Nat),.int .i64 (mm:Nat),.int .i64 (kn:Nat),.int .i64 (vn:Nat),.int .i64 LM,.slice ao xs.length cap,.int .i64 (hh:Nat),.slice qo ys.length dap],.func (.func 176) #[] #[.pointer (some ⟨w.heap.size+3,0,none⟩),.pointer (some ⟨w.heap.size+4,0,none⟩)],.int .i64 (q:Nat),.int .i64 (gt l q:Nat),undef,undef,undef,undef,undef,undef],defers:=[] }) ?assign ?body ?done ?stop
 case assign=>
  intro l1 q Wc K1 hK1;gi_wp2;exact hK1
 case body=>
  rintro l1 q Wc hq ⟨hk,cR,hlt⟩ hz;have cI:=(hk.cel c1 (by omega)).cell 0 rfl;have r0:=cR.cell 0 rfl;have r1:=cR.frozen 0;clear G;have HV:=aZ (Ge hr i q (by omega) hlt);by_cases hge:i<=gt l q
  .have hge2:(i:Int)<=(gt l q:Int):=by omega
   have HX:Hid (aE (fun b=>b≠w.heap.size+2) Wc (Wc.setCell ⟨w.heap.size+2,0,none⟩ (.bool (isIn l i)))/\aE (fun b=>b≠w.heap.size+2) w' (Wc.setCell ⟨w.heap.size+2,0,none⟩ (.bool (isIn l i)))/\aa (Wc.setCell ⟨w.heap.size+2,0,none⟩ (.bool (isIn l i))) (w.heap.size+2) [.bool (isIn l i)] 4):=⟨(aE.refl _ _).setCell (fun h=>h rfl) _,hk.setCell (fun h=>h rfl) _,cR.set 0 _⟩
   rw[HV.out hge]at HX;rw[show decide (gt l q=i)=((gt l q:Int)==(i:Int))by rw[Bool.eq_iff_iff];simp;omega]at HX;gi_wp2;refine⟨HX.out.1,HX.out.2.1,?_⟩
   rw[HV.out hge,show decide (gt l q=i)=((gt l q:Int)==(i:Int))by rw[Bool.eq_iff_iff];simp;omega];exact HX.out.2.2
  .have hge2:¬(i:Int)<=(gt l q:Int):=by omega
   gi_wp2
   exact⟨aE.refl _ _,hk,cR,fun j hj=>by
    by_cases e:j=q
    .subst e;omega
    .exact hlt j (by omega)⟩
 case done=>
  rintro D Wc hD ⟨hk,cR,hlt⟩ hd;have r0:=cR.cell 0 rfl;have r1:=cR.frozen 0;have hB:=aZ ((hk.below (B:=w.heap.size) (fun x h=>by omega) (by omega)))
  have HE:=aZ (Gd (l:=l) i (fun j hj=>hlt j (by omega)));have hb:=aZ (hB.out.setCell (p:=⟨w.heap.size+2,0,none⟩) (show w.heap.size<=w.heap.size+2 by omega) (.bool false))
  have cS:=aZ (cR.set 0 (.bool false));have hd2:=aZ ((Below.heap_setCell Wc ⟨w.heap.size+2,0,none⟩ (.bool false) D (show D≠w.heap.size+2 by omega)).trans hd);clear hd hk;go_wp2
  have cR2:=(cS.out.put (.deferred none) (show w.heap.size+2≠D by omega)).cell 0 rfl
  exact gQ hd2.out (v:=.bool (isIn l i)) (by rw[HE.out];simp[results,Tryz.results104,go_sem,cR2]) ⟨rfl,b3.trans (hb.out.trans (eV (by omega) _))⟩
 case stop=>
  rintro D q Wc hD hq ⟨hk,cR⟩ hd;go_wp2;have cR2:=(cR.put (.deferred none) (show w.heap.size+2≠D by omega)).cell 0 rfl
  exact gQ hd (v:=.bool (isIn l i)) (by simp[results,Tryz.results104,go_sem,cR2]) ⟨rfl,b3.trans ((hk.below (fun x h=>by omega) (by omega)).trans (eV (by omega) _))⟩
structure pJ (l:List Nat) (i c:Nat):Prop where
 le:c<=l.length
 lo:∀j,j<c->gt l j<i
 hi:∀j,c<=j->j<l.length->i<=gt l j
theorem pJ.eq{l:List Nat}{i c q:Nat}(h:pJ l i c)(hq:q<=l.length)(h1:∀j,j<q->gt l j<i)(h2:q<l.length->i<=gt l q):c=q:=by
 by_cases a:c<q
 .have:=h1 c a;have:=h.hi c (Nat.le_refl _) (by omega);omega
 .by_cases b:q<c
  .have:=h.lo q b;have:=h.le;have:=h2 (by omega);omega
  .omega
theorem Gy(n mm kn vn hh:Nat)(LM:Int)(ao:Option Addr)(xs:List Nat)(cap:Nat)(qo:Option Addr)(ys:List Nat)(dap:Nat)(l:List Nat)(w:World)(F:h_ n mm kn vn LM xs hh ys)(hx:Wd w ao xs)(fx:aA xs)(hy:Wd w qo ys)(fy:aA ys)(hl:l.length=mm)(hg:∀q,q<mm->plq n mm xs hh ys q=gt l q)(hr:br l n)(i:Nat)(hi:i<=1048576)(c:Nat)(hc:pJ l i c):
  Qq 129 #[.agg #[.int .i64 (n:Nat),.int .i64 (mm:Nat),.int .i64 (kn:Nat),.int .i64 (vn:Nat),.int .i64 LM,.slice ao xs.length cap,.int .i64 (hh:Nat),.slice qo ys.length dap],.int .i64 i] w (.int .i64 c):=by
 refine(callsIn_wide (n:=0)).1 (callsIn_of_wp_marks func129 rfl trivial ?_)
 simp only[ntmps129,List.size_toArray,List.length_cons,List.length_nil,Nat.reduceAdd,Nat.reduceSub,Array.replicate_succ,Array.replicate_zero,List.push_toArray,List.append_toArray,List.nil_append,List.cons_append]
 refine wpIn_wide.2 ?_
 have PC:Hid (∀w0,Calls prog 134 #[.agg #[.int .i64 (n:Nat),.int .i64 (mm:Nat),.int .i64 (kn:Nat),.int .i64 (vn:Nat),.int .i64 LM,.slice ao xs.length cap,.int .i64 (hh:Nat),.slice qo ys.length dap]] w0 fun e w'=>e=.returned (.func (.func 176) #[] #[.pointer (some ⟨w0.heap.size,0,none⟩),.pointer (some ⟨w0.heap.size+1,0,none⟩)])/\aa w' w0.heap.size [.int .i64 (n:Nat),.int .i64 (mm:Nat),.int .i64 (kn:Nat),.int .i64 (vn:Nat),.int .i64 LM,.slice ao xs.length cap,.int .i64 (hh:Nat),.slice qo ys.length dap] 61/\aa w' (w0.heap.size+1) [.int .i64 (wdF n mm:Nat)] 3/\w'.heap.size=w0.heap.size+2/\Below w0.heap.size w0 w'):=fun w0=>lZ n mm kn vn hh LM ao xs cap qo ys dap F.hn F.hm w0
 obtain⟨W1,hW1⟩:∃W1,W1=((w.alloc (.cells #[.int .i64 (n:Nat),.int .i64 (mm:Nat),.int .i64 (kn:Nat),.int .i64 (vn:Nat),.int .i64 LM,.slice ao xs.length cap,.int .i64 (hh:Nat),.slice qo ys.length dap] 61)).alloc (.cells #[.int .i64 (i:Nat)] 3)).alloc (.cells #[.int .i64 0] 3):=⟨_,rfl⟩
 have z1:W1.heap.size=w.heap.size+3:=by rw[hW1];simp
 have b1:Below w.heap.size w W1:=by rw[hW1];exact(((below_alloc w _).alloc (by simp only[World.size_alloc];omega) _).alloc (by simp only[World.size_alloc];omega) _)
 have c0:aa W1 (w.heap.size+0) [.int .i64 (n:Nat),.int .i64 (mm:Nat),.int .i64 (kn:Nat),.int .i64 (vn:Nat),.int .i64 LM,.slice ao xs.length cap,.int .i64 (hh:Nat),.slice qo ys.length dap] 61:=by rw[hW1];exact((((aa.new _ _ _).alloc _).alloc _)).at (by simp)
 have c1:aa W1 (w.heap.size+1) [.int .i64 (i:Nat)] 3:=by rw[hW1];exact(((aa.new _ _ _).alloc _)).at (by simp)
 have c2:aa W1 (w.heap.size+2) [.int .i64 0] 3:=by rw[hW1];exact((aa.new _ _ _)).at (by simp)
 go_wp2_with fail;rw[<-hW1];clear hW1;refine(PC.out _).mono ?_;rintro e w' ⟨rfl,cx,cw,z2,b2⟩;rw[z1]at cx cw z2;rw[z1];have b3:Below w.heap.size w w':=bg b1 b2;replace c0:=c0.kept b2
 replace c1:=c1.kept b2;replace c2:=c2.kept b2;go_wp2;clear b1 b2 PC
 have G:=(lp n mm kn vn hh LM ao xs cap qo ys dap (fun b=>b≠w.heap.size+2/\b≠w'.heap.size+1) w' (w.heap.size+3) (w.heap.size+4) F (hx.keep b3) fx (hy.keep b3) fy cx cw (by omega) (by omega) (fun p hp h0=>by have:=hx.blk hp h0;omega) (fun p hp h0=>by have:=hy.blk hp h0;omega)).enc (enc':=fun q=>#[.int .i64 q,.int .i64 (gt l q:Nat)]) (fun q hq=>by rw[hg q hq])
 refine jg (gf:=176) (lb:=#[.pointer (some ⟨w.heap.size+3,0,none⟩),.pointer (some ⟨w.heap.size+4,0,none⟩)]) (K:=fun b=>b≠w.heap.size+2) rfl (enters_of func176 (by kernel_rfl) rfl) (fun _=>rfl) G (fun b hb=>by omega)
  (fun q Wc=>aE (fun b=>b≠w.heap.size+2) w' Wc/\aa Wc (w.heap.size+2) [.int .i64 0] 3/\∀j,j<q->gt l j<i) (fun q Wc=>aE (fun b=>b≠w.heap.size+2) w' Wc/\aa Wc (w.heap.size+2) [.int .i64 (c:Nat)] 3) (fun q A B h hb=>⟨h.1.more hb (Nat.le_refl _),h.2.1.keep hb (by omega),h.2.2⟩) (fun q A B h hb=>⟨h.1.more hb (Nat.le_refl _),h.2.keep hb (by omega)⟩) ⟨aE.refl _ _,c2,fun j hj=>absurd hj (by omega)⟩
  (fun q=>{ tmps:=#[.agg #[.int .i64 (n:Nat),.int .i64 (mm:Nat),.int .i64 (kn:Nat),.int .i64 (vn:Nat),.int .i64 LM,.slice ao xs.length cap,.int .i64 (hh:Nat),.slice qo ys.length dap],.int .i64 (i:Nat),.pointer (some ⟨w.heap.size,0,none⟩),.pointer (some ⟨w.heap.size+1,0,none⟩),.pointer (some ⟨w.heap.size+2,0,none⟩),.int .i64 (q:Nat),.int .i64 (gt l q:Nat),.agg #[.int .i64 (n:Nat),.int .i64 (mm:Nat),.int .i64 (kn:Nat),.int .i64 (vn:Nat),.int .i64 LM,.slice ao xs.length cap,.int .i64 (hh:Nat),.slice qo ys.length dap],.func (.func 176) #[] #[.pointer (some ⟨w.heap.size+3,0,none⟩),.pointer (some ⟨w.heap.size+4,0,none⟩)],.int .i64 (q:Nat),.int .i64 (gt l q:Nat),undef,undef,undef,undef,undef,undef],defers:=[] }) ?assign ?body ?done ?stop
 case assign=>
  intro l1 q Wc K1 hK1;gi_wp2;exact hK1
 case body=>
  rintro l1 q Wc hq ⟨hk,cR,hlt⟩ hz;have cI:=(hk.cel c1 (by omega)).cell 0 rfl;have r0:=cR.cell 0 rfl;have r1:=cR.frozen 0;clear G;by_cases hge:i<=gt l q
  .have hge2:(i:Int)<=(gt l q:Int):=by omega
   obtain rfl:c=q:=hc.eq (by omega) hlt (fun _=>hge)
   have HX:Hid (aE (fun b=>b≠w.heap.size+2) Wc (Wc.setCell ⟨w.heap.size+2,0,none⟩ (.int .i64 (c:Nat)))/\aE (fun b=>b≠w.heap.size+2) w' (Wc.setCell ⟨w.heap.size+2,0,none⟩ (.int .i64 (c:Nat)))/\aa (Wc.setCell ⟨w.heap.size+2,0,none⟩ (.int .i64 (c:Nat))) (w.heap.size+2) [.int .i64 (c:Nat)] 3):=⟨(aE.refl _ _).setCell (fun h=>h rfl) _,hk.setCell (fun h=>h rfl) _,cR.set 0 _⟩
   gi_wp2;exact HX.out
  .have hge2:¬(i:Int)<=(gt l q:Int):=by omega
   gi_wp2
   exact⟨aE.refl _ _,hk,cR,fun j hj=>by
    by_cases e:j=q
    .subst e;omega
    .exact hlt j (by omega)⟩
 case done=>
  rintro D Wc hD ⟨hk,cR,hlt⟩ hd;have r0:=cR.cell 0 rfl;have r1:=cR.frozen 0;have hB:=aZ ((hk.below (B:=w.heap.size) (fun x h=>by omega) (by omega)))
  have HE:=aZ (hc.eq (q:=mm) (by omega) hlt (fun h=>absurd h (by omega)));have m1:=(hk.cel c0 (by omega)).cell 1 rfl;rw[Nat.add_zero]at m1
  have hb:=aZ (hB.out.setCell (p:=⟨w.heap.size+2,0,none⟩) (show w.heap.size<=w.heap.size+2 by omega) (.int .i64 (mm:Nat)));have cS:=aZ (cR.set 0 (.int .i64 (mm:Nat)))
  have hd2:=aZ ((Below.heap_setCell Wc ⟨w.heap.size+2,0,none⟩ (.int .i64 (mm:Nat)) D (show D≠w.heap.size+2 by omega)).trans hd);clear hd hk;go_wp2
  have cR2:=(cS.out.put (.deferred none) (show w.heap.size+2≠D by omega)).cell 0 rfl
  exact gQ hd2.out (v:=.int .i64 (mm:Nat)) (by simp[results,Tryz.results129,go_sem,cR2]) ⟨by rw[HE.out],b3.trans (hb.out.trans (eV (by omega) _))⟩
 case stop=>
  rintro D q Wc hD hq ⟨hk,cR⟩ hd;go_wp2;have cR2:=(cR.put (.deferred none) (show w.heap.size+2≠D by omega)).cell 0 rfl
  exact gQ hd (v:=.int .i64 (c:Nat)) (by simp[results,Tryz.results129,go_sem,cR2]) ⟨rfl,b3.trans ((hk.below (fun x h=>by omega) (by omega)).trans (eV (by omega) _))⟩
structure ms (l:List Nat) (k c:Nat):Prop where
 le:c<=l.length
 lo:∀j,j<c->gt l j-j<=k
 hi:c<l.length->k<gt l c-c
theorem ms.eq{l:List Nat}{k c q:Nat}(h:ms l k c)(hq:q<=l.length)(h1:∀j,j<q->gt l j-j<=k)(h2:q<l.length->k<gt l q-q):c=q:=by
 by_cases a:c<q
 .have:=h1 c a;have:=h.hi (by omega);omega
 .by_cases b:q<c
  .have:=h.lo q b;have:=h.le;have:=h2 (by omega);omega
  .omega
theorem Gw(n mm kn vn hh:Nat)(LM:Int)(ao:Option Addr)(xs:List Nat)(cap:Nat)(qo:Option Addr)(ys:List Nat)(dap:Nat)(l:List Nat)(w:World)(F:h_ n mm kn vn LM xs hh ys)(hx:Wd w ao xs)(fx:aA xs)(hy:Wd w qo ys)(fy:aA ys)(hl:l.length=mm)(hg:∀q,q<mm->plq n mm xs hh ys q=gt l q)(hr:br l n)(k:Nat)(hk0:k<mm):
  Qq 173 #[.agg #[.int .i64 (n:Nat),.int .i64 (mm:Nat),.int .i64 (kn:Nat),.int .i64 (vn:Nat),.int .i64 LM,.slice ao xs.length cap,.int .i64 (hh:Nat),.slice qo ys.length dap],.bool true,.int .i64 k] w (.int .i64 (gt l k:Nat)):=by
 have nl:=F.hn;have ml:=F.hm;refine(callsIn_wide (n:=0)).1 (callsIn_of_wp_marks func173 rfl trivial ?_)
 simp only[ntmps173,List.size_toArray,List.length_cons,List.length_nil,Nat.reduceAdd,Nat.reduceSub,Array.replicate_succ,Array.replicate_zero,List.push_toArray,List.append_toArray,List.nil_append,List.cons_append]
 refine wpIn_wide.2 ?_
 have PC:Hid (∀w0,Calls prog 134 #[.agg #[.int .i64 (n:Nat),.int .i64 (mm:Nat),.int .i64 (kn:Nat),.int .i64 (vn:Nat),.int .i64 LM,.slice ao xs.length cap,.int .i64 (hh:Nat),.slice qo ys.length dap]] w0 fun e w'=>e=.returned (.func (.func 176) #[] #[.pointer (some ⟨w0.heap.size,0,none⟩),.pointer (some ⟨w0.heap.size+1,0,none⟩)])/\aa w' w0.heap.size [.int .i64 (n:Nat),.int .i64 (mm:Nat),.int .i64 (kn:Nat),.int .i64 (vn:Nat),.int .i64 LM,.slice ao xs.length cap,.int .i64 (hh:Nat),.slice qo ys.length dap] 61/\aa w' (w0.heap.size+1) [.int .i64 (wdF n mm:Nat)] 3/\w'.heap.size=w0.heap.size+2/\Below w0.heap.size w0 w'):=fun w0=>lZ n mm kn vn hh LM ao xs cap qo ys dap F.hn F.hm w0
 obtain⟨W1,hW1⟩:∃W1,W1=(((w.alloc (.cells #[.int .i64 (n:Nat),.int .i64 (mm:Nat),.int .i64 (kn:Nat),.int .i64 (vn:Nat),.int .i64 LM,.slice ao xs.length cap,.int .i64 (hh:Nat),.slice qo ys.length dap] 61)).alloc (.cells #[.bool true] 4)).alloc (.cells #[.int .i64 (k:Nat)] 3)).alloc (.cells #[.int .i64 0] 3):=⟨_,rfl⟩
 have z1:W1.heap.size=w.heap.size+4:=by rw[hW1];simp
 have b1:Below w.heap.size w W1:=by rw[hW1];exact((((below_alloc w _).alloc (by simp only[World.size_alloc];omega) _).alloc (by simp only[World.size_alloc];omega) _).alloc (by simp only[World.size_alloc];omega) _)
 have c0:aa W1 (w.heap.size+0) [.int .i64 (n:Nat),.int .i64 (mm:Nat),.int .i64 (kn:Nat),.int .i64 (vn:Nat),.int .i64 LM,.slice ao xs.length cap,.int .i64 (hh:Nat),.slice qo ys.length dap] 61:=by rw[hW1];exact(((((aa.new _ _ _).alloc _).alloc _).alloc _)).at (by simp)
 have c1:aa W1 (w.heap.size+1) [.bool true] 4:=by rw[hW1];exact((((aa.new _ _ _).alloc _).alloc _)).at (by simp)
 have c2:aa W1 (w.heap.size+2) [.int .i64 (k:Nat)] 3:=by rw[hW1];exact(((aa.new _ _ _).alloc _)).at (by simp)
 have c3:aa W1 (w.heap.size+3) [.int .i64 0] 3:=by rw[hW1];exact((aa.new _ _ _)).at (by simp)
 go_wp2_with fail;rw[<-hW1];clear hW1;refine(PC.out _).mono ?_;rintro e w' ⟨rfl,cx,cw,z2,b2⟩;rw[z1]at cx cw z2;rw[z1];have b3:Below w.heap.size w w':=bg b1 b2;replace c0:=c0.kept b2
 replace c1:=c1.kept b2;replace c2:=c2.kept b2;replace c3:=c3.kept b2;go_wp2;clear b1 b2 PC
 have G:=(lp n mm kn vn hh LM ao xs cap qo ys dap (fun b=>b≠w.heap.size+3/\b≠w'.heap.size+1) w' (w.heap.size+4) (w.heap.size+5) F (hx.keep b3) fx (hy.keep b3) fy cx cw (by omega) (by omega) (fun p hp h0=>by have:=hx.blk hp h0;omega) (fun p hp h0=>by have:=hy.blk hp h0;omega)).enc (enc':=fun q=>#[.int .i64 q,.int .i64 (gt l q:Nat)]) (fun q hq=>by rw[hg q hq])
 refine jg (gf:=176) (lb:=#[.pointer (some ⟨w.heap.size+4,0,none⟩),.pointer (some ⟨w.heap.size+5,0,none⟩)]) (K:=fun b=>b≠w.heap.size+3) rfl (enters_of func176 (by kernel_rfl) rfl) (fun _=>rfl) G (fun b hb=>by omega)
  (fun q Wc=>aE (fun b=>b≠w.heap.size+3) w' Wc/\aa Wc (w.heap.size+3) [.int .i64 0] 3/\(q<=k)) (fun q Wc=>aE (fun b=>b≠w.heap.size+3) w' Wc/\aa Wc (w.heap.size+3) [.int .i64 (gt l k:Nat)] 3) (fun q A B h hb=>⟨h.1.more hb (Nat.le_refl _),h.2.1.keep hb (by omega),h.2.2⟩) (fun q A B h hb=>⟨h.1.more hb (Nat.le_refl _),h.2.keep hb (by omega)⟩) ⟨aE.refl _ _,c3,by omega⟩
  (fun q=>{ tmps:=#[.agg #[.int .i64 (n:Nat),.int .i64 (mm:Nat),.int .i64 (kn:Nat),.int .i64 (vn:Nat),.int .i64 LM,.slice ao xs.length cap,.int .i64 (hh:Nat),.slice qo ys.length dap],.bool true,.int .i64 (k:Nat),.pointer (some ⟨w.heap.size,0,none⟩),.pointer (some ⟨w.heap.size+1,0,none⟩),.pointer (some ⟨w.heap.size+2,0,none⟩),.pointer (some ⟨w.heap.size+3,0,none⟩),.int .i64 (q:Nat),.int .i64 (gt l q:Nat),.agg #[.int .i64 (n:Nat),.int .i64 (mm:Nat),.int .i64 (kn:Nat),.int .i64 (vn:Nat),.int .i64 LM,.slice ao xs.length cap,.int .i64 (hh:Nat),.slice qo ys.length dap],.func (.func 176) #[] #[.pointer (some ⟨w.heap.size+4,0,none⟩),.pointer (some ⟨w.heap.size+5,0,none⟩)],.int .i64 (q:Nat),.int .i64 (gt l q:Nat),undef,undef,undef,undef,undef,undef,undef,undef,undef,undef,undef,undef,undef,undef,undef,undef,undef,undef,undef,undef,undef,undef,undef],defers:=[] }) ?assign ?body ?done ?stop
 case assign=>
  intro l1 q Wc K1 hK1;gi_wp2;exact hK1
 case body=>
  rintro l1 q Wc hq ⟨hk,cR,hlt⟩ hz;have cI:=(hk.cel c1 (by omega)).cell 0 rfl;have cJ:=(hk.cel c2 (by omega)).cell 0 rfl;have r0:=cR.cell 0 rfl;have r1:=cR.frozen 0;clear G;by_cases hge:q=k
  .have hge2:((q:Int)==(k:Int))=true:=by simp;omega
   obtain rfl:=hge
   have HX:Hid (aE (fun b=>b≠w.heap.size+3) Wc (Wc.setCell ⟨w.heap.size+3,0,none⟩ (.int .i64 (gt l q:Nat)))/\aE (fun b=>b≠w.heap.size+3) w' (Wc.setCell ⟨w.heap.size+3,0,none⟩ (.int .i64 (gt l q:Nat)))/\aa (Wc.setCell ⟨w.heap.size+3,0,none⟩ (.int .i64 (gt l q:Nat))) (w.heap.size+3) [.int .i64 (gt l q:Nat)] 3):=⟨(aE.refl _ _).setCell (fun h=>h rfl) _,hk.setCell (fun h=>h rfl) _,cR.set 0 _⟩
   gi_wp2;exact HX.out
  .have hge2:((q:Int)==(k:Int))=false:=by simp;omega
   gi_wp2;exact⟨aE.refl _ _,hk,cR,by omega⟩
 case done=>
  rintro D Wc hD ⟨hk,cR,hlt⟩ hd;exact absurd hk0 (by omega)
 case stop=>
  rintro D q Wc hD hq ⟨hk,cR⟩ hd;go_wp2;have cR2:=(cR.put (.deferred none) (show w.heap.size+3≠D by omega)).cell 0 rfl
  exact gQ hd (v:=.int .i64 (gt l k:Nat)) (by simp[results,Tryz.results173,go_sem,cR2]) ⟨rfl,b3.trans ((hk.below (fun x h=>by omega) (by omega)).trans (eV (by omega) _))⟩
theorem Gx(n mm kn vn hh:Nat)(LM:Int)(ao:Option Addr)(xs:List Nat)(cap:Nat)(qo:Option Addr)(ys:List Nat)(dap:Nat)(l:List Nat)(w:World)(F:h_ n mm kn vn LM xs hh ys)(hx:Wd w ao xs)(fx:aA xs)(hy:Wd w qo ys)(fy:aA ys)(hl:l.length=mm)(hg:∀q,q<mm->plq n mm xs hh ys q=gt l q)(hr:br l n)(k:Nat)(hkn:k<=1048576)(c:Nat)(hc:ms l k c):
  Qq 173 #[.agg #[.int .i64 (n:Nat),.int .i64 (mm:Nat),.int .i64 (kn:Nat),.int .i64 (vn:Nat),.int .i64 LM,.slice ao xs.length cap,.int .i64 (hh:Nat),.slice qo ys.length dap],.bool false,.int .i64 k] w (.int .i64 ((k+c:Nat):Int)):=by
 have nl:=F.hn;have ml:=F.hm;refine(callsIn_wide (n:=0)).1 (callsIn_of_wp_marks func173 rfl trivial ?_)
 simp only[ntmps173,List.size_toArray,List.length_cons,List.length_nil,Nat.reduceAdd,Nat.reduceSub,Array.replicate_succ,Array.replicate_zero,List.push_toArray,List.append_toArray,List.nil_append,List.cons_append]
 refine wpIn_wide.2 ?_
 have PC:Hid (∀w0,Calls prog 134 #[.agg #[.int .i64 (n:Nat),.int .i64 (mm:Nat),.int .i64 (kn:Nat),.int .i64 (vn:Nat),.int .i64 LM,.slice ao xs.length cap,.int .i64 (hh:Nat),.slice qo ys.length dap]] w0 fun e w'=>e=.returned (.func (.func 176) #[] #[.pointer (some ⟨w0.heap.size,0,none⟩),.pointer (some ⟨w0.heap.size+1,0,none⟩)])/\aa w' w0.heap.size [.int .i64 (n:Nat),.int .i64 (mm:Nat),.int .i64 (kn:Nat),.int .i64 (vn:Nat),.int .i64 LM,.slice ao xs.length cap,.int .i64 (hh:Nat),.slice qo ys.length dap] 61/\aa w' (w0.heap.size+1) [.int .i64 (wdF n mm:Nat)] 3/\w'.heap.size=w0.heap.size+2/\Below w0.heap.size w0 w'):=fun w0=>lZ n mm kn vn hh LM ao xs cap qo ys dap F.hn F.hm w0
 obtain⟨W1,hW1⟩:∃W1,W1=(((w.alloc (.cells #[.int .i64 (n:Nat),.int .i64 (mm:Nat),.int .i64 (kn:Nat),.int .i64 (vn:Nat),.int .i64 LM,.slice ao xs.length cap,.int .i64 (hh:Nat),.slice qo ys.length dap] 61)).alloc (.cells #[.bool false] 4)).alloc (.cells #[.int .i64 (k:Nat)] 3)).alloc (.cells #[.int .i64 0] 3):=⟨_,rfl⟩
 have z1:W1.heap.size=w.heap.size+4:=by rw[hW1];simp
 have b1:Below w.heap.size w W1:=by rw[hW1];exact((((below_alloc w _).alloc (by simp only[World.size_alloc];omega) _).alloc (by simp only[World.size_alloc];omega) _).alloc (by simp only[World.size_alloc];omega) _)
 have c0:aa W1 (w.heap.size+0) [.int .i64 (n:Nat),.int .i64 (mm:Nat),.int .i64 (kn:Nat),.int .i64 (vn:Nat),.int .i64 LM,.slice ao xs.length cap,.int .i64 (hh:Nat),.slice qo ys.length dap] 61:=by rw[hW1];exact(((((aa.new _ _ _).alloc _).alloc _).alloc _)).at (by simp)
 have c1:aa W1 (w.heap.size+1) [.bool false] 4:=by rw[hW1];exact((((aa.new _ _ _).alloc _).alloc _)).at (by simp)
 have c2:aa W1 (w.heap.size+2) [.int .i64 (k:Nat)] 3:=by rw[hW1];exact(((aa.new _ _ _).alloc _)).at (by simp)
 have c3:aa W1 (w.heap.size+3) [.int .i64 0] 3:=by rw[hW1];exact((aa.new _ _ _)).at (by simp)
 go_wp2_with fail;rw[<-hW1];clear hW1;refine(PC.out _).mono ?_;rintro e w' ⟨rfl,cx,cw,z2,b2⟩;rw[z1]at cx cw z2;rw[z1];have b3:Below w.heap.size w w':=bg b1 b2;replace c0:=c0.kept b2
 replace c1:=c1.kept b2;replace c2:=c2.kept b2;replace c3:=c3.kept b2;go_wp2;clear b1 b2 PC
 have G:=(lp n mm kn vn hh LM ao xs cap qo ys dap (fun b=>b≠w.heap.size+3/\b≠w'.heap.size+1) w' (w.heap.size+4) (w.heap.size+5) F (hx.keep b3) fx (hy.keep b3) fy cx cw (by omega) (by omega) (fun p hp h0=>by have:=hx.blk hp h0;omega) (fun p hp h0=>by have:=hy.blk hp h0;omega)).enc (enc':=fun q=>#[.int .i64 q,.int .i64 (gt l q:Nat)]) (fun q hq=>by rw[hg q hq])
 refine jg (gf:=176) (lb:=#[.pointer (some ⟨w.heap.size+4,0,none⟩),.pointer (some ⟨w.heap.size+5,0,none⟩)]) (K:=fun b=>b≠w.heap.size+3) rfl (enters_of func176 (by kernel_rfl) rfl) (fun _=>rfl) G (fun b hb=>by omega)
  (fun q Wc=>aE (fun b=>b≠w.heap.size+3) w' Wc/\aa Wc (w.heap.size+3) [.int .i64 0] 3/\(∀j,j<q->gt l j-j<=k)) (fun q Wc=>aE (fun b=>b≠w.heap.size+3) w' Wc/\aa Wc (w.heap.size+3) [.int .i64 ((k+c:Nat):Int)] 3) (fun q A B h hb=>⟨h.1.more hb (Nat.le_refl _),h.2.1.keep hb (by omega),h.2.2⟩) (fun q A B h hb=>⟨h.1.more hb (Nat.le_refl _),h.2.keep hb (by omega)⟩) ⟨aE.refl _ _,c3,fun j hj=>absurd hj (by omega)⟩
  (fun q=>{ tmps:=#[.agg #[.int .i64 (n:Nat),.int .i64 (mm:Nat),.int .i64 (kn:Nat),.int .i64 (vn:Nat),.int .i64 LM,.slice ao xs.length cap,.int .i64 (hh:Nat),.slice qo ys.length dap],.bool false,.int .i64 (k:Nat),.pointer (some ⟨w.heap.size,0,none⟩),.pointer (some ⟨w.heap.size+1,0,none⟩),.pointer (some ⟨w.heap.size+2,0,none⟩),.pointer (some ⟨w.heap.size+3,0,none⟩),.int .i64 (q:Nat),.int .i64 (gt l q:Nat),.agg #[.int .i64 (n:Nat),.int .i64 (mm:Nat),.int .i64 (kn:Nat),.int .i64 (vn:Nat),.int .i64 LM,.slice ao xs.length cap,.int .i64 (hh:Nat),.slice qo ys.length dap],.func (.func 176) #[] #[.pointer (some ⟨w.heap.size+4,0,none⟩),.pointer (some ⟨w.heap.size+5,0,none⟩)],.int .i64 (q:Nat),.int .i64 (gt l q:Nat),undef,undef,undef,undef,undef,undef,undef,undef,undef,undef,undef,undef,undef,undef,undef,undef,undef,undef,undef,undef,undef,undef,undef],defers:=[] }) ?assign ?body ?done ?stop
 case assign=>
  intro l1 q Wc K1 hK1;gi_wp2;exact hK1
 case body=>
  rintro l1 q Wc hq ⟨hk,cR,hlt⟩ hz;have cI:=(hk.cel c1 (by omega)).cell 0 rfl;have cJ:=(hk.cel c2 (by omega)).cell 0 rfl;have r0:=cR.cell 0 rfl;have r1:=cR.frozen 0;clear G;have hst:=hr.step q 0 (by omega)
  rw[Nat.zero_add]at hst;have hln:=hr.1 q (by omega);obtain⟨d,hd⟩:∃d,Hid (d=gt l q-q):=⟨_,rfl⟩;have hd2:(gt l q:Int)-(q:Int)=(d:Int):=by rw[hd.out];omega
  have dl:d<=1048576:=by rw[hd.out];omega
  by_cases hge:k<d
  .have hge2:(k:Int)<(d:Int):=by omega
   obtain rfl:c=q:=hc.eq (by omega) hlt (fun _=>by rw[<-hd.out];exact hge)
   have HX:Hid (aE (fun b=>b≠w.heap.size+3) Wc (Wc.setCell ⟨w.heap.size+3,0,none⟩ (.int .i64 ((k+c:Nat):Int)))/\aE (fun b=>b≠w.heap.size+3) w' (Wc.setCell ⟨w.heap.size+3,0,none⟩ (.int .i64 ((k+c:Nat):Int)))/\aa (Wc.setCell ⟨w.heap.size+3,0,none⟩ (.int .i64 ((k+c:Nat):Int))) (w.heap.size+3) [.int .i64 ((k+c:Nat):Int)] 3):=⟨(aE.refl _ _).setCell (fun h=>h rfl) _,hk.setCell (fun h=>h rfl) _,cR.set 0 _⟩
   have c20:c<=1048576:=by omega
   rw[show((k+c:Nat):Int)=(k:Int)+(c:Int)by omega]at HX⊢;clear hst hln;gi_wp2;exact HX.out
  .have hge2:¬(k:Int)<(d:Int):=by omega
   have hlt2:Hid (∀j,j<q+1->gt l j-j<=k):=fun j hj=>by
    by_cases e:j=q
    .subst e;rw[<-hd.out];omega
    .exact hlt j (by omega)
   clear hst hln;gi_wp2;exact⟨aE.refl _ _,hk,cR,fun j hj=>by have:=hlt2.out j hj;omega⟩
 case done=>
  rintro D Wc hD ⟨hk,cR,hlt⟩ hd;have r0:=cR.cell 0 rfl;have r1:=cR.frozen 0;have hB:=aZ ((hk.below (B:=w.heap.size) (fun x h=>by omega) (by omega)))
  have HE:=aZ (hc.eq (q:=mm) (by omega) hlt (fun h=>absurd h (by omega)));have m1:=(hk.cel c0 (by omega)).cell 1 rfl;rw[Nat.add_zero]at m1;have cJ:=(hk.cel c2 (by omega)).cell 0 rfl
  have m20:mm<=1048576:=by omega
  have hb:=aZ (hB.out.setCell (p:=⟨w.heap.size+3,0,none⟩) (show w.heap.size<=w.heap.size+3 by omega) (.int .i64 ((k:Int)+(mm:Int))));have cS:=aZ (cR.set 0 (.int .i64 ((k:Int)+(mm:Int))))
  have hd2:=aZ ((Below.heap_setCell Wc ⟨w.heap.size+3,0,none⟩ (.int .i64 ((k:Int)+(mm:Int))) D (show D≠w.heap.size+3 by omega)).trans hd);clear hd hk;go_wp2
  have cR2:=(cS.out.put (.deferred none) (show w.heap.size+3≠D by omega)).cell 0 rfl
  exact gQ hd2.out (v:=.int .i64 ((k:Int)+(mm:Int))) (by simp[results,Tryz.results173,go_sem,cR2]) ⟨by rw[HE.out];congr 1,b3.trans (hb.out.trans (eV (by omega) _))⟩
 case stop=>
  rintro D q Wc hD hq ⟨hk,cR⟩ hd;go_wp2;have cR2:=(cR.put (.deferred none) (show w.heap.size+3≠D by omega)).cell 0 rfl
  exact gQ hd (v:=.int .i64 ((k+c:Nat):Int)) (by simp[results,Tryz.results173,go_sem,cR2]) ⟨rfl,b3.trans ((hk.below (fun x h=>by omega) (by omega)).trans (eV (by omega) _))⟩
end Go.Proofs.YtleegaihbgbcjabGreatDoor
namespace Go.Proofs.YtleegaihbgbcjabGreatDoor
open Go.RowKit Num Bit
def fG(w:World)(cs:List Value)(a:bF):Prop:=∃ao cap qo dap,cs=[.int .i64 a.N,.int .i64 a.M,.int .i64 a.k,.int .i64 a.V,.int .i64 a.LM,.slice ao a.xs.length cap,.int .i64 a.H,.slice qo a.ys.length dap]/\(aD a.N/\aD a.M/\aD a.k/\aD a.V/\aD a.LM/\aD a.H)/\Wd w ao a.xs/\aA a.xs/\a.xs.length<=cap/\Wd w qo a.ys/\aA a.ys/\a.ys.length<=dap
structure bJ (w:World) (cs:List Value) (a:bF):Prop where
 arg:fG w cs a
 n3:a.N<=3000
 xl:a.xs.length<=1048576
 yl:a.ys.length<=1048576
theorem fG.keep{w w':World}{cs:List Value}{a:bF}(h:fG w cs a)(hb:Below w.heap.size w w'):fG w' cs a:=by
 obtain⟨ao,cap,qo,dap,e,r,a1,a2,a3,a4,a5,a6⟩:=h;exact⟨ao,cap,qo,dap,e,r,a1.keep hb,a2,a3,a4.keep hb,a5,a6⟩
theorem bJ.keep{w w':World}{cs:List Value}{a:bF}(h:bJ w cs a)(hb:Below w.heap.size w w'):bJ w' cs a:=⟨h.arg.keep hb,h.n3,h.xl,h.yl⟩
theorem fG.len{w:World}{cs:List Value}{a:bF}(h:fG w cs a):(prog.info? 61).map (·.size)=some cs.length:=by
 obtain⟨ao,cap,qo,dap,rfl,_⟩:=h;kernel_rfl
theorem fG.nine{w:World}{cs:List Value}{a:bF}(h:fG w cs a):8=cs.length:=by
 obtain⟨ao,cap,qo,dap,rfl,_⟩:=h;rfl
theorem fG.one{w:World}{cs:List Value}{a:bF}(h:fG w cs a):cs.toArray.all (·.oneCell')=true:=by
 obtain⟨ao,cap,qo,dap,rfl,_⟩:=h;simp[Value.oneCell']
theorem vF(a:bF)(h:kOk9 a=true):0<=a.N/\a.N<=1048576/\br (kRow a) a.N.toNat:=by
 obtain⟨h1,_⟩:=mU a h;unfold dC at h1;simp only at h1;split at h1
 .rename_i c;obtain⟨⟨c1,c2,c3,c4⟩,c5,c6,c7,c8⟩:=c;exact⟨c1,c2,(mg _ _ _ _ _ _ h1).2⟩
 .cases h1
theorem lU(a:bF)(h:kOk9 a=true):az (kBN9 a) (kBX9 a)=true:=by
 obtain⟨h0,h1,_⟩:=vF a h;unfold kBN9 kBX9;rw[if_pos h,if_pos h];have:=gB a.N.toNat (isIn (kRow a)) (by omega);rw[Int.toNat_of_nonneg h0]at this;exact this
theorem vM(a:bF):aA (kBX9 a):=by
 unfold kBX9;split
 .exact cY _ _
 .intro i;unfold gt;simp
theorem uq(xs:List Nat)(n:Nat):(plc (bitAt xs) n).length=cntB xs n:=by
 induction n with
 | zero=>rfl
 | succ n ih=>
  rw[km,List.length_append,ih];show _=cntB xs n+(if bitAt xs n then 1 else 0);cases bitAt xs n<;>rfl
theorem pA(n:Nat)(l:List Nat)(hr:br l n)(i:Nat):bitAt (rowOf n (isIn l)) i=isIn l i:=by
 rw[fk];by_cases c:i<n
 .rw[decide_eq_true c,Bool.true_and]
 .rw[decide_eq_false c,Bool.false_and];symm;refine Bool.eq_false_iff.2 fun h=>?_;obtain⟨j,hj,e⟩:=(gT l i).1 h;have:=hr.1 j hj;omega
theorem ph{n:Nat}{l:List Nat}(hr:br l n)(i:Nat):pJ l i (cntB (rowOf n (isIn l)) i):=by
 induction i with
 | zero=>exact⟨Nat.zero_le _,fun j hj=>absurd hj (by show ¬j<0;omega),fun j _ _=>Nat.zero_le _⟩
 | succ i ih=>
  have e:cntB (rowOf n (isIn l)) (i+1)=cntB (rowOf n (isIn l)) i+(if isIn l i then 1 else 0):=by
   show _+(if bitAt _ i then 1 else 0)=_;rw[pA n l hr]
  generalize cntB (rowOf n (isIn l)) i=c at *;rw[e];cases hb:isIn l i with
  | false=>
   simp only[Bool.false_eq_true,if_false,Nat.add_zero];refine⟨ih.le,fun j hj=>by have:=ih.lo j hj;omega,fun j hj hl=>?_⟩;have h1:=ih.hi j hj hl;refine Nat.lt_of_le_of_ne h1 fun e2=>?_
   rw[e2,oS l j hl]at hb;cases hb
  | true=>
   obtain⟨j,hj,ej⟩:=(gT l i).1 hb
   have jc:j=c:=by
    by_cases c1:j<c
    .have:=ih.lo j c1;omega
    .by_cases c2:c<j
     .have h1:=hr.lt c2 hj;have:=ih.hi c (Nat.le_refl _) (by omega);omega
     .omega
   subst jc;simp only[if_true];refine⟨by omega,fun t ht=>?_,fun t ht hl=>?_⟩
   .by_cases e3:t=j
    .subst e3;omega
    .have:=ih.lo t (by omega);omega
   .have:=hr.lt (show j<t by omega) hl;omega
theorem Io{n:Nat}{l:List Nat}(hr:br l n)(k:Nat)(hk:k<l.length):bitAt (rowOf n (isIn l)) (gt l k)=true/\cntB (rowOf n (isIn l)) (gt l k)=k:=by
 refine⟨by rw[pA n l hr];exact oS l k hk,?_⟩;exact(ph hr (gt l k)).eq (by omega) (fun j hj=>hr.lt hj hk) (fun _=>Nat.le_refl _)
theorem Ip{n:Nat}{l:List Nat}(hr:br l n):cntB (rowOf n (isIn l)) n=l.length:=
 (ph hr n).eq (Nat.le_refl _) (fun j hj=>hr.1 j hj) (fun h=>absurd h (by omega))
theorem Im{n:Nat}{l:List Nat}(hr:br l n)(k:Nat)(hk:k<n-l.length):∃c,ms l k c/\k+c<n/\bitAt (rowOf n (isIn l)) (k+c)=false/\(k+c)-cntB (rowOf n (isIn l)) (k+c)=k:=by
 have hlen:=hr.len;-- the first place that has more than k noughts ahead
 have ex:∀d,d<=l.length->(∃c,ms l k c)\/(∀j,j<d->gt l j-j<=k):=by
  intro d;induction d with
  | zero=>intro _;exact .inr fun j hj=>absurd hj (by omega)
  | succ d ih=>
   intro hd;rcases ih (by omega)with h | h
   .exact .inl h
   .by_cases c:k<gt l d-d
    .exact .inl ⟨d,by omega,h,fun _=>c⟩
    .exact .inr fun j hj=>by
      by_cases e:j=d
      .subst e;omega
      .exact h j (by omega)
 have hc:∃c,ms l k c:=by
  rcases ex l.length (Nat.le_refl _)with h | h
  .exact h
  .exact⟨l.length,Nat.le_refl _,h,fun h=>absurd h (by omega)⟩
 obtain⟨c,hc⟩:=hc
 have hst:∀j,j<l.length->j<=gt l j:=fun j hj=>by
  have:=hr.step j 0 (by omega);rw[Nat.zero_add]at this;omega
 have h1:∀j,j<c->gt l j<k+c:=fun j hj=>by
  have:=hc.lo j hj;have:=hc.le;have:=hst j (by omega);omega
 have h2:c<l.length->k+c<gt l c:=fun h=>by
  have:=hc.hi h;have:=hst c h;omega
 have hn:k+c<n:=by
  by_cases e:c<l.length
  .have:=h2 e;have:=hr.1 c e;omega
  .have:=hc.le;omega
 have hcnt:cntB (rowOf n (isIn l)) (k+c)=c:=(ph hr (k+c)).eq hc.le h1 (fun h=>Nat.le_of_lt (h2 h));refine⟨c,hc,hn,?_,by omega⟩;rw[pA n l hr];refine Bool.eq_false_iff.2 fun h=>?_
 obtain⟨j,hj,e⟩:=(gT l _).1 h;by_cases a:j<c
 .have:=h1 j a;omega
 .by_cases b:j=c
  .subst b;have:=h2 hj;omega
  .have:=hr.lt (show c<j by omega) hj;have:=h2 (by omega);omega
def sw(w:World)(b:Nat)(l:List (Int×Nat)):Prop:=b<w.heap.size/\∀i,i<l.length->w.cell? ⟨b,i*2,none⟩=some (.int .i64 (l.getD i (0,0)).1)/\∃ao cap,w.cell? ⟨b,i*2+1,none⟩=some (.slice ao (l.getD i (0,0)).2 cap)
def norw(l:List (Int×Nat)):Bool:=l.all fun p=>decide (p.1=0)&&decide ((p.2:Int)=0)
theorem DQ(l:List (Int×Nat))(h:∀j,j<l.length->(l.getD j (0,0)).1=0/\(l.getD j (0,0)).2=0):norw l=true:=by
 unfold norw;rw[List.all_eq_true];intro p hp;obtain⟨j,hj,rfl⟩:=List.mem_iff_getElem.1 hp;have:=h j hj;rw[List.getD_eq_getElem?_getD,List.getElem?_eq_getElem hj]at this
 simp[show(l[j]).1=0 from this.1,show(l[j]).2=0 from this.2]
theorem uH(l:List (Int×Nat))(j:Nat)(hj:j<l.length)(h:(l.getD j (0,0)).1≠0\/(l.getD j (0,0)).2≠0):norw l=false:=by
 refine Bool.eq_false_iff.2 fun e=>?_;unfold norw at e;rw[List.all_eq_true]at e;have:=e _ (List.getElem_mem hj);rw[List.getD_eq_getElem?_getD,List.getElem?_eq_getElem hj]at h;simp at this;rcases h with h | h
 .exact h this.1
 .exact h (by have:=this.2;simp only[Option.getD_some]at *;omega)
theorem qw(b cap:Nat)(l:List (Int×Nat))(w:World)(hx:sw w b l)(hl:l.length<=2):
  Qq 151 #[.slice (some ⟨b,0,none⟩) l.length cap] w (.bool (norw l)):=by
 obtain⟨R,hR⟩:∃R,Hid (R=norw l):=⟨_,rfl⟩;rw[<-hR.out];go_enter func151,ntmps151;go_wp2
 go_loopw [7] (fun i wr=>∃k:Nat,k<=l.length/\i=.int .i64 k/\Hid (∀j,j<k->(l.getD j (0,0)).1=0/\(l.getD j (0,0)).2=0)/\Below w.heap.size w wr) (fun i _=>l.length-(intOf i).toNat)
 case atStart=>exact⟨0,by omega,rfl,fun j hj=>absurd hj (by omega),Below.refl _ _⟩
 case round=>
  obtain⟨k,hk,rfl,H,hw⟩:=hrel;by_cases hlt:k<l.length
  .obtain⟨h1,ao,cp,h2⟩:=hx.2 k hlt;have e1:=(hw.cell (p:=⟨b,k*2,none⟩) hx.1).trans h1;have e2:=(hw.cell (p:=⟨b,k*2+1,none⟩) hx.1).trans h2;obtain⟨N,hN⟩:∃N,N=(l.getD k (0,0)).1:=⟨_,rfl⟩
   obtain⟨n,hn⟩:∃n,n=(l.getD k (0,0)).2:=⟨_,rfl⟩;rw[<-hN]at e1;rw[<-hn]at e2;have hlt3:(k:Int)<(l.length:Int):=by omega
   have HN:Hid (N=(l.getD k (0,0)).1/\n=(l.getD k (0,0)).2):=And.intro hN hn;clear hN hn h1 h2;have bA:=hw.alloc hw.size (.cells #[.int .i64 N,.slice ao n cp] 53);by_cases hv:N=0
   .by_cases hv2:n=0
    .subst hv hv2;go_wp2;refine⟨⟨k+1,by omega,by go_num,?_,bA⟩,by simp only[intOf];omega⟩;intro j hj;by_cases e:j=k
     .subst e;exact⟨HN.out.1.symm,HN.out.2.symm⟩
     .exact H.out j (by omega)
    .have hne:((n:Int) != 0)=true:=by simp;omega
     have E:Hid (R=false):=by
      show R=false;rw[hR.out];exact uH l k hlt (.inr (by rw[<-HN.out.2];exact hv2))
     subst hv;go_wp2;go_ret;rw[E.out];exact⟨rfl,bA⟩
   .have hne:(N != 0)=true:=by simp[hv]
    have E:Hid (R=false):=by
     show R=false;rw[hR.out];exact uH l k hlt (.inl (by rw[<-HN.out.1];exact hv))
    go_wp2;go_ret;rw[E.out];exact⟨rfl,bA⟩
  .have E:Hid (R=true):=by
    show R=true;rw[hR.out];exact DQ l (fun j hj=>H.out j (by omega))
   go_wp2;go_ret;rw[E.out];exact⟨rfl,hw⟩
structure cD where
 N:Int
 xs:List Nat
 S:List Int
 T:List Int
def fH(w:World)(cs:List Value)(a:cD):Prop:=∃ao cap so sc tO tc,cs=[.int .i64 a.N,.slice ao a.xs.length cap,.slice so a.S.length sc,.slice tO a.T.length tc]/\sA w a.N ao a.xs cap so a.S sc tO a.T tc
structure b_ (w:World) (cs:List Value) (a:cD):Prop where
 arg:fH w cs a
 xl:a.xs.length<=1048576
 sl:a.S.length<=1048576
 tl:a.T.length<=1048576
theorem fH.keep{w w':World}{cs:List Value}{a:cD}(h:fH w cs a)(hb:Below w.heap.size w w'):fH w' cs a:=by
 obtain⟨ao,cap,so,sc,tO,tc,e,h⟩:=h;exact⟨ao,cap,so,sc,tO,tc,e,⟨h.n,h.x.keep hb,h.f,h.c,h.s.keep hb,h.sf,h.sc,h.t.keep hb,h.tf,h.tc⟩⟩
theorem b_.keep{w w':World}{cs:List Value}{a:cD}(h:b_ w cs a)(hb:Below w.heap.size w w'):b_ w' cs a:=⟨h.arg.keep hb,h.xl,h.sl,h.tl⟩
theorem fH.len{w:World}{cs:List Value}{a:cD}(h:fH w cs a):(prog.info? 55).map (·.size)=some cs.length:=by
 obtain⟨ao,cap,so,sc,tO,tc,rfl,_⟩:=h;kernel_rfl
theorem fH.four{w:World}{cs:List Value}{a:cD}(h:fH w cs a):cs.length=4:=by
 obtain⟨ao,cap,so,sc,tO,tc,rfl,_⟩:=h;rfl
theorem fH.one{w:World}{cs:List Value}{a:cD}(h:fH w cs a):cs.toArray.all (·.oneCell')=true:=by
 obtain⟨ao,cap,so,sc,tO,tc,rfl,_⟩:=h;simp[Value.oneCell']
def kOk7(a:cD):Bool:=pchk a.N a.xs a.S a.T
def kBN7(a:cD):Int:=dz a.N a.xs a.S a.T
def kBX7(a:cD):List Nat:=cU a.N a.xs a.S a.T
def kZ7(a:cD):Int:=ln a.N a.xs a.S a.T
def kB7(N:Int)(xs:List Nat):cD:=⟨iq N xs,fb N xs,fe N xs,fd N xs⟩
def kE7(N:Int)(xs:List Nat):Int:=kp N xs
theorem FT(N:Int)(xs:List Nat)(hk:az N xs=true):kOk7 (kB7 N xs)=true/\kBN7 (kB7 N xs)=N/\kBX7 (kB7 N xs)=xs:=by
 have e:kB7 N xs=⟨N,xs,supL N xs,subL N xs⟩:=by unfold kB7 iq fb fe fd;rw[if_pos hk,if_pos hk,if_pos hk,if_pos hk]
 have k:pchk N xs (supL N xs) (subL N xs)=true:=by unfold pchk;simp[hk]
 rw[e];unfold kOk7 kBN7 kBX7 dz cU;simp only;rw[if_pos k,if_pos k];exact⟨k,rfl,rfl⟩
theorem FV(a:cD)(h:kOk7 a=true):az (kBN7 a) (kBX7 a)=true:=by
 unfold kBN7 kBX7 dz cU;unfold kOk7 at h;rw[if_pos h,if_pos h];unfold pchk at h;simp only[Bool.and_eq_true]at h;exact h.1
structure RA where
 K:Int
 p:cD
 r:aP
 f:bF
def dD(w:World)(cs:List Value)(a:RA):Prop:=∃cp cr cf,cs=.int .i64 a.K::(cp++(cr++cf))/\aD a.K/\fH w cp a.p/\fp w cr a.r/\fG w cf a.f
structure Sm (a:RA):Prop where
 p1:a.p.xs.length<=1048576
 p2:a.p.S.length<=1048576
 p3:a.p.T.length<=1048576
 r1:a.r.xs.length<=1048576
 r2:a.r.ys.length<=1048576
 r3:a.r.S.length<=1048576
 r4:a.r.T.length<=1048576
 f0:a.f.N<=3000
 f1:a.f.xs.length<=1048576
 f2:a.f.ys.length<=1048576
structure KI (w:World) (cs:List Value) (a:RA):Prop where
 arg:dD w cs a
 sm:Sm a
 gv:GV w
theorem dD.keep{w w':World}{cs:List Value}{a:RA}(h:dD w cs a)(hb:Below w.heap.size w w'):dD w' cs a:=by
 obtain⟨cp,cr,cf,e,k,h1,h2,h3⟩:=h;exact⟨cp,cr,cf,e,k,h1.keep hb,h2.keep hb,h3.keep hb⟩
theorem KI.keep{w w':World}{cs:List Value}{a:RA}(h:KI w cs a)(hb:Below w.heap.size w w'):KI w' cs a:=⟨h.arg.keep hb,h.sm,h.gv.keep hb⟩
theorem dD.nine{w:World}{cs:List Value}{a:RA}(h:dD w cs a):22=cs.length:=by
 obtain⟨cp,cr,cf,rfl,_,h1,h2,h3⟩:=h;have:=h1.four;have:=h2.nine;have:=h3.nine;simp only[List.length_cons,List.length_append];omega
theorem oU:(prog.info? 63).map (·.size)=some 22:=by kernel_rfl
theorem dD.len{w:World}{cs:List Value}{a:RA}(h:dD w cs a):(prog.info? 63).map (·.size)=some cs.length:=by
 rw[<-h.nine];exact oU
theorem dD.one{w:World}{cs:List Value}{a:RA}(h:dD w cs a):cs.toArray.all (·.oneCell')=true:=by
 obtain⟨cp,cr,cf,rfl,_,h1,h2,h3⟩:=h;have a1:=h1.one;have a2:=h2.one;have a3:=h3.one;simp only[List.all_toArray]at a1 a2 a3⊢;rw[List.all_cons,List.all_append,List.all_append,a1,a2,a3];rfl
def z7(a:cD):Bool:=norw [(a.N,a.xs.length)]&&(decide ((a.S.length:Int)=0)&&decide ((a.T.length:Int)=0))
def z8(a:aP):Bool:=decide (a.N=0)&&(decide (a.k=0)&&(decide (a.V=0)&&(norw [(a.M,a.xs.length),(a.L,a.ys.length)]&&(decide ((a.S.length:Int)=0)&&decide ((a.T.length:Int)=0)))))
def z9(a:bF):Bool:=decide (a.N=0)&&(decide (a.M=0)&&(decide (a.k=0)&&(decide (a.V=0)&&norw [(a.LM,a.xs.length),(a.H,a.ys.length)])))
def cO(a:RA):Bool:=(decide (a.K=1)||z7 a.p)&&((decide (a.K=2)||z8 a.r)&&(decide (a.K=3)||z9 a.f))
def kOn(a:RA):Int:=if cO a=true then a.K else 0
def aX(a:RA):Bool:=if kOn a=1 then kOk7 a.p else if kOn a=2 then kOk8 a.r else if kOn a=3 then kOk9 a.f else false
def kBN(a:RA):Int:=if kOn a=1 then kBN7 a.p else if kOn a=2 then kBN8 a.r else if kOn a=3 then kBN9 a.f else 0
def aY(a:RA):List Nat:=if kOn a=1 then kBX7 a.p else if kOn a=2 then kBX8 a.r else if kOn a=3 then kBX9 a.f else []
def kZ(a:RA):Int:=if kOn a=1 then kZ7 a.p else if kOn a=2 then kZ8 a.r else if kOn a=3 then kZ9 a.f else 0
def n7:cD:=⟨0,[],[],[]⟩
def n8:aP:=⟨0,0,0,0,[],0,[],[],[]⟩
def n9:bF:=⟨0,0,0,0,0,[],0,[]⟩
def kE(k:Int)(N:Int)(xs:List Nat):Int:=if k=1 then kE7 N xs else if k=2 then kE8 N xs else if k=3 then kE9 N xs else 5
def kB(k:Int)(N:Int)(xs:List Nat):RA:=if kE k N xs=0 then ⟨k,if k=1 then kB7 N xs else n7,if k=2 then kB8 N xs else n8,if k=3 then kB9 N xs else n9⟩else ⟨0,n7,n8,n9⟩
theorem ge{a:RA}(h:kOn a=1):aX a=kOk7 a.p/\kBN a=kBN7 a.p/\aY a=kBX7 a.p/\kZ a=kZ7 a.p:=by
 unfold aX kBN aY kZ;rw[if_pos h,if_pos h,if_pos h,if_pos h];exact⟨rfl,rfl,rfl,rfl⟩
theorem gc{a:RA}(h:kOn a=2):aX a=kOk8 a.r/\kBN a=kBN8 a.r/\aY a=kBX8 a.r/\kZ a=kZ8 a.r:=by
 unfold aX kBN aY kZ;have e:¬kOn a=1:=by omega
 rw[if_neg e,if_neg e,if_neg e,if_neg e,if_pos h,if_pos h,if_pos h,if_pos h];exact⟨rfl,rfl,rfl,rfl⟩
theorem fV{a:RA}(h:kOn a=3):aX a=kOk9 a.f/\kBN a=kBN9 a.f/\aY a=kBX9 a.f/\kZ a=kZ9 a.f:=by
 unfold aX kBN aY kZ;have e:¬kOn a=1:=by omega
 have e2:¬kOn a=2:=by omega
 rw[if_neg e,if_neg e,if_neg e,if_neg e,if_neg e2,if_neg e2,if_neg e2,if_neg e2,if_pos h,if_pos h,if_pos h,if_pos h];exact⟨rfl,rfl,rfl,rfl⟩
theorem fU{a:RA}(h1:kOn a≠1)(h2:kOn a≠2)(h3:kOn a≠3):aX a=false/\kBN a=0/\aY a=[]/\kZ a=0:=by
 unfold aX kBN aY kZ;rw[if_neg h1,if_neg h1,if_neg h1,if_neg h1,if_neg h2,if_neg h2,if_neg h2,if_neg h2,if_neg h3,if_neg h3,if_neg h3,if_neg h3];exact⟨rfl,rfl,rfl,rfl⟩
theorem kH(a:RA)(h:aX a=true):az (kBN a) (aY a)=true:=by
 by_cases h1:kOn a=1
 .obtain⟨e1,e2,e3,_⟩:=ge h1;rw[e2,e3];exact FV _ (e1.symm.trans h)
 by_cases h2:kOn a=2
 .obtain⟨e1,e2,e3,_⟩:=gc h2;rw[e2,e3];exact oQ _ (e1.symm.trans h)
 by_cases h3:kOn a=3
 .obtain⟨e1,e2,e3,_⟩:=fV h3;rw[e2,e3];exact lU _ (e1.symm.trans h)
 rw[(fU h1 h2 h3).1]at h;cases h
theorem oN(k N:Int)(xs:List Nat)(h1:1<=k)(h3:k<=3)(hk:az N xs=true):kE k N xs=0:=by
 unfold kE kE7 kE8 kE9 kp li;simp only[hk];split
 .rfl
 .split
  .rfl
  .split
   .rfl
   .omega
open Go.ChangeShapes Go.WideShapes Go.ChangeAt Go.RowKit Go.Joins Go.Deep Num Bit Bn
theorem xt:prog.cellsOf 57=4:=by kernel_rfl
theorem IP:prog.cellsOf 59=9:=by kernel_rfl
theorem yP{H:Type}{enc:TypeId×Value->H}{P:Program}{w:World}{base:Nat}{spare:Nat->Bool}{held:Bool}{t:TypeId}{f0 f1 f2 f3 f4:Field}{fuel:Nat}{cs:List Value}{x:DataW H×List MemPlace}(ht:P.underlying t=some (.struct #[f0,f1,f2,f3,f4]))(h:DataW.trod enc P w base spare held fuel t cs=some x):
  ∃y0 y1 y2 y3 y4 n,DataW.trod enc P w base spare held n f0.type ((cs.drop f0.offset).take (P.cellsOf f0.type))=some y0/\
   DataW.trod enc P w base spare held n f1.type ((cs.drop f1.offset).take (P.cellsOf f1.type))=some y1/\DataW.trod enc P w base spare held n f2.type ((cs.drop f2.offset).take (P.cellsOf f2.type))=some y2/\
   DataW.trod enc P w base spare held n f3.type ((cs.drop f3.offset).take (P.cellsOf f3.type))=some y3/\DataW.trod enc P w base spare held n f4.type ((cs.drop f4.offset).take (P.cellsOf f4.type))=some y4:=by
 obtain⟨xs,n,_,rfl,hl,hlen,hf⟩:=DataW.trod_struct ht h;match xs,hlen with
 | [y0,y1,y2,y3,y4],_=>exact⟨y0,y1,y2,y3,y4,n,by simpa using hf 0 f0 rfl,by simpa using hf 1 f1 rfl,by simpa using hf 2 f2 rfl,by simpa using hf 3 f3 rfl,by simpa using hf 4 f4 rfl⟩
theorem jh{H:Type}{enc:TypeId×Value->H}{W:World}{n:Nat}{c:Value}{y:DataW H×List MemPlace}(h:DataW.trod enc prog W 0 (fun _=>true) true n 3 [c]=some y):∃N,c=.int .i64 N/\aD N:=by
 obtain⟨a,e0,_,wa⟩:=DataW.trod_int underlying3 h;simp at e0;exact⟨a,e0,rf a wa⟩
theorem Ds{H:Type}{enc:TypeId×Value->H}{W:World}{n:Nat}{c:Value}{y:DataW H×List MemPlace}(h:DataW.trod enc prog W 0 (fun _=>true) true n 51 [c]=some y):∃ao xs cap,c=.slice ao (List.length xs) cap/\Wd W ao xs/\aA xs/\xs.length<=cap:=by
 rcases open_ints underlying51 underlying126 Tryz.cells126 h with⟨hcs,_⟩ | ⟨x,l,cp,zs,hcs,_,hl,hm,hz,_,hcell,hwz⟩
 .simp at hcs;subst hcs;exact⟨none,[],0,rfl,cE _ _,fun i=>by unfold gt;simp,by simp⟩
 .simp at hcs;subst hcs;have hz2:zs.length=cp:=by simpa using hz
  obtain⟨xs,hx1,hx2,hx3⟩:=yw W x l zs (by omega) hcell hwz;subst hx1;exact⟨some x,xs,cp,rfl,hx2,hx3,hl⟩
theorem og{H:Type}{enc:TypeId×Value->H}{W:World}{n:Nat}{c d:Value}{y:DataW H×List MemPlace}(h:DataW.trod enc prog W 0 (fun _=>true) true n 53 [c,d]=some y):∃N ao xs cap,c=.int .i64 N/\d=.slice ao (List.length xs) cap/\aD N/\Wd W ao xs/\aA xs/\xs.length<=cap:=by
 obtain⟨z0,z1,m,_,_,k0,k1⟩:=trod_struct2 underlying53 h;have j0:DataW.trod enc prog W 0 (fun _=>true) true m 3 [c]=some z0:=by simpa [Tryz.cells3]using k0
 have j1:DataW.trod enc prog W 0 (fun _=>true) true m 51 [d]=some z1:=by simpa [Tryz.cells3,Tryz.cells51]using k1
 obtain⟨N,rfl,hN⟩:=jh j0;obtain⟨ao,xs,cap,rfl,a1,a2,a3⟩:=Ds j1;exact⟨N,ao,xs,cap,rfl,rfl,hN,a1,a2,a3⟩
theorem uy{H:Type}{enc:TypeId×Value->H}{W:World}{n:Nat}{a b c d:Value}{y:DataW H×List MemPlace}(h:DataW.trod enc prog W 0 (fun _=>true) true n 57 [a,b,c,d]=some y):∃k V M ao xs cap,a=.int .i64 k/\b=.int .i64 V/\c=.int .i64 M/\d=.slice ao (List.length xs) cap/\aD k/\aD V/\aD M/\Wd W ao xs/\aA xs/\xs.length<=cap:=by
 obtain⟨y0,y1,y2,n,hx,_,h0,h1,h2⟩:=trod_struct3 underlying57 h;have g0:DataW.trod enc prog W 0 (fun _=>true) true n 3 [a]=some y0:=by simpa [Tryz.cells3]using h0
 have g1:DataW.trod enc prog W 0 (fun _=>true) true n 3 [b]=some y1:=by simpa [Tryz.cells3]using h1
 have g2:DataW.trod enc prog W 0 (fun _=>true) true n 53 [c,d]=some y2:=by simpa [Tryz.cells53]using h2
 obtain⟨k,rfl,hk⟩:=jh g0;obtain⟨V,rfl,hV⟩:=jh g1;obtain⟨M,ao,xs,cap,rfl,rfl,hM,a1,a2,a3⟩:=og g2;exact⟨k,V,M,ao,xs,cap,rfl,rfl,rfl,rfl,hk,hV,hM,a1,a2,a3⟩
theorem pY(m:Nat)(xs:List Nat)(hf:aA xs)(hk:az (m:Int) xs=true):rowOf m (bitAt xs)=xs:=by
 have:=kK m xs hf hk;rw[Int.toNat_natCast]at this;exact this.symm
theorem vJ(N:Int)(xs:List Nat)(hf:aA xs)(hk:az N xs=true):kOk8 (kB8 N xs)=true/\kBN8 (kB8 N xs)=N/\kBX8 (kB8 N xs)=xs:=by
 obtain⟨h0,h1,_,_⟩:=bp N xs hk;obtain⟨m,rfl⟩:=Int.eq_ofNat_of_zero_le h0;have hm:m<=1048576:=by omega
 have e:kB8 (m:Int) xs=⟨m,nb m,4,(nb m:Int)*4,rC m (bitAt xs),bat m (bitAt xs) (nb m),rO m (bitAt xs),rS m (bitAt xs),rT m (bitAt xs)⟩:=by
  unfold kB8 fM fQ fK fN dY fP dX dW dU;rw[hk,Int.toNat_natCast];rfl
 have hd:rDec m (nb m) 4 (rC m (bitAt xs)) (bat m (bitAt xs) (nb m)) (rO m (bitAt xs))=some ((List.range m).map (bitAt xs)):=Bo m (bitAt xs) hm
 have e1:rwN (some ((List.range m).map (bitAt xs)))=m:=by simp[rwN]
 have e2:rwX (some ((List.range m).map (bitAt xs)))=xs:=by
  show aC _=xs;rw[GU,pY m xs hf hk]
 have hn:=gK m hm;have hb:=j4 m (bitAt xs) (nb m)
 have i1:aQ (nb m:Int) 4 ((nb m:Int)*4) (rC m (bitAt xs))=true:=by
  have:=v_ (cC m (bitAt xs) (nb m)) 4 (by decide) (by decide) (by rw[eJ];omega);rw[eJ]at this;unfold rC;rw[show((nb m:Int)*4)=((nb m*4:Nat):Int)by omega];exact this
 have i2:az (bat m (bitAt xs) (nb m):Int) (rO m (bitAt xs))=true:=by
  unfold rO;rw[me];exact gB _ _ (by omega)
 have ok:cH m (nb m) 4 ((nb m:Int)*4) (rC m (bitAt xs)) (bat m (bitAt xs) (nb m)) (rO m (bitAt xs)) (rS m (bitAt xs)) (rT m (bitAt xs))=true:=by
  unfold cH;rw[hd,e1,e2,i1,i2,decide_eq_true (show(0:Int)<=m/\(m:Int)<=1048576 by omega),Bm];rfl
 rw[e];refine⟨ok,?_,?_⟩
 .unfold kBN8 fR;rw[if_pos ok,hd,e1]
 .unfold kBX8 dI;rw[if_pos ok,hd,e2]
theorem FL(N:Int)(xs:List Nat)(hk:az N xs=true):kE8 N xs=0:=by unfold kE8 li;rw[hk];rfl
end Go.Proofs.YtleegaihbgbcjabGreatDoor
namespace Go.Proofs.YtleegaihbgbcjabGreatDoor
open Go.RowKit Go.Shelf Num Bit
attribute [local go_sem] Oper.semAt_some
theorem Gc(l:List Nat)(q:Nat)(h:q<l.length)(j:Nat):isIn (l.take (q+1)) j=(isIn (l.take q) j||gt l q==j):=by
 rw[nL l q h,oR]
theorem bh.kept{K:Nat->Prop}{g:Nat}{w w':World}(h:bh g w w')(hg:¬K g):aE K w w':=⟨h.os,h.tape,h.output,Nat.le_of_eq h.size.symm,fun b hb _=>h.block b (fun e=>hg (e ▸ hb))⟩
theorem jt:(prog.info? 53).map (·.size)=some 2:=by kernel_rfl
theorem GM(a0 a1 a2 a3 a4 a5 a6 a7:Value)(w:World)(CC:Hid (Qz w 103 #[.agg #[a0,a1,a2,a3,a4,a5,a6,a7]] (.bool false))):
  Qq 81 #[.agg #[a0,a1,a2,a3,a4,a5,a6,a7]] w (.agg #[.int .i64 0,.slice none 0 0]):=by
 .skip;refine(callsIn_wide (n:=0)).1 (callsIn_of_wp_marks func81 rfl trivial ?_)
  simp only[ntmps81,List.size_toArray,List.length_cons,List.length_nil,Nat.reduceAdd,Nat.reduceSub,Array.replicate_succ,Array.replicate_zero,List.push_toArray,List.append_toArray,List.nil_append,List.cons_append]
  refine wpIn_wide.2 ?_;obtain⟨W1,hW1⟩:∃W1,W1=(w.alloc (.cells #[a0,a1,a2,a3,a4,a5,a6,a7] 61)).alloc (.cells #[.int .i64 0,.slice none 0 0] 53):=⟨_,rfl⟩
  have b1:Below w.heap.size w W1:=by rw[hW1];exact((below_alloc w _).alloc (by simp only[World.size_alloc];omega) _)
  have z1:W1.heap.size=w.heap.size+2:=by rw[hW1];simp
  have c1:aa W1 (w.heap.size+1) [.int .i64 0,.slice none 0 0] 53:=by rw[hW1];exact aa.new2 w _ _ _
  go_wp2_with fail;rw[<-hW1];clear hW1;refine mr (CC.out _ b1) fun wf hb=>?_;replace b1:=bg b1 hb;replace c1:=c1.kept hb;clear hb CC z1
  go_wp2_with (refine aJ (w.heap.size+1) [.int .i64 0,.slice none 0 0] [.int .i64 0,.slice none 0 0] rfl rfl c1 rfl jt (by simp[Value.oneCell']) ?_);intro w3 B3 O3
  have HZ:Hid (aa w3 (w.heap.size+1) [.int .i64 0,.slice none 0 0] 53/\Below w.heap.size w w3):=⟨B3,b1.trans (O3.below (Nat.le_succ _))⟩;clear B3 O3 b1 c1;go_wp2
  exact⟨_,fZ rfl (w.heap.size+1) _ rfl HZ.out.1 underlying53 jt,rfl,HZ.out.2⟩
theorem GL(n mm kn vn hh:Nat)(LM:Int)(ao:Option Addr)(xs:List Nat)(cap:Nat)(qo:Option Addr)(ys:List Nat)(dap:Nat)(l:List Nat)(w:World)(F:h_ n mm kn vn LM xs hh ys)(hx:Wd w ao xs)(fx:aA xs)(hy:Wd w qo ys)(fy:aA ys)(hl:l.length=mm)(hg:∀q,q<mm->plq n mm xs hh ys q=gt l q)(hr:br l n)(CC:Hid (Qz w 103 #[.agg #[.int .i64 (n:Nat),.int .i64 (mm:Nat),.int .i64 (kn:Nat),.int .i64 (vn:Nat),.int .i64 LM,.slice ao xs.length cap,.int .i64 (hh:Nat),.slice qo ys.length dap]] (.bool true))):
  Calls prog 81 #[.agg #[.int .i64 (n:Nat),.int .i64 (mm:Nat),.int .i64 (kn:Nat),.int .i64 (vn:Nat),.int .i64 LM,.slice ao xs.length cap,.int .i64 (hh:Nat),.slice qo ys.length dap]] w fun e w'=>∃bo bc,e=.returned (.agg #[.int .i64 n,.slice bo (rowOf n (isIn l)).length bc])/\Wd w' bo (rowOf n (isIn l))/\(rowOf n (isIn l)).length<=bc/\Below w.heap.size w w':=by
 have nl:=F.hn;obtain⟨k,hk0⟩:∃k,Hid (k=(n+63)/64):=⟨_,rfl⟩;have HL:Hid (∀f:Nat->Bool,(rowOf n f).length=k):=fun f=>by rw[cM,hk0.out]
 have NC:Hid (∀w0,Calls prog 95 #[.int .i64 (n:Nat)] w0 fun e w'=>∃g,e=.returned (.tuple #[.agg #[.int .i64 (n:Nat),.slice (some ⟨g,0,none⟩) k k],.int .i64 0])/\w0.heap.size<=g/\g<w'.heap.size/\Own w' g (rowOf n (fun _=>false))/\Below w0.heap.size w0 w'):=fun w0=>by
  have:=mL (n:Int) k w0 (by omega) (by omega) (by rw[hk0.out];omega);rw[ld n k hk0.out]at this;exact this
 have SC:Hid (∀w0 g f p,Own w0 g (rowOf n f)->p<n->Calls prog 135 #[.slice (some ⟨g,0,none⟩) k k,.int .i64 (p:Nat)] w0 fun e w'=>(∃v,e=.returned v)/\Own w' g (rowOf n (fun j=>f j||p==j))/\bh g w0 w'):=fun w0 g f p hO hp=>by
  have:=wF n f g k p w0 hO hp nl;rw[HL.out f]at this;exact this
 refine(callsIn_wide (n:=0)).1 (callsIn_of_wp_marks func81 rfl trivial ?_)
 simp only[ntmps81,List.size_toArray,List.length_cons,List.length_nil,Nat.reduceAdd,Nat.reduceSub,Array.replicate_succ,Array.replicate_zero,List.push_toArray,List.append_toArray,List.nil_append,List.cons_append]
 refine wpIn_wide.2 ?_
 have PC:Hid (∀w0,Calls prog 134 #[.agg #[.int .i64 (n:Nat),.int .i64 (mm:Nat),.int .i64 (kn:Nat),.int .i64 (vn:Nat),.int .i64 LM,.slice ao xs.length cap,.int .i64 (hh:Nat),.slice qo ys.length dap]] w0 fun e w'=>e=.returned (.func (.func 176) #[] #[.pointer (some ⟨w0.heap.size,0,none⟩),.pointer (some ⟨w0.heap.size+1,0,none⟩)])/\aa w' w0.heap.size [.int .i64 (n:Nat),.int .i64 (mm:Nat),.int .i64 (kn:Nat),.int .i64 (vn:Nat),.int .i64 LM,.slice ao xs.length cap,.int .i64 (hh:Nat),.slice qo ys.length dap] 61/\aa w' (w0.heap.size+1) [.int .i64 (wdF n mm:Nat)] 3/\w'.heap.size=w0.heap.size+2/\Below w0.heap.size w0 w'):=fun w0=>lZ n mm kn vn hh LM ao xs cap qo ys dap F.hn F.hm w0
 obtain⟨W1,hW1⟩:∃W1,W1=(w.alloc (.cells #[.int .i64 (n:Nat),.int .i64 (mm:Nat),.int .i64 (kn:Nat),.int .i64 (vn:Nat),.int .i64 LM,.slice ao xs.length cap,.int .i64 (hh:Nat),.slice qo ys.length dap] 61)).alloc (.cells #[.int .i64 0,.slice none 0 0] 53):=⟨_,rfl⟩
 have b1:Below w.heap.size w W1:=by rw[hW1];exact((below_alloc w _).alloc (by simp only[World.size_alloc];omega) _)
 have z1:W1.heap.size=w.heap.size+2:=by rw[hW1];simp
 have c0:aa W1 w.heap.size [.int .i64 (n:Nat),.int .i64 (mm:Nat),.int .i64 (kn:Nat),.int .i64 (vn:Nat),.int .i64 LM,.slice ao xs.length cap,.int .i64 (hh:Nat),.slice qo ys.length dap] 61:=by rw[hW1];exact(aa.new w _ _).alloc _
 have c1:aa W1 (w.heap.size+1) [.int .i64 0,.slice none 0 0] 53:=by rw[hW1];exact aa.new2 w _ _ _
 go_wp2_with fail;rw[<-hW1];clear hW1;refine mr (CC.out _ b1) fun wf hb=>?_;replace b1:=bg b1 hb;replace c0:=c0.kept hb;replace c1:=c1.kept hb
 have zf:w.heap.size+2<=wf.heap.size:=by have:=hb.size;omega
 clear hb CC z1;have q0:=c0.cell 0 rfl;go_wp2_with fail;refine(NC.out _).mono ?_;rintro e w2 ⟨g,rfl,hg1,hg2,hO,hb⟩;replace b1:=bg b1 hb;replace c0:=c0.kept hb;replace c1:=c1.kept hb;clear hb q0 NC
 obtain⟨g2,hgg⟩:∃g,g=w2.heap.size:=⟨_,rfl⟩;obtain⟨W2,hW2⟩:∃W2,W2=w2.alloc (.cells #[.int .i64 (n:Nat),.slice (some ⟨g,0,none⟩) k k] 53):=⟨_,rfl⟩
 have bA:Below w2.heap.size w2 W2:=by rw[hW2];exact below_alloc w2 _
 have z2:W2.heap.size=g2+1:=by rw[hW2,hgg];simp
 have c2:aa W2 g2 [.int .i64 (n:Nat),.slice (some ⟨g,0,none⟩) k k] 53:=by rw[hW2,hgg];exact aa.new w2 _ _
 have d0:aa (w2.alloc (.cells #[.int .i64 (n:Nat),.slice (some ⟨g,0,none⟩) k k] 53)) w.heap.size [.int .i64 (n:Nat),.int .i64 (mm:Nat),.int .i64 (kn:Nat),.int .i64 (vn:Nat),.int .i64 LM,.slice ao xs.length cap,.int .i64 (hh:Nat),.slice qo ys.length dap] 61:=c0.alloc _
 have q0:=d0.cell 0 rfl;have q1:=d0.cell 1 rfl;have q2:=d0.cell 2 rfl;have q3:=d0.cell 3 rfl;have q4:=d0.cell 4 rfl;have q5:=d0.cell 5 rfl;have q6:=d0.cell 6 rfl;have q7:=d0.cell 7 rfl;have HG:=aZ hgg
 rw[<-hgg]at hg2;clear hgg;have HW2:=aZ hW2;clear hW2;have HZF:=aZ zf;have HG1:=aZ hg1;clear zf hg1;go_wp2_with fail;rw[<-HW2.out];refine(PC.out _).mono ?_;rintro e w' ⟨rfl,cx,cw,z3,b3⟩
 rw[z2]at cx cw z3 b3;rw[z2,<-HG.out];have zf:=HZF.out;have hg1:=HG1.out;have zg:wf.heap.size<=g2:=by omega
 have b4:Below w.heap.size w w':=(bg b1 bA).trans (b3.mono (by omega));have bC:Below w2.heap.size w2 w':=bA.trans (b3.mono (by rw[<-HG.out];omega));replace c0:=c0.kept bC;replace c1:=c1.kept bC
 replace c2:=c2.keep b3 (by omega);replace hO:=hO.keep bC;clear b1 bA b3 bC PC HW2 d0 HG HZF HG1 q0 q1 q2 q3 q4 q5 q6 q7;go_wp2
 have G:=(lp n mm kn vn hh LM ao xs cap qo ys dap (fun b=>b≠g/\b≠w'.heap.size+1) w' (g2+1) (g2+1+1) F (hx.keep b4) fx (hy.keep b4) fy cx cw (by omega) (by omega) (fun p hp h0=>by have:=hx.blk hp h0;omega) (fun p hp h0=>by have:=hy.blk hp h0;omega)).enc (enc':=fun q=>#[.int .i64 q,.int .i64 (gt l q:Nat)]) (fun q hq=>by rw[hg q hq])
 have I0:Own w' g (rowOf n (isIn (l.take 0))):=by
  rw[da n (isIn (l.take 0)) (fun _=>false) fun i _=>by simp[isIn]];exact hO
 clear hO
 refine jg (gf:=176) (lb:=#[.pointer (some ⟨g2+1,0,none⟩),.pointer (some ⟨g2+2,0,none⟩)]) (K:=fun b=>b≠g) rfl (enters_of func176 (by kernel_rfl) rfl) (fun _=>rfl) G (fun b hb=>by omega)
  (fun q Wc=>aE (fun b=>b≠g) w' Wc/\Own Wc g (rowOf n (isIn (l.take q)))) (fun q Wc=>False) (fun q A B h hb=>⟨h.1.more hb (Nat.le_refl _),(hb.block g (by omega)).trans h.2⟩) (fun q A B h hb=>h) ⟨aE.refl _ _,I0⟩
  (fun q=>{ tmps:=#[.agg #[.int .i64 (n:Nat),.int .i64 (mm:Nat),.int .i64 (kn:Nat),.int .i64 (vn:Nat),.int .i64 LM,.slice ao xs.length cap,.int .i64 (hh:Nat),.slice qo ys.length dap],.pointer (some ⟨w.heap.size,0,none⟩),.pointer (some ⟨w.heap.size+1,0,none⟩),.pointer (some ⟨g2,0,none⟩),.int .i64 0,undef,.int .i64 (gt l q:Nat),.agg #[.int .i64 (n:Nat),.int .i64 (mm:Nat),.int .i64 (kn:Nat),.int .i64 (vn:Nat),.int .i64 LM,.slice ao xs.length cap,.int .i64 (hh:Nat),.slice qo ys.length dap],.bool true,.bool false,undef,.tuple #[.agg #[.int .i64 (n:Nat),.slice (some ⟨g,0,none⟩) k k],.int .i64 0],.pointer (some ⟨w.heap.size,0,none⟩),.int .i64 (n:Nat),.tuple #[.agg #[.int .i64 (n:Nat),.slice (some ⟨g,0,none⟩) k k],.int .i64 0],.agg #[.int .i64 (n:Nat),.slice (some ⟨g,0,none⟩) k k],.int .i64 0,.agg #[.int .i64 (n:Nat),.int .i64 (mm:Nat),.int .i64 (kn:Nat),.int .i64 (vn:Nat),.int .i64 LM,.slice ao xs.length cap,.int .i64 (hh:Nat),.slice qo ys.length dap],.func (.func 176) #[] #[.pointer (some ⟨g2+1,0,none⟩),.pointer (some ⟨g2+2,0,none⟩)],.int .i64 (q:Nat),.int .i64 (gt l q:Nat),undef,undef,undef,undef,undef],defers:=[] }) ?assign ?body ?done ?stop
 case assign=>
  intro l1 q Wc K1 hK1;gi_wp2;exact hK1
 case body=>
  rintro l1 q Wc hq ⟨hk,hO⟩ hz;have m1:=(hk.cel c2 (by omega)).cell 1 rfl;have hlt:=hr.1 q (by omega);have S1:=aZ (SC.out Wc g _ (gt l q) hO hlt)
  have RW:Hid (rowOf n (fun j=>isIn (l.take q) j||gt l q==j)=rowOf n (isIn (l.take (q+1)))):=da _ _ _ fun j _=>(Gc l q (by omega) j).symm;clear G hO;gi_wp2_with fail;refine⟨trivial,rfl,?_⟩
  refine(CallsIn.inRound l1 (callsIn_wide.2 S1.out)).mono ?_;rintro e W3 ⟨⟨v,rfl⟩,hO3,hT⟩;rw[RW.out]at hO3;have kT:aE (fun b=>b≠g) Wc W3:=hT.kept (fun h=>h rfl)
  have HE:=aZ (And.intro kT (And.intro (hk.trans kT) hO3));clear kT hT hO3 m1;gi_wp2;exact HE.out
 case done=>
  rintro D Wc hD ⟨hk,hO⟩ hd;rw[<-hl,List.take_of_length_le (Nat.le_refl _)]at hO;have cR:=hk.cel c1 (by omega);have cB:=hk.cel c2 (by omega)
  have hb:=b4.trans (hk.below (B:=w.heap.size) (fun x h=>by omega) (by omega));have DN:D≠g/\D≠w.heap.size+1/\w.heap.size<=D:=⟨by omega,by omega,by omega⟩
  have gN:g≠w.heap.size+1/\w.heap.size<=g:=⟨by omega,by omega⟩;clear hk c0 c1 c2 cx cw
  go_wp2_with (first | refine fE g2 _ rfl cB underlying53 jt ?_ | refine aJ (w.heap.size+1) [.int .i64 0,.slice none 0 0] _ rfl rfl cR rfl jt (by simp[Value.oneCell']) ?_);intro w3 B3 O3
  have b5:=hb.trans (O3.below (Nat.le_succ _));have hO3:Own w3 g (rowOf n (isIn l)):=(O3.block g gN.1).trans hO;have hd3:w3.heap[D]?=some (.deferred (some [])):=(O3.block D DN.2.1).trans hd
  have HZ:=aZ (And.intro B3 (And.intro hO3 (And.intro hd3 b5)));clear B3 O3 hO3 hd3 b5 hd hO cB cR;go_wp2;obtain⟨B3,hO3,hd3,b5⟩:=HZ.out
  have cR2:=B3.put (.deferred none) (show w.heap.size+1≠D from fun e=>DN.2.1 e.symm);have hO4:Own (w3.putObj D (.deferred none)) g (rowOf n (isIn l)):=(World.putObj_heap_other (fun e=>DN.1 e.symm)).trans hO3
  refine gQ hd3 (fZ rfl (w.heap.size+1) _ rfl cR2 underlying53 jt) ⟨some ⟨g,0,none⟩,k,?_,hO4.wd,?_,b5.trans (eV DN.2.2 _)⟩
  .rw[HL.out]
  .exact Nat.le_of_eq (HL.out _)
 case stop=>
  rintro D q Wc hD hq h hd;exact h.elim
end Go.Proofs.YtleegaihbgbcjabGreatDoor
