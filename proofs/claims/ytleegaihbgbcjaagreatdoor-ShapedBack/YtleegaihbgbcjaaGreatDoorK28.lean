import Derived.Test.YtleegaihbgbcjaaGreatDoorK26
import Derived.Great.BuildSlice
set_option linter.unusedVariables false
set_option linter.unusedSimpArgs false
set_option maxRecDepth 100000
set_option maxHeartbeats 16000000
open Go.Proofs.Tryz
namespace Go.Proofs.YtleegaihbgbcjaaGreatDoor
open Go.RowKit Num Bit
def ec(p:Nat×Nat):List Value:=[.int .i64 (p.1:Int),.int .u64 (p.2:Int)]
theorem wQ:∀(bl:List (Nat×Nat)) (i:Nat) (p:Nat×Nat),bl[i]?=some p->(eP bl)[i*2]?=some (.int .i64 (p.1:Int))/\(eP bl)[i*2+1]?=some (.int .u64 (p.2:Int))
 | q::bl,0,p,h=>by
  simp only[List.getElem?_cons_zero,Option.some.injEq]at h;subst h;exact⟨rfl,rfl⟩
 | q::bl,i+1,p,h=>by
  have:=wQ bl i p (by simpa using h);rw[show(i+1)*2=i*2+1+1 by omega];exact this
def Cs(w:World)(ao:Option Addr)(bl:List (Nat×Nat)):Prop:=
 0<bl.length->∃b,ao=some ⟨b,0,none⟩/\b<w.heap.size/\∀i p,bl[i]?=some p->w.cell? ⟨b,i*2,none⟩=some (.int .i64 (p.1:Int))/\w.cell? ⟨b,i*2+1,none⟩=some (.int .u64 (p.2:Int))
theorem Cs.keep{w w':World}{ao:Option Addr}{bl:List (Nat×Nat)}(h:Cs w ao bl)(hb:Below w.heap.size w w'):Cs w' ao bl:=fun hl=>by
 obtain⟨b,e,hlt,hc⟩:=h hl;refine⟨b,e,Nat.lt_of_lt_of_le hlt hb.size,fun i p hp=>?_⟩;exact⟨(hb.cell (p:=⟨b,i*2,none⟩) hlt).trans (hc i p hp).1,(hb.cell (p:=⟨b,i*2+1,none⟩) hlt).trans (hc i p hp).2⟩
theorem xe(a b:Nat):(bQ (a:Int) (b:Int)<0↔a<b)/\(bQ (a:Int) (b:Int)=0↔a=b):=by
 unfold bQ;by_cases h1:a<b
 .rw[if_pos (by omega)];omega
 .rw[if_neg (by omega)];by_cases h2:b<a
  .rw[if_pos (by omega)];omega
  .rw[if_neg (by omega)];omega
theorem nO(a b:Nat×Nat):Go.Proofs.ltOf jY a b=true↔Sh.ltc a b:=by
 unfold Go.Proofs.ltOf jY Sh.ltc;rw[decide_eq_true_eq];have:=xe a.1 b.1;have:=xe a.2 b.2;by_cases e:bQ (a.1:Int) (b.1:Int)≠0
 .rw[if_pos e];omega
 .rw[if_neg e];omega
theorem yA:Sort.SWO (Go.Proofs.ltOf jY) where
 irrefl x:=by
  cases h:Go.Proofs.ltOf jY x x with
  | false=>rfl
  | true=>exact absurd ((nO x x).1 h) (Sh.ltc_irrefl x)
 trans x y z h1 h2:=by
  rw[nO]at *;unfold Sh.ltc at *;omega
 ntrans x y z h1 h2:=by
  rw[<-Bool.not_eq_true,nO]at *;unfold Sh.ltc at *;omega
theorem FI{w:World}{base g cap:Nat}{bl:List (Nat×Nat)}(h:w.ownsRow base 83 2 (.slice (some ⟨g,0,none⟩) bl.length cap) bl.length (eP bl)):Sort.HoldsK ec 2 w g 0 bl.toArray:=by
 intro j hj;rw[Sort.size_flatK,List.size_toArray]at hj;rw[Sort.get_flatK ec 2 _ j (by simpa using hj),Nat.zero_add];refine⟨?_,Ag.owns_frozen h j⟩
 have hp:bl[j/2]?=some bl.toArray[j/2]!:=by
  rw[getElem!_pos bl.toArray (j/2) (by simp;omega),List.getElem_toArray];exact List.getElem?_eq_getElem (by omega)
 have e:=wQ bl (j/2) _ hp;have:=(Ag.owns_cells h).2;rcases Nat.mod_two_eq_zero_or_one j with q | q
 .rw[q];refine this j _ ?_;rw[show j/2*2=j by omega]at e;exact e.1
 .rw[q];refine this j _ ?_;rw[show j/2*2+1=j by omega]at e;exact e.2
theorem Io(g size:Nat)(w:World):CmpLays prog 86 #[] ec 2 jY g 0 size w:=fun m os dk _ x y=>by
 refine(Ai x.1 x.2 y.1 y.2 _).mono ?_;rintro e w' ⟨rfl,rfl⟩
 refine⟨rfl,1,#[.cells #[.int .i64 (x.1:Int),.int .u64 (x.2:Int)] 83,.cells #[.int .i64 (y.1:Int),.int .u64 (y.2:Int)] 83,.cells #[.int .i64 (bQ (x.1:Int) (y.1:Int)),.int .i64 (bQ (x.2:Int) (y.2:Int))] 3],?_⟩
 simp only[Sort.alloc_eq_grow,Sort.grow_grow,Sort.drew_grow];rfl
theorem za{w:World}{g n k:Nat}{d:Array (Nat×Nat)}{os:Array Obj}(hk:k≠g)(hl:k<w.heap.size):(sortWorldK ec 2 w g 0 n d os).heap[k]?=w.heap[k]?:=by
 unfold sortWorldK Sort.putRowK Sort.putRow Sort.mapBlock Sort.grow Sort.ahead;simp only;rw[Array.getElem?_append_left (by simpa using hl),Array.getElem?_modify,if_neg (fun e=>hk e.symm)]
theorem s_{w:World}{g n:Nat}{d:Array (Nat×Nat)}{os:Array Obj}:w.heap.size<=(sortWorldK ec 2 w g 0 n d os).heap.size:=by
 unfold sortWorldK Sort.putRowK Sort.putRow Sort.mapBlock Sort.grow Sort.ahead;simp
theorem yN(base g cap:Nat)(bl:List (Nat×Nat))(w:World)(h:w.ownsRow base 83 2 (.slice (some ⟨g,0,none⟩) bl.length cap) bl.length (eP bl))(hb:base<=g)(hn:bl.length<=10240):
  Calls prog 85 #[.slice (some ⟨g,0,none⟩) bl.length cap,.func (.func 86) #[] #[]] w fun e w'=>e=.returned (.tuple #[])/\∃bl':List (Nat×Nat),bl'.Perm bl/\bl'.Pairwise (fun a b=>¬Sh.ltc b a)/\Cs w' (some ⟨g,0,none⟩) bl'/\Below base w w':=by
 have hH:=FI h;have hg:=(Ag.owns_cells h).1;have eg:∀args w,(callFunc 86 args).run prog w=.ok (.enter 86 args) w:=enters_of func86 (by kernel_rfl) rfl
 have hc:=AnyQ.slices_SortFunc ta 2 Tryz.isAgg83 Tryz.sizeOf83 ec (fun _=>rfl) (fun x u hu=>by simp[ec]at hu;rcases hu with rfl | rfl<;>rfl) jY yA 86 #[] g 0 cap bl.toArray w eg (Io g _ w) hH hg (by simp;omega)
 rw[List.size_toArray]at hc;refine Calls.mono (show Calls prog 85 _ _ _ from hc) ?_;rintro e w' ⟨rfl,d',n,os,hp,hs,rfl⟩;refine⟨rfl,d'.toList,?_,?_,?_,?_⟩
 .have:=hp.2.2;rw[show(bl.toArray.extract 0 bl.length)=bl.toArray by simp]at this;have e1:d'.size=bl.length:=by simpa using hp.1
  rw[<-e1]at this;simpa using this
 .have e1:d'.size=bl.length:=by simpa using hp.1
  rw[List.pairwise_iff_getElem];intro i j hi hj hij;have:=hs i j (Nat.zero_le _) hij (by rw[<-e1];simpa using hj);rw[<-Bool.not_eq_true,nO]at this
  rw[getElem!_pos d' j (by simpa using hj),getElem!_pos d' i (by simpa using hi)]at this;exact this
 .have hK:=holdsK_sortWorldK_c ec 2 w g 0 bl.toArray d' n os hH hg (by simpa using hp.1);intro hl;refine⟨g,rfl,Nat.lt_of_lt_of_le hg s_,fun i p hp2=>?_⟩
  have hi:i<d'.size:=by
   have:=(List.getElem?_eq_some_iff.1 hp2).1;simpa using this
  have hpd:d'[i]! =p:=by
   rw[getElem!_pos d' i hi];have:=(List.getElem?_eq_some_iff.1 hp2).2;simpa using this
  have a0:=(hK.cell (c:=0) hi (by omega)).1;have a1:=(hK.cell (c:=1) hi (by omega)).1;rw[hpd]at a0 a1;simp only[Nat.zero_add,Nat.add_zero]at a0 a1;exact⟨a0,a1⟩
 .exact⟨rfl,rfl,rfl,s_,fun k hk=>za (by omega) (by omega)⟩
theorem sU(p:Option Addr)(cap:Nat)(fv:Value)(w:World):Qx 85 #[.slice p 0 cap,fv] w (.tuple #[]):=
 AnyF.slices_SortFunc_none ta p cap fv w
theorem ts(gc:Nat)(v:Nat->Nat)(w:World)(hC:aa w gc (cC v) 83)(hv:∀c,v c<=40)(hk:∀c,cod v c<2^v c):
  Calls prog 38 #[.slice (some ⟨gc,0,none⟩) 256 256] w fun e w'=>∃ao cap,e=.returned (.slice ao (Sh.nds v (cod v)).length cap)/\Cs w' ao (Sh.nds v (cod v))/\Below w.heap.size w w'/\Fr w.heap.size ao:=by
 refine Al gc v w hC hv hk _ ?_;intro gm n M bl bv w1 hI hO hg hl hB hn;obtain⟨h1,⟨rfl,h0⟩ | ⟨g,cap,cur,rfl,hbg,r⟩⟩:=id hO
 .refine(sU none 0 _ w1).mono ?_;rintro e w2 ⟨rfl,rfl⟩;have e0:bl=[]:=List.eq_nil_of_length_eq_zero h0;have:=Sh.bl_nds v (cod v) hI hv hk (List.Perm.refl _) (by rw[e0];exact List.Pairwise.nil);rw[<-this,e0]
  exact⟨rfl,none,0,rfl,fun h=>absurd h (by simp),hB,bE _⟩
 .refine(yN (gm+1) g cap bl w1 hO hbg hn).mono ?_;rintro e w2 ⟨rfl,bl',hp,hs,hC2,hB2⟩;have e1:=Sh.bl_nds v (cod v) hI hv hk hp hs;have e2:(Sh.nds v (cod v)).length=bl.length:=by rw[<-e1];exact hp.length_eq
  rw[e1]at hC2;refine⟨rfl,some ⟨g,0,none⟩,cap,by rw[e2],hC2,hB.trans (hB2.mono (by omega)),fun a ha=>by cases ha;show w.heap.size<=g;omega⟩
theorem Am(w:World):Qq 38 #[.slice none 0 0] w (.slice none 0 0):=by
 have hmm:=@run_makeMap prog;have H:=ac (sU none 0 (.func (.func 86) #[] #[]));go_enter func38,ntmps38;go_wp2
 go_loopw [3,12] (fun bv vi wr=>bv=.slice none 0 0/\vi=.int .i64 0/\wr=w.alloc (.map #[] 0)) (fun _ _ _=>0)
 case atStart=>exact⟨rfl,rfl,rfl⟩
 case round=>
  obtain⟨rfl,rfl,rfl⟩:=hrel;go_wp2_with fail;refine(H.out _).mono ?_;rintro e w2 ⟨rfl,rfl⟩;go_wp2;go_ret;exact⟨rfl,below_alloc w _⟩
theorem Az{t e:TypeId}(ht:prog.underlying t=some (.map 83 e))(n:Nat)(w:World):(Instr.makeMap t (some (.int .i64 n))).run prog w=.ok (.map (some w.heap.size)) (w.alloc (.map #[] 0)):=by
 simp[Instr.makeMap,run_underlying ht,asInt,asIntOf,Result.andThen]
theorem DL{l:List Int}(h:fc l=true):(∀c,ay l c<=40)/\∀c,cod (ay l) c<2^ay l c:=by
 unfold fc at h;rw[Bool.and_eq_true]at h;obtain⟨hw,hf⟩:=h;obtain⟨h1,h2⟩:=jF hw
 have hv:∀c,ay l c<=40:=fun c=>by
  unfold ay;by_cases hc:c<l.length
  .have:=h2 c hc;omega
  .unfold gi;rw[List.getD_eq_getElem?_getD,List.getElem?_eq_none (by omega)];decide
 refine⟨hv,fun c=>?_⟩;unfold cod;by_cases h0:0<ay l c
 .rw[if_pos h0]
  have hc:c<256:=by
   by_cases hc:c<l.length
   .omega
   .unfold ay gi at h0;rw[List.getD_eq_getElem?_getD,List.getElem?_eq_none (by omega)]at h0;simp at h0
  exact Hr.code_lt _ _ h0 (hv c) hc (Ka.fit_need hf)
 .rw[if_neg h0];exact Nat.two_pow_pos _
theorem xW{ops:Array Oper}{rest:List Oper}{o:Oper}{a:Act}{w:World}{Q:Exit->Act->World->Prop}{t e:TypeId}(hg:o.guard=none)(m x u:Operand)(hop:o.op=Op.mapUpdate t m x u)
  (b n:Nat) (M:Nat->Nat->Option Value) (L X:Nat) (v:Value) (ht:prog.underlying t=some (.map 83 e)) (hm:a.eval m=.map (some b)) (hx:a.eval x=cv L X) (hu:a.eval u=v) (h:CM w b n M) (hn:n<maxLen) (hL:L<=64) (hX:X<18446744073709551616)
  (hK:∀w',CM w' b (n+1) (cup M L X v)->aw b w w'->wpList prog ops Q rest (a.put o.dst undef) w'):wpList prog ops Q (o::rest) a w:=by
 refine wpList_plain hg fun K' hK'=>?_;obtain⟨w',hrun,r1,r2⟩:=h.store ht hn hL hX v;unfold Oper.wp;simp[execOp,hop,hm,hx,hu,hrun,Result.andThen];exact hK' _ _ (hK w' r1 r2)
theorem sK{l:List (Nat×Nat)}{k n:Int}{av:List RA}{i:Nat}(hs:l.Pairwise Sh.ltc)(hn:ax n)(hc:∀j,j<i->fp l k n av j=true){L x:Nat}(hj:0<L->Sh.ixo (L-1,x/2) l<i):ax (Sh.szN l (bF av) (bM av) n L x)/\(0<L->0<=Sh.szN l (bF av) (bM av) n L x/\Sh.szN l (bF av) (bM av) n L x<=1048576):=by
 unfold Sh.szN;by_cases h0:L=0
 .rw[if_pos h0];exact⟨hn,by omega⟩
 .rw[if_neg h0];have:=hc _ (hj (by omega));unfold fp at this;rw[Bool.and_eq_true]at this;have:=tL av _ this.1;unfold ax;split<;>omega
theorem yO(n:Int)(cs bs:Value)(gn c b off i L x:Nat)(l:List (Nat×Nat))(av:List RA)(w:World)(hcs:cs.oneCell'=true)(hbs:bs.oneCell'=true)(h:CM w gn c (bz l b off av i))(hL2:L<=64)(hx:x<18446744073709551616)(hj:0<L->Sh.ixo (L-1,x/2) l<i):
  Qq 98 #[.agg #[.int .i64 n,cs,bs,.map (some gn)],.agg #[.int .i64 L,.int .u64 x]] w (.int .i64 (Sh.szN l (bF av) (bM av) n L x)):=by
 unfold Sh.szN;by_cases h0:L=0
 .subst h0;rw[if_pos rfl];exact yP n cs bs _ x hcs hbs rfl w
 .rw[if_neg h0];exact sV n cs bs _ _ _ gn c L x _ w hcs hbs h (by omega) hL2 hx (by unfold bz;rw[if_pos (hj (by omega))];rfl) rfl
theorem xj{l:List (Nat×Nat)}{k n:Int}{av:List RA}{i L x:Nat}(h:l[i]?=some (L,x)):fp l k n av i=(aJ (av.getD i cy)&&(decide ((av.getD i cy).K=k)&&decide (bF av i=Sh.szN l (bF av) (bM av) n L x))):=by
 unfold fp;rw[show l.getD i (0,0)=(L,x)from by rw[List.getD_eq_getElem?_getD,h];rfl]
theorem pF{k n:Int}{l:List Int}{av:List RA}{i:Nat}(hi:i<av.length)(h:fp (Sh.nds (ay l) (cod (ay l))) k n av i=false):bn k n l av=false:=by
 unfold bn
 rw[show(List.range av.length).all (fp (Sh.nds (ay l) (cod (ay l))) k n av)=false from by
  rw[List.all_eq_false]
  exact⟨i,List.mem_range.2 hi,by rw[h];decide⟩]
 simp
theorem tu{k n:Int}{l:List Int}{av:List RA}(h0:fc l=true)(h1:(Sh.nds (ay l) (cod (ay l))).length=av.length)(h2:n<=8192)(h3:1<=k/\k<=3)(h:∀i,i<av.length->fp (Sh.nds (ay l) (cod (ay l))) k n av i=true):bn k n l av=decide (h_ (ay l) (szC (ay l) n av) n=l):=by
 unfold bn;rw[h0,decide_eq_true h1,decide_eq_true h2,decide_eq_true h3,show(List.range av.length).all (fp (Sh.nds (ay l) (cod (ay l))) k n av)=true from List.all_eq_true.2 fun i hi=>h i (List.mem_range.1 hi)]
 simp
theorem yz{k n:Int}{v:Nat->Nat}{av:List RA}{b off:Nat}(hk:∀c,cod v c<2^v c)(hv:∀c,v c<=40)(h256:∀c,256<=c->v c=0)(hn:ax n)(hn2:n<=8192)(h1:(Sh.nds v (cod v)).length=av.length)(h:∀i,i<av.length->fp (Sh.nds v (cod v)) k n av i=true):
  (∀c,szC v n av c<=1048576)/\∀q,q<256->0<v q->∃p off' on,(bz (Sh.nds v (cod v)) b off av av.length (v q-1) (cod v q/2)).getD mQ=.agg #[p,.int .i64 off',.int .i64 on]/\p.oneCell'=true/\(if cod v q%2=1 then on else off')=(szC v n av q:Int):=by
 have key:∀c,0<v c->c<256/\Sh.ixo (v c-1,cod v c/2) (Sh.nds v (cod v))<av.length:=fun c hc=>by
  have c2:c<256:=by
   by_cases g:c<256
   .exact g
   .have:=h256 c (by omega);omega
  have:=Sh.ixo_lt (Sh.leaf_up v (cod v) hk hv c2 hc);exact⟨c2,by omega⟩
 have sz:=fun c=>sK (i:=av.length) (L:=v c) (x:=cod v c) (Sh.sorted_nds v (cod v)) hn h (fun hc=>(key c hc).2);refine⟨fun c=>?_,fun q hq h0=>?_⟩
 .unfold szC;by_cases h0:0<v c
  .have:=(sz c).2 h0;omega
  .unfold Sh.szN;rw[if_pos (by omega)];omega
 .refine⟨_,_,_,by unfold bz;rw[if_pos (key q h0).2];rfl,rfl,?_⟩;have:=(sz q).2 h0;unfold szC;rw[Int.toNat_of_nonneg this.1];unfold Sh.szN;rw[if_neg (show ¬v q=0 by omega)]
theorem sW{T:TypeId}{w:World}{x:Operand}{ρ:Operand->Value}{d:Option Tmp}{ty:TypeId}{ps:String}{af:Array Edge}{gd:Option (Nat×Bool)}
  (g o:Nat) (cs:List Value) {fs:Array Field} (hx:ρ x=.pointer (some ⟨g,o,none⟩)) (hc:w.rangeAt g o cs) (hu:prog.underlying T=some (.struct fs)) (hi:(prog.info? T).map (·.size)=some cs.length):
  (execOp ρ (⟨d,.load T x,ty,ps,af,gd⟩:Oper)).run prog w=.ok (.value (.agg cs.toArray)) w:=by
 have hl:=run_loadVar_mid (P:=prog) w g o T cs _ hc hu rfl hi;unfold execOp;simp only[hx,Instr.loadAt,Instr.sureAddr,Sem.run_bind,Sem.run_pure,Result.andThen_ok,hl]
theorem FW{ok:Bool}{N i:Int}(h:grE ok N i=0):ok=true/\0<=i/\i<=N:=by
 unfold grE at h;cases ok with
 | false=>simp at h
 | true=>
  simp only[if_true]at h;by_cases g:i<0\/N<i
  .rw[if_pos g]at h;omega
  .exact⟨rfl,by omega,by omega⟩
theorem qH{ok:Bool}{N i:Int}(h:ok=true)(h0:0<=i)(h1:i<=N):grE ok N i=0:=by
 unfold grE;rw[h,if_pos rfl,if_neg (by omega)]
theorem DO{l:List Int}(h:fc l=true):∀c,256<=c->ay l c=0:=fun c hc=>by
 unfold fc at h;rw[Bool.and_eq_true]at h;have:=(jF h.1).1;unfold ay gi;rw[List.getD_eq_getElem?_getD,List.getElem?_eq_none (by omega)];rfl
theorem A5{av:List RA}{i:Nat}{A:RA}{O sz:Int}(hA:A=av.getD i cy)(ok:aJ A=true)(hN:kBN A=sz)(hO:O=grN (aJ A) (kBN A) (aQ A) true sz):O=bM av i/\sz=bF av i:=by
 have hc:=bp _ _ (kJ _ ok);have e:grE (aJ A) (kBN A) sz=0:=qH ok (by omega) (by omega);unfold bM bF;rw[<-hA,hO,grN,if_pos e,hN];exact⟨rfl,rfl⟩
structure OP (n:Int) (l:List Int) (no:Option Addr) (av:List RA) (sv:Value) (w:World):Prop where
 ex:∃gc bo bc gn c b off,sv=.agg #[.int .i64 n,.slice (some ⟨gc,0,none⟩) 256 256,.slice bo (Sh.nds (ay l) (cod (ay l))).length bc,.map (some gn)]/\aa w gc (cC (ay l)) 83/\Cs w bo (Sh.nds (ay l) (cod (ay l)))/\CM w gn c (bz (Sh.nds (ay l) (cod (ay l))) b off av (Sh.nds (ay l) (cod (ay l))).length)/\(0<av.length->no=some ⟨b,off,none⟩)
theorem dp:(prog.info? 94).map (·.size)=some 4:=by kernel_rfl
theorem vG:(prog.info? 27).map (·.size)=some 4:=by kernel_rfl
def RQ{α:Type}(F:α->World->Prop)(u:Act->α->Act)(a:Act):Exit->Act->World->Prop
 | .normal,a',w'=>∃g,a'=u a g/\F g w'
 | _,_,_=>False
theorem tH{α:Type}(ns:List Nat)(S:World->Prop)(F:α->World->Prop)(u:Act->α->Act){P:Program}{id:Nat}{ops:Array Oper}{a:Act}{w:World}{Q:Exit->Act->World->Prop}(hm:P.follows .mixedOrders=true)
  (h:aq P .any ops (RQ F u a) S ns ops.size (Array.replicate ops.size false) a w.drew) (hf:∀g V,F g V->Q .normal (u a g) V):(Code.region id ops true).wp P Q a w:=by
 refine Code.wp_mono ?_ (aB ns S hm h);intro e a' w' he;cases e with
 | normal=>
  obtain⟨g,rfl,hF⟩:=he;exact hf g w' hF
 | _=>exact he.elim
structure EX (w:World) (gc gn LEN:Nat) (v:Nat->Nat) (bo:Option Addr) (NL:List (Nat×Nat)) (M:Nat->Nat->Option Value) (sh:List Value) (V:World):Prop where
 s:aa V (w.heap.size+1) sh 94
 c:aa V gc (cC v) 83
 t:Cs V bo NL
 m:CM V gn LEN M
 b:Below w.heap.size w V
theorem EX.keep{w:World}{gc gn LEN:Nat}{v:Nat->Nat}{bo:Option Addr}{NL:List (Nat×Nat)}{M:Nat->Nat->Option Value}{sh:List Value}{V V':World}(h:EX w gc gn LEN v bo NL M sh V)(hb:Below V.heap.size V V'):EX w gc gn LEN v bo NL M sh V':=
 ⟨h.s.kept hb,h.c.kept hb,h.t.keep hb,h.m.kept hb,h.b.trans (hb.mono h.b.size)⟩
theorem EX.only{w:World}{gc gn LEN:Nat}{v:Nat->Nat}{bo:Option Addr}{NL:List (Nat×Nat)}{M:Nat->Nat->Option Value}{sh sh':List Value}{V V':World}(h:EX w gc gn LEN v bo NL M sh V)(hO:aw (w.heap.size+1) V V')(hs:aa V' (w.heap.size+1) sh' 94)(h1:gc≠w.heap.size+1)(h2:gn≠w.heap.size+1)(hf:Fr (w.heap.size+2) bo):EX w gc gn LEN v bo NL M sh' V':=by
 refine⟨hs,hO.cel h.c h1,fun h0=>?_,h.m.only hO h2,h.b.trans (hO.below (by omega))⟩;obtain⟨bb,rfl,e2,e3⟩:=h.t h0;have hne:bb≠w.heap.size+1:=by have:=hf _ rfl;dsimp only at this;omega
 refine⟨bb,rfl,by rw[hO.size];exact e2,fun i p hp=>?_⟩
 have hc:∀j,V'.cell? ⟨bb,j,none⟩=V.cell? ⟨bb,j,none⟩:=fun j=>by
  unfold World.cell?;rw[show V'.heap[({ block:=bb,off:=j,spot:=none }:Addr).block]?=_ from hO.block bb hne]
 rw[hc,hc];exact e3 i p hp
def S4(sv:Value):Prop:=∃a b c d,sv=.agg #[a,b,c,d]/\a.oneCell'=true/\b.oneCell'=true/\c.oneCell'=true/\d.oneCell'=true
theorem pA(k n:Int)(lo:Option Addr)(l:List Int)(lc:Nat)(no:Option Addr)(av:List RA)(nc:Nat)(w:World)(hk:ax k)(hn:ax n)(hx:Nd w lo l)(hl:l.length<=1048576)(hv:Lv w no av)(ha:av.length<=1048576)(G:GV w):
  Calls prog 43 #[.agg #[.int .i64 k,.int .i64 n,.slice lo l.length lc,.slice no av.length nc]] w fun e w'=>∃sv,e=.returned (.tuple #[sv,.bool (bn k n l av)])/\S4 sv/\(bn k n l av=true->OP n l no av sv w')/\Below w.heap.size w w':=by
 obtain⟨W,hW⟩:∃W,W=(w.alloc (.cells #[.int .i64 k,.int .i64 n,.slice lo l.length lc,.slice no av.length nc] 27)).alloc (.cells #[.int .i64 0,.slice none 0 0,.slice none 0 0,.map none] 94):=⟨_,rfl⟩
 have bW:=cW hW;have zW:W.heap.size=w.heap.size+2:=by rw[hW];simp
 have B1:=eU hW;have B2:=dE hW;have hHX:=ac hx;have HVv:=ac hv;have HG:=ac G;have HS:Hid (∀b,bn k n l av=b->bn k n l av=b):=fun _ h=>h;clear hx hv G HS;cases hlk:fc l with
 | false=>
  have hs:Hid (bn k n l av=false):=by show bn k n l av=false;unfold bn;rw[hlk];rfl
  have C1:=ac (Fg lo l lc W (hHX.out.keep bW) hl hlk);have HBW:=ac bW;clear bW;go_enter func43,ntmps43;go_wp2_with fail;rw[<-hW];refine C1.out.mono ?_;rintro e w1 ⟨rfl,hb⟩
  have B11:=ac (B1.kept hb);have B21:=ac (B2.kept hb);have HB1:=ac (bg HBW.out hb);clear hW hb C1 B1 B2 HBW;go_wp2_with fail;refine mr (Am w1) fun w2 hb=>?_
  have B22:=B21.out.kept hb;have HB2:=ac (bg HB1.out hb);clear hb B21 B11 HB1
  go_wp2_with (refine aP (w.heap.size+1) _ [.int .i64 0,.slice none 0 0,.slice none 0 0,.map none] rfl rfl B22 rfl dp (by simp[Value.oneCell']) ?_);intro w9 C9 hO9
  have HB9:=ac (HB2.out.trans (hO9.below (by omega)));have HC9:=ac C9;clear C9 hO9;go_wp2
  exact bodyPost_ret (bJ rfl (w.heap.size+1) [.int .i64 0,.slice none 0 0,.slice none 0 0,.map none] rfl HC9.out underlying94 dp) rfl ⟨_,by rw[hs.out];rfl,⟨_,_,_,_,rfl,rfl,rfl,rfl,rfl⟩,fun h=>absurd (h.symm.trans hs.out) (by decide),HB9.out⟩
 | true=>
  obtain⟨v40,cdl⟩:=DL hlk;have HV40:=ac v40;have HCD:=ac cdl;have C1:=ac (vz lo l lc W (hHX.out.keep bW) hl hlk);have HLK:=ac hlk;have HBW:=ac bW;clear bW v40 cdl hlk
  go_enter func43,ntmps43;go_wp2_with fail;rw[<-hW];refine C1.out.mono ?_;rintro e w1 ⟨gc,rfl,hgc,hgl,hb⟩;have B11:=ac (B1.kept hb);have B21:=ac (B2.kept hb)
  have HB1:=ac (bg HBW.out hb);have z1:=hb.size;clear hW hb C1 B1 B2 HBW;go_wp2_with fail;refine(ts gc (ay l) w1 hgc HV40.out HCD.out).mono ?_;rintro e w2 ⟨bo,bc,rfl,hcs,hb,hfr⟩
  have HFR:=ac hfr;have B12:=ac (B11.out.kept hb);have B22:=ac (B21.out.kept hb);have HB2:=ac (bg HB1.out hb);have HGC:=ac (hgc.kept hb);have HCS:=ac hcs;have z2:=hb.size
  have c0:=B12.out.cell 0 rfl;have c1:=B12.out.cell 1 rfl;have c3:=B12.out.cell 3 rfl;obtain⟨NL,hNL⟩:∃NL,Hid (NL=(Sh.nds (ay l) (cod (ay l)))):=⟨_,rfl⟩;rw[<-hNL.out]at HCS;rw[<-hNL.out]
  clear hb B11 B21 HB1 hgc hcs hfr;by_cases h1:NL.length=av.length
  .have h1f:((NL.length:Int) != (av.length:Int))=false:=by simp;omega
   by_cases h2:n<=8192
   .have h2f:¬(n>8192):=by omega
    have CK:=ac (fun w0 hb=>td k hk w0 (HG.out.kept hb));go_wp2_with fail;refine mr (CK.out _ HB2.out) fun w3 hb=>?_;have B13:=ac (B12.out.kept hb);have B23:=ac (B22.out.kept hb)
    have HB3:=ac (bg HB2.out hb);have HGC3:=ac (HGC.out.kept hb);have HCS3:=ac (HCS.out.keep hb);have z3:=hb.size;clear hb B12 B22 HB2 HGC HCS c0 c1 c3 CK h1f;by_cases h3:1<=k/\k<=3
    .rw[decide_eq_true h3];go_wp2
     have hmh:∀w0,(Instr.makeMap 92 (some (.int .i64 (av.length:Int)))).run prog w0=.ok (.map (some w0.heap.size)) (w0.alloc (.map #[] 0)):=fun w0=>Az underlying92 av.length w0
     have HMH:=ac hmh;clear hmh
     refine tH [9] (fun w'=>aa w' w.heap.size [.int .i64 k,.int .i64 n,.slice lo l.length lc,.slice no av.length nc] 27) (fun(g:Nat×Nat) V=>aa V g.1 [.int .i64 n,.slice (some ⟨gc,0,none⟩) 256 256,.slice bo av.length bc,.map (some g.2)] 94/\CM V g.2 0 (fun _ _=>none)/\Below w3.heap.size w3 V/\w3.heap.size<=g.1/\w3.heap.size<=g.2/\g.1≠g.2) (fun a g=>{ a with tmps:=((((((((a.tmps.setIfInBounds 44 (.pointer (some ⟨w.heap.size,1,none⟩))).setIfInBounds 45 (.int .i64 n)).setIfInBounds 46 (.slice (some ⟨gc,0,none⟩) 256 256)).setIfInBounds 47 (.slice bo av.length bc)).setIfInBounds 48 (.slice bo av.length bc)).setIfInBounds 49 (.int .i64 (av.length:Int))).setIfInBounds 50 (.map (some g.2))).setIfInBounds 51 (.agg #[.int .i64 n,.slice (some ⟨gc,0,none⟩) 256 256,.slice bo av.length bc,.map (some g.2)])).setIfInBounds 7 (.pointer (some ⟨g.1,0,none⟩)) }) (by kernel_rfl) ?reg ?fin
     case reg=>
      have hS:aa w3.drew w.heap.size [.int .i64 k,.int .i64 n,.slice lo l.length lc,.slice no av.length nc] 27:=B13.out;have hY:Below w3.heap.size w3 w3.drew:=(Below.refl _ _).drew
      have zY:w3.heap.size<=w3.drew.heap.size:=Nat.le_refl _;generalize w3.drew=Y at *;refine aF 0 hS rfl (fun w0 h0=>by have d1:=h0.cell 1 rfl;go_simp;try with_reducible rfl) ?_
      refine aF 1 hS rfl (fun w0 h0=>by have d1:=h0.cell 1 rfl;go_simp;try with_reducible rfl) ?_;refine aF 2 hS rfl (fun w0 h0=>by have d1:=h0.cell 1 rfl;go_simp;try with_reducible rfl) ?_
      refine aF 3 hS rfl (fun w0 h0=>by have d1:=h0.cell 1 rfl;go_simp;try with_reducible rfl) ?_;refine aF 4 hS rfl (fun w0 h0=>by have d1:=h0.cell 1 rfl;go_simp;try with_reducible rfl) ?_
      refine aF 5 hS rfl (fun w0 h0=>by have d1:=h0.cell 1 rfl;go_simp;try with_reducible rfl) ?_;refine aq.two 6 8 (by kernel_rfl) rfl rfl ?_ ?_
      .intro K hK;have hmh:=HMH.out;go_simp;clear hmh;have hA:=below_alloc Y (.map #[] 0);have HMn:=CM.made Y;replace hS:=hS.kept hA;have hY2:=hY.trans (hA.mono (by omega))
       obtain⟨gn,hgn⟩:∃gn,Hid (gn=Y.heap.size):=⟨_,rfl⟩;rw[<-hgn.out]at HMn⊢;have z6:Y.heap.size<(Y.alloc (.map #[] 0)).heap.size:=by simp
       generalize Y.alloc (.map #[] 0)=Y2 at *;clear hA hY;refine hK.out _ _ (fun _=>hS) ?_;clear hK K;try simp only[Act.put,ak,aj,ai,ae,ah,ag]
       refine aF 7 hS rfl (fun w0 h0=>by have d1:=h0.cell 1 rfl;go_simp;try with_reducible rfl) ?_;refine aO 8 ?_;intro K hK;go_simp
       have hA:=below_alloc Y2 (.cells #[.int .i64 0,.slice none 0 0,.slice none 0 0,.map none] 94);have B8:=aa.new Y2 [.int .i64 0,.slice none 0 0,.slice none 0 0,.map none] 94;replace hS:=hS.kept hA
       replace HMn:=HMn.kept hA;have hY3:=hY2.trans (hA.mono (by omega));obtain⟨gs,hgs⟩:∃gs,Hid (gs=Y2.heap.size):=⟨_,rfl⟩;have hne:gs≠gn:=by have:=hgs.out;have:=hgn.out;omega
       have gsl:w3.heap.size<=gs:=by have:=hgs.out;omega
       have gnl:w3.heap.size<=gn:=by have:=hgn.out;omega
       rw[<-hgs.out]at B8⊢;generalize Y2.alloc (.cells #[.int .i64 0,.slice none 0 0,.slice none 0 0,.map none] 94)=Y3 at *;clear hA hY2;refine hK.out _ _ (fun _=>hS) ?_;clear hK K
       try simp only[Act.put,ak,aj,ai,ae,ah,ag]
       refine aO 9 ?_;intro K hK;refine ke gs _ [.int .i64 n,.slice (some ⟨gc,0,none⟩) 256 256,.slice bo av.length bc,.map (some gn)] rfl rfl B8 rfl dp (by simp[Value.oneCell']) ?_;intro V BV hOV
       refine hK.out _ _ (fun h=>absurd (by decide) h) ?_;clear hK K;try simp only[Act.put,ak,aj,ai,ae,ah,ag]
       refine aq.done (by kernel_rfl) ?_ _;refine⟨(gs,gn),?_,BV,HMn.only hOV (fun e=>hne e.symm),hY3.trans (hOV.below (by omega)),by omega,by omega,hne⟩
       simp only[List.setIfInBounds_toArray,List.set_cons_zero,List.set_cons_succ]
      .intro K hK;go_simp;have hA:=below_alloc Y (.cells #[.int .i64 0,.slice none 0 0,.slice none 0 0,.map none] 94);have B8:=aa.new Y [.int .i64 0,.slice none 0 0,.slice none 0 0,.map none] 94
       replace hS:=hS.kept hA;have hY2:=hY.trans (hA.mono (by omega));obtain⟨gs,hgs⟩:∃gs,Hid (gs=Y.heap.size):=⟨_,rfl⟩;rw[<-hgs.out]at B8⊢
       have z6:Y.heap.size<(Y.alloc (.cells #[.int .i64 0,.slice none 0 0,.slice none 0 0,.map none] 94)).heap.size:=by simp
       generalize Y.alloc (.cells #[.int .i64 0,.slice none 0 0,.slice none 0 0,.map none] 94)=Y2 at *;clear hA hY;refine hK.out _ _ (fun _=>hS) ?_;clear hK K;try simp only[Act.put,ak,aj,ai,ae,ah,ag]
       refine aO 6 ?_;intro K hK;have hmh:=HMH.out;go_simp;clear hmh;have hA:=below_alloc Y2 (.map #[] 0);have HMn:=CM.made Y2;replace hS:=hS.kept hA;replace B8:=B8.kept hA
       have hY3:=hY2.trans (hA.mono (by omega));obtain⟨gn,hgn⟩:∃gn,Hid (gn=Y2.heap.size):=⟨_,rfl⟩;have hne:gs≠gn:=by have:=hgs.out;have:=hgn.out;omega
       have gsl:w3.heap.size<=gs:=by have:=hgs.out;omega
       have gnl:w3.heap.size<=gn:=by have:=hgn.out;omega
       rw[<-hgn.out]at HMn⊢;generalize Y2.alloc (.map #[] 0)=Y3 at *;clear hA hY2;refine hK.out _ _ (fun _=>hS) ?_;clear hK K;try simp only[Act.put,ak,aj,ai,ae,ah,ag]
       refine aF 7 hS rfl (fun w0 h0=>by have d1:=h0.cell 1 rfl;go_simp;try with_reducible rfl) ?_;refine aO 9 ?_;intro K hK
       refine ke gs _ [.int .i64 n,.slice (some ⟨gc,0,none⟩) 256 256,.slice bo av.length bc,.map (some gn)] rfl rfl B8 rfl dp (by simp[Value.oneCell']) ?_;intro V BV hOV
       refine hK.out _ _ (fun h=>absurd (by decide) h) ?_;clear hK K;try simp only[Act.put,ak,aj,ai,ae,ah,ag]
       refine aq.done (by kernel_rfl) ?_ _;refine⟨(gs,gn),?_,BV,HMn.only hOV (fun e=>hne e.symm),hY3.trans (hOV.below (by omega)),by omega,by omega,hne⟩
       simp only[List.setIfInBounds_toArray,List.set_cons_zero,List.set_cons_succ]
     case fin=>
      rintro⟨gs,gn⟩ V ⟨BS,HMV,b3V,gsl,gnl,hne⟩;dsimp only at BS HMV gsl gnl hne;have BSh:=ac BS;have HMh:=ac HMV;have B1V:=ac (B13.out.kept b3V);have B2V:=ac (B23.out.kept b3V)
      have HGV:=ac (HGC3.out.kept b3V);have HCV:=ac (HCS3.out.keep b3V);have HBV:=ac (bg HB3.out b3V);have zV:=b3V.size;have HBV3:=ac b3V;clear BS HMV b3V HMH B1V B2V HGV HCV HBV
      simp only[List.setIfInBounds_toArray,List.set_cons_zero,List.set_cons_succ];go_wp2
      obtain⟨b,off,hbo⟩:∃b off,Hid (0<av.length->no=some ⟨b,off,none⟩/\b<w.heap.size/\∀j,j<av.length->∃cs,w.rangeAt b (off+j*22) cs/\KI w cs (av.getD j cy)):=by
       by_cases h0:0<av.length
       .obtain⟨b,off,e1,e2,e3⟩:=HVv.out h0;exact⟨b,off,fun _=>⟨e1,e2,e3⟩⟩
       .exact⟨0,0,fun h=>absurd h h0⟩
      have HM0:Hid (CM V gn 0 (bz NL b off av 0)):=by
       have e:bz NL b off av 0=fun _ _=>none:=by
        funext L x;unfold bz;rw[if_neg (by omega)]
       show CM V gn 0 (bz NL b off av 0);rw[e];exact HMh.out
      have HNS:Hid (NL.Pairwise Sh.ltc):=by rw[hNL.out];exact Sh.sorted_nds _ _
      have HNN:Hid (NL.Nodup):=by rw[hNL.out];exact Sh.nodup_nds _ _
      have H1:=ac h1;clear h1 HVv
      go_loopw [54] (fun vi wr=>∃i:Nat,i<=av.length/\vi=.int .i64 i/\Hid (CM wr gn i (bz NL b off av i))/\Hid (∀j,j<i->fp NL k n av j=true)/\Hid (aa wr gs [.int .i64 n,.slice (some ⟨gc,0,none⟩) 256 256,.slice bo av.length bc,.map (some gn)] 94)/\Hid (Below w3.heap.size w3 wr)) (fun vi _=>av.length-(intOf vi).toNat)
      case atStart=>exact⟨0,Nat.zero_le _,rfl,HM0,fun j hj=>absurd hj (Nat.not_lt_zero j),BSh,HBV3⟩
      case round=>
       clear HM0 BSh HBV3 HMh zV;obtain⟨i,hi,rfl,HM,HC,BS,HB⟩:=hrel;have swr:=HB.out.size;by_cases hlt:i<av.length
       .have hltz:(i:Int)<(av.length:Int):=by omega
        obtain⟨⟨L,x⟩,hnode⟩:∃p,NL[i]?=some p:=⟨_,List.getElem?_eq_getElem (by have:=H1.out;omega)⟩;obtain⟨bb,rfl,hbl,hcc⟩:=(HCS3.out.keep HB.out) (by have:=H1.out;omega)
        obtain⟨e1,e2⟩:=hcc i _ hnode;dsimp only at e1 e2;have hmem:(L,x)∈(Sh.nds (ay l) (cod (ay l))):=by rw[<-hNL.out];exact List.mem_of_getElem? hnode
        have sm:=Sh.node_small _ _ HCD.out HV40.out hmem;obtain⟨sm1,sm2⟩:=sm
        have hj:Hid (0<L->Sh.ixo (L-1,x/2) NL<i):=fun h0=>Sh.ixo_before HNS.out hnode (by rw[hNL.out];exact Sh.node_up _ _ HCD.out hmem h0) (.inl (by show L-1<L;omega))
        obtain⟨rfl,hbw,hrows⟩:=hbo.out (by omega);obtain⟨cs,hrg,hki⟩:=hrows i hlt;have bwr:Below w.heap.size w wr:=bg HB3.out HB.out;have HRG:=ac (range_keep hrg bwr hbw)
        have HKI:=ac (hki.keep bwr);have hbr:b<wr.heap.size:=Nat.lt_of_lt_of_le hbw bwr.size;have HBW:=ac bwr;obtain⟨sz,hsz⟩:∃sz,Hid (sz=Sh.szN NL (bF av) (bM av) n L x):=⟨_,rfl⟩
        have hszI:Hid (ax sz):=by rw[hsz.out];exact(sK HNS.out hn HC.out hj.out).1
        have CSz:Hid (∀w0,CM w0 gn i (bz NL b off av i)->Qq 98 #[.agg #[.int .i64 n,.slice (some ⟨gc,0,none⟩) 256 256,.slice (some ⟨bb,0,none⟩) av.length bc,.map (some gn)],.agg #[.int .i64 L,.int .u64 x]] w0 (.int .i64 sz)):=fun w0 h0=>by
         rw[hsz.out];exact yO n _ _ gn i b off i L x NL av w0 rfl rfl h0 (by omega) sm2 hj.out
        have HCK:=ac (xj (k:=k) (n:=n) (av:=av) hnode);have HND:=ac hnode;clear hnode hcc hmem hrows hrg hki bwr
        obtain⟨W2,hW2⟩:∃W2,W2=wr.alloc (.cells #[.int .i64 L,.int .u64 x] 83):=⟨_,rfl⟩;have hA:Below wr.heap.size wr W2:=by rw[hW2];exact below_alloc wr _
        have B9:=ac (show aa W2 wr.heap.size [.int .i64 L,.int .u64 x] 83 by rw[hW2];exact aa.new wr _ _);have BS2:=ac (BS.out.kept hA);have HM2:=ac (HM.out.kept hA)
        have HB2:=ac (HB.out.trans (hA.mono swr));have HRG2:=ac (range_keep HRG.out hA hbr);have HKI2:=ac (HKI.out.keep hA);have z2:=hA.size;clear hA HRG HKI BS HM;go_wp2;rw[<-hW2];clear e1 e2 hW2
        refine aB [] (fun w'=>aa w' w.heap.size [.int .i64 k,.int .i64 n,.slice lo l.length lc,.slice (some ⟨b,off,none⟩) av.length nc] 27/\aa w' gs [.int .i64 n,.slice (some ⟨gc,0,none⟩) 256 256,.slice (some ⟨bb,0,none⟩) av.length bc,.map (some gn)] 94/\aa w' wr.heap.size [.int .i64 L,.int .u64 x] 83) (by kernel_rfl) ?_
        have hS:aa W2.drew w.heap.size [.int .i64 k,.int .i64 n,.slice lo l.length lc,.slice (some ⟨b,off,none⟩) av.length nc] 27/\aa W2.drew gs [.int .i64 n,.slice (some ⟨gc,0,none⟩) 256 256,.slice (some ⟨bb,0,none⟩) av.length bc,.map (some gn)] 94/\aa W2.drew wr.heap.size [.int .i64 L,.int .u64 x] 83:=⟨B13.out.kept HB2.out.drew,BS2.out,B9.out⟩
        have HM3:Hid (CM W2.drew gn i (bz NL b off av i)):=HM2.out.kept ((Below.refl _ _).drew);have HB3':Hid (Below w3.heap.size w3 W2.drew):=HB2.out.drew
        have HRG3:Hid (W2.drew.rangeAt b (off+i*22) cs):=HRG2.out;have HKI3:Hid (KI W2.drew cs (av.getD i cy)):=HKI2.out.keep ((Below.refl _ _).drew);have z3':wr.heap.size<W2.drew.heap.size:=hS.2.2.lt
        have hbY:b<W2.drew.heap.size:=by omega
        generalize W2.drew=Y at *;clear B9 BS2 HM2 HB2 HRG2 HKI2 z2
        refine aF 0 hS rfl (fun w0 h0=>by have c1:=h0.1.cell 3 rfl;have d0:=h0.2.1.cell 0 rfl;have d1:=h0.2.1.cell 1 rfl;have d2:=h0.2.1.cell 2 rfl;have d3:=h0.2.1.cell 3 rfl;have f0:=h0.2.2.cell 0 rfl;have f1:=h0.2.2.cell 1 rfl;go_simp;try with_reducible rfl) ?_
        refine aF 1 hS rfl (fun w0 h0=>by have c1:=h0.1.cell 3 rfl;have d0:=h0.2.1.cell 0 rfl;have d1:=h0.2.1.cell 1 rfl;have d2:=h0.2.1.cell 2 rfl;have d3:=h0.2.1.cell 3 rfl;have f0:=h0.2.2.cell 0 rfl;have f1:=h0.2.2.cell 1 rfl;go_simp;try with_reducible rfl) ?_
        refine aF 2 hS rfl (fun w0 h0=>by have c1:=h0.1.cell 3 rfl;have d0:=h0.2.1.cell 0 rfl;have d1:=h0.2.1.cell 1 rfl;have d2:=h0.2.1.cell 2 rfl;have d3:=h0.2.1.cell 3 rfl;have f0:=h0.2.2.cell 0 rfl;have f1:=h0.2.2.cell 1 rfl;go_simp;try with_reducible rfl) ?_
        refine aF 3 hS rfl (fun w0 h0=>by have c1:=h0.1.cell 3 rfl;have d0:=h0.2.1.cell 0 rfl;have d1:=h0.2.1.cell 1 rfl;have d2:=h0.2.1.cell 2 rfl;have d3:=h0.2.1.cell 3 rfl;have f0:=h0.2.2.cell 0 rfl;have f1:=h0.2.2.cell 1 rfl;go_simp;try with_reducible rfl) ?_
        refine aF 4 hS rfl (fun w0 h0=>by have c1:=h0.1.cell 3 rfl;have d0:=h0.2.1.cell 0 rfl;have d1:=h0.2.1.cell 1 rfl;have d2:=h0.2.1.cell 2 rfl;have d3:=h0.2.1.cell 3 rfl;have f0:=h0.2.2.cell 0 rfl;have f1:=h0.2.2.cell 1 rfl;go_simp;try with_reducible rfl) ?_
        refine aF 5 hS rfl (fun w0 h0=>by have c1:=h0.1.cell 3 rfl;have d0:=h0.2.1.cell 0 rfl;have d1:=h0.2.1.cell 1 rfl;have d2:=h0.2.1.cell 2 rfl;have d3:=h0.2.1.cell 3 rfl;have f0:=h0.2.2.cell 0 rfl;have f1:=h0.2.2.cell 1 rfl;go_simp;try with_reducible rfl) ?_
        refine aO 6 ?_;intro K hK;go_simp;refine mr (CSz.out _ HM3.out) fun w6 hb=>?_;replace hS:=And.intro (hS.1.kept hb) (And.intro (hS.2.1.kept hb) (hS.2.2.kept hb));have HM6:=ac (HM3.out.kept hb)
        have HB6:=ac (bg HB3'.out hb);have HRG6:=ac (range_keep HRG3.out hb hbY);have HKI6:=ac (HKI3.out.keep hb);have z6:=hb.size;clear hb HM3 HB3' HRG3 HKI3 CSz
        refine hK.out _ _ (fun _=>hS) ?_;clear hK K;try simp only[Act.put,ak,aj,ai,ae,ah,ag]
        refine aF 7 hS rfl (fun w0 h0=>by have c1:=h0.1.cell 3 rfl;have d0:=h0.2.1.cell 0 rfl;have d1:=h0.2.1.cell 1 rfl;have d2:=h0.2.1.cell 2 rfl;have d3:=h0.2.1.cell 3 rfl;have f0:=h0.2.2.cell 0 rfl;have f1:=h0.2.2.cell 1 rfl;go_simp;try with_reducible rfl) ?_
        refine aF 8 hS rfl (fun w0 h0=>by have c1:=h0.1.cell 3 rfl;have d0:=h0.2.1.cell 0 rfl;have d1:=h0.2.1.cell 1 rfl;have d2:=h0.2.1.cell 2 rfl;have d3:=h0.2.1.cell 3 rfl;have f0:=h0.2.2.cell 0 rfl;have f1:=h0.2.2.cell 1 rfl;go_simp;try with_reducible rfl) ?_
        refine aq.done (by kernel_rfl) ?_ _;obtain⟨hS1,hS2,hS3⟩:=hS;have K1:=ac hS1;have K2:=ac hS2;have K3:=ac hS3;clear hS1 hS2 hS3
        go_wp2_with (refine aN b (off+i*22) cs (by rfl) rfl HRG6.out underlying44 HKI6.out.arg.len ?_);obtain⟨A,hA⟩:∃A,Hid (A=av.getD i cy):=⟨_,rfl⟩;rw[<-hA.out]at HKI6 HCK
        refine mr (pM cs A true sz w6 HKI6.out hszI.out) fun w7 hb=>?_;have K17:=ac (K1.out.kept hb);have K27:=ac (K2.out.kept hb);have K37:=ac (K3.out.kept hb)
        have HM7:=ac (HM6.out.kept hb);have HB7:=ac (bg HB6.out hb);have hb6:b<w6.heap.size:=by omega
        have HRG7:=ac (range_keep HRG6.out hb hb6);have HKI7:=ac (HKI6.out.keep hb);have z7:=hb.size;clear hb K1 K2 K3 HM6 HB6 HRG6 HKI6;obtain⟨E,hE⟩:∃E,Hid (E=grE (aJ A) (kBN A) sz):=⟨_,rfl⟩
        obtain⟨O,hO⟩:∃O,Hid (O=grN (aJ A) (kBN A) (aQ A) true sz):=⟨_,rfl⟩;rw[<-hE.out,<-hO.out];have hhead:=ac HKI7.out.arg.head;obtain⟨AK,hAK⟩:∃AK,Hid (AK=A.K):=⟨_,rfl⟩
        rw[<-hAK.out]at hhead
        have HIi:Hid (ax AK):=by
         rw[hAK.out];obtain⟨_,_,_,_,h,_⟩:=HKI7.out.arg;exact h
        go_wp2;by_cases hE0:E=0
        .subst hE0;have ok0:=FW hE.out.symm;obtain⟨ok1,ok2,ok3⟩:=ok0;have HOK:=ac ok1;have hE0n:((0:Int) != 0)=false:=rfl;have hcx:=bp _ _ (kJ _ ok1)
         have kb:kBN A<=1048576:=by omega
         clear hcx ok1;by_cases hKk:AK=k
         .have hKn:(AK != k)=false:=by simp;exact hKk
          have HKk:=ac hKk;clear hKk
          have CL:Hid (∀w0,KI w0 cs A->Qq 99 #[.agg cs.toArray] w0 (.int .i64 (kBN A))):=fun w0 h0=>zD cs A w0 h0 HOK.out
          obtain⟨BN,hBN⟩:∃BN,Hid (BN=kBN A):=⟨_,rfl⟩;rw[<-hBN.out]at CL ok3 kb
          refine aB [] (fun w'=>aa w' w.heap.size [.int .i64 k,.int .i64 n,.slice lo l.length lc,.slice (some ⟨b,off,none⟩) av.length nc] 27/\w'.rangeAt b (off+i*22) cs) (by kernel_rfl) ?_
          have hS:aa w7.drew w.heap.size [.int .i64 k,.int .i64 n,.slice lo l.length lc,.slice (some ⟨b,off,none⟩) av.length nc] 27/\w7.drew.rangeAt b (off+i*22) cs:=⟨K17.out,HRG7.out⟩
          have HK7:Hid (KI w7.drew cs A):=HKI7.out.keep ((Below.refl _ _).drew);have HM8:Hid (CM w7.drew gn i (bz NL b off av i)):=HM7.out.kept ((Below.refl _ _).drew)
          have K28:Hid (aa w7.drew gs [.int .i64 n,.slice (some ⟨gc,0,none⟩) 256 256,.slice (some ⟨bb,0,none⟩) av.length bc,.map (some gn)] 94):=K27.out
          have K38:Hid (aa w7.drew wr.heap.size [.int .i64 L,.int .u64 x] 83):=K37.out;have HB8:Hid (Below w3.heap.size w3 w7.drew):=HB7.out.drew
          have z8:w7.heap.size<=w7.drew.heap.size:=Nat.le_refl _;generalize w7.drew=Z at *;clear K17 K27 K37 HM7 HB7 HRG7 HKI7
          refine aF 0 hS rfl (fun w0 h0=>by have c0:=h0.1.cell 0 rfl;have e0:w0.cell? ⟨b,off+i*22,none⟩=some (.int .i64 AK):=h0.2 0 _ hhead.out;go_simp;try with_reducible rfl) ?_
          refine aF 1 hS rfl (fun w0 h0=>by have c0:=h0.1.cell 0 rfl;have e0:w0.cell? ⟨b,off+i*22,none⟩=some (.int .i64 AK):=h0.2 0 _ hhead.out;go_simp;try with_reducible rfl) ?_
          refine aF 2 hS rfl (fun w0 h0=>by have c0:=h0.1.cell 0 rfl;have e0:w0.cell? ⟨b,off+i*22,none⟩=some (.int .i64 AK):=h0.2 0 _ hhead.out;go_simp;try with_reducible rfl) ?_
          refine aF 3 hS rfl (fun w0 h0=>by have c0:=h0.1.cell 0 rfl;have e0:w0.cell? ⟨b,off+i*22,none⟩=some (.int .i64 AK):=h0.2 0 _ hhead.out;go_simp;try with_reducible rfl) ?_
          refine aF 4 hS rfl (fun w0 h0=>by have c0:=h0.1.cell 0 rfl;have e0:w0.cell? ⟨b,off+i*22,none⟩=some (.int .i64 AK):=h0.2 0 _ hhead.out;go_simp;try with_reducible rfl) ?_
          refine aF 5 hS rfl (fun w0 h0=>by have c0:=h0.1.cell 0 rfl;have e0:w0.cell? ⟨b,off+i*22,none⟩=some (.int .i64 AK):=h0.2 0 _ hhead.out;go_simp;try with_reducible rfl) ?_
          refine aF 6 hS rfl (fun w0 h0=>by have c0:=h0.1.cell 0 rfl;have e0:w0.cell? ⟨b,off+i*22,none⟩=some (.int .i64 AK):=h0.2 0 _ hhead.out;go_simp;try with_reducible rfl) ?_
          refine aF 7 hS rfl (fun w0 h0=>by have c0:=h0.1.cell 0 rfl;have e0:w0.cell? ⟨b,off+i*22,none⟩=some (.int .i64 AK):=h0.2 0 _ hhead.out;go_simp;try with_reducible rfl) ?_
          refine aF 8 hS rfl (fun w0 h0=>by have c0:=h0.1.cell 0 rfl;have e0:w0.cell? ⟨b,off+i*22,none⟩=some (.int .i64 AK):=h0.2 0 _ hhead.out;go_simp;try with_reducible rfl) ?_
          refine aF 9 hS rfl (fun w0 h0=>by have c0:=h0.1.cell 0 rfl;have e0:w0.cell? ⟨b,off+i*22,none⟩=some (.int .i64 AK):=h0.2 0 _ hhead.out;go_simp;try with_reducible rfl) ?_
          refine aF 10 hS rfl (fun w0 h0=>by have c0:=h0.1.cell 0 rfl;have e0:w0.cell? ⟨b,off+i*22,none⟩=some (.int .i64 AK):=h0.2 0 _ hhead.out;go_simp;try with_reducible rfl) ?_
          refine aF 11 hS rfl (fun w0 h0=>by have c0:=h0.1.cell 0 rfl;have e0:w0.cell? ⟨b,off+i*22,none⟩=some (.int .i64 AK):=h0.2 0 _ hhead.out;go_simp;try with_reducible rfl) ?_
          refine aF 12 hS rfl (fun w0 h0=>by have c0:=h0.1.cell 0 rfl;have e0:w0.cell? ⟨b,off+i*22,none⟩=some (.int .i64 AK):=h0.2 0 _ hhead.out;go_simp;try with_reducible rfl) ?_
          refine aF 13 hS rfl (fun w0 h0=>by have c0:=h0.1.cell 0 rfl;have e0:w0.cell? ⟨b,off+i*22,none⟩=some (.int .i64 AK):=h0.2 0 _ hhead.out;go_simp;try with_reducible rfl) ?_
          refine aq.take 14 (v:=.agg cs.toArray) rfl (by kernel_rfl) (by kernel_rfl) (by kernel_rfl) (by kernel_rfl) (fun _ _ _ h=>h) hS (fun w0 h0=>sW b (off+i*22) cs rfl h0.2 underlying44 HK7.out.arg.len) (by rfl) ?rest50
          simp only[Act.put,ak,aj,ai,ae,ah,ag]
          refine aF 16 hS rfl (fun w0 h0=>by have c0:=h0.1.cell 0 rfl;have e0:w0.cell? ⟨b,off+i*22,none⟩=some (.int .i64 AK):=h0.2 0 _ hhead.out;go_simp;try with_reducible rfl) ?_
          refine aO 15 ?_;intro K hK;go_simp;refine mr (CL.out _ HK7.out) fun w9 hb=>?_;have hbZ:b<Z.heap.size:=by omega
          replace hS:=And.intro (hS.1.kept hb) (range_keep hS.2 hb hbZ);have HM9:=ac (HM8.out.kept hb);have K29:=ac (K28.out.kept hb);have K39:=ac (K38.out.kept hb)
          have HB9':=ac (bg HB8.out hb);clear hb HM8 K28 K38 HB8 CL HK7;refine hK.out _ _ (fun _=>hS) ?_;clear hK K;try simp only[Act.put,ak,aj,ai,ae,ah,ag]
          refine aF 17 hS rfl (fun w0 h0=>by have c0:=h0.1.cell 0 rfl;have e0:w0.cell? ⟨b,off+i*22,none⟩=some (.int .i64 AK):=h0.2 0 _ hhead.out;go_simp;try with_reducible rfl) ?_
          refine aF 18 hS rfl (fun w0 h0=>by have c0:=h0.1.cell 0 rfl;have e0:w0.cell? ⟨b,off+i*22,none⟩=some (.int .i64 AK):=h0.2 0 _ hhead.out;go_simp;try with_reducible rfl) ?_
          refine aq.done (by kernel_rfl) ?_ _;clear hS;by_cases hN:BN=sz
          .have hNn:(BN != sz)=false:=by simp;exact hN
           have HOE:=ac (A5 hA.out HOK.out (hBN.out.symm.trans hN) hO.out);have HN:=ac hN;clear hN;have hOb:=tL av i (by rw[<-hA.out];exact HOK.out);rw[<-HOE.out.1,<-HOE.out.2]at hOb
           have ew:IntKind.i64.wrap (sz-O)=sz-O:=by rw[IntKind.wrap_i64];omega
           have vE:Hid ((Value.agg #[.pointer (some ⟨b,off+i*22,none⟩),.int .i64 (sz-O),.int .i64 O])=nG b off av i):=by
            unfold nG;rw[<-HOE.out.1,<-HOE.out.2];rfl
           have m3:=K29.out.cell 3 rfl;have p0:=K39.out.cell 0 rfl;have p1:=K39.out.cell 1 rfl
           go_wp2_with (refine xW (by rfl) _ _ _ (by rfl) gn i _ L x (.agg #[.pointer (some ⟨b,off+i*22,none⟩),.int .i64 (sz-O),.int .i64 O]) underlying92 (by rfl) (by rfl) (by rfl) HM9.out (by unfold maxLen;omega) (by omega) sm2 ?_)
           intro wA hCM hOA
           have HMA:Hid (CM wA gn (i+1) (bz NL b off av (i+1))):=by
            rw[vE.out,Dc HNN.out HND.out]at hCM;exact hCM
           have BSA:=ac (hOA.cel K29.out hne);have HBA:=ac (HB9'.out.trans (hOA.below gnl))
           have HCA:Hid (∀j,j<i+1->fp NL k n av j=true):=fun j hj2=>by
            by_cases e:j<i
            .exact HC.out j e
            .obtain rfl:j=i:=by omega
             rw[HCK.out,HOK.out,<-hAK.out,decide_eq_true HKk.out,<-HOE.out.2,<-hsz.out];simp
           clear hCM hOA HM9 K29 K39 HB9' m3 p0 p1 hOb HCK HC;go_wp2;exact⟨⟨i+1,by omega,rfl,HMA,HCA,BSA,HBA⟩,by simp only[intOf];omega⟩
          .have hNn:(BN != sz)=true:=by simp;exact hN
           have hs:Hid (bn k n l av=false):=by
            refine pF hlt ?_;rw[<-hNL.out,HCK.out];have g3:bF av i=BN:=by unfold bF;rw[<-hA.out];exact hBN.out.symm
            rw[g3,<-hsz.out,decide_eq_false hN];simp
           have B2f:=B23.out.kept HB9'.out;have HBf:=ac (bg HB3.out HB9'.out)
           go_wp2_with (refine aP (w.heap.size+1) _ [.int .i64 0,.slice none 0 0,.slice none 0 0,.map none] rfl rfl B2f rfl dp (by simp[Value.oneCell']) ?_);intro w9 C9 hO9
           have HB9:=ac (HBf.out.trans (hO9.below (by omega)));have HC9:=ac C9;clear C9 hO9;go_wp2
           exact bodyPost_ret (bJ rfl (w.heap.size+1) [.int .i64 0,.slice none 0 0,.slice none 0 0,.map none] rfl HC9.out underlying94 dp) rfl ⟨_,by rw[hs.out];rfl,⟨_,_,_,_,rfl,rfl,rfl,rfl,rfl⟩,fun h=>absurd (h.symm.trans hs.out) (by decide),HB9.out⟩
         .have hKn:(AK != k)=true:=by simp;exact hKk
          have hs:Hid (bn k n l av=false):=by
           refine pF hlt ?_;rw[<-hNL.out,HCK.out];rw[<-hAK.out,decide_eq_false hKk];simp
          refine aB [] (fun w'=>aa w' w.heap.size [.int .i64 k,.int .i64 n,.slice lo l.length lc,.slice (some ⟨b,off,none⟩) av.length nc] 27/\w'.rangeAt b (off+i*22) cs) (by kernel_rfl) ?_
          have hS:aa w7.drew w.heap.size [.int .i64 k,.int .i64 n,.slice lo l.length lc,.slice (some ⟨b,off,none⟩) av.length nc] 27/\w7.drew.rangeAt b (off+i*22) cs:=⟨K17.out,HRG7.out⟩
          have HK7:Hid (KI w7.drew cs A):=HKI7.out.keep ((Below.refl _ _).drew);have HM8:Hid (CM w7.drew gn i (bz NL b off av i)):=HM7.out.kept ((Below.refl _ _).drew)
          have K28:Hid (aa w7.drew gs [.int .i64 n,.slice (some ⟨gc,0,none⟩) 256 256,.slice (some ⟨bb,0,none⟩) av.length bc,.map (some gn)] 94):=K27.out
          have K38:Hid (aa w7.drew wr.heap.size [.int .i64 L,.int .u64 x] 83):=K37.out;have HB8:Hid (Below w3.heap.size w3 w7.drew):=HB7.out.drew
          have z8:w7.heap.size<=w7.drew.heap.size:=Nat.le_refl _;generalize w7.drew=Z at *;clear K17 K27 K37 HM7 HB7 HRG7 HKI7
          refine aF 0 hS rfl (fun w0 h0=>by have c0:=h0.1.cell 0 rfl;have e0:w0.cell? ⟨b,off+i*22,none⟩=some (.int .i64 AK):=h0.2 0 _ hhead.out;go_simp;try with_reducible rfl) ?_
          refine aF 1 hS rfl (fun w0 h0=>by have c0:=h0.1.cell 0 rfl;have e0:w0.cell? ⟨b,off+i*22,none⟩=some (.int .i64 AK):=h0.2 0 _ hhead.out;go_simp;try with_reducible rfl) ?_
          refine aF 2 hS rfl (fun w0 h0=>by have c0:=h0.1.cell 0 rfl;have e0:w0.cell? ⟨b,off+i*22,none⟩=some (.int .i64 AK):=h0.2 0 _ hhead.out;go_simp;try with_reducible rfl) ?_
          refine aF 3 hS rfl (fun w0 h0=>by have c0:=h0.1.cell 0 rfl;have e0:w0.cell? ⟨b,off+i*22,none⟩=some (.int .i64 AK):=h0.2 0 _ hhead.out;go_simp;try with_reducible rfl) ?_
          refine aF 4 hS rfl (fun w0 h0=>by have c0:=h0.1.cell 0 rfl;have e0:w0.cell? ⟨b,off+i*22,none⟩=some (.int .i64 AK):=h0.2 0 _ hhead.out;go_simp;try with_reducible rfl) ?_
          refine aF 5 hS rfl (fun w0 h0=>by have c0:=h0.1.cell 0 rfl;have e0:w0.cell? ⟨b,off+i*22,none⟩=some (.int .i64 AK):=h0.2 0 _ hhead.out;go_simp;try with_reducible rfl) ?_
          refine aF 6 hS rfl (fun w0 h0=>by have c0:=h0.1.cell 0 rfl;have e0:w0.cell? ⟨b,off+i*22,none⟩=some (.int .i64 AK):=h0.2 0 _ hhead.out;go_simp;try with_reducible rfl) ?_
          refine aF 7 hS rfl (fun w0 h0=>by have c0:=h0.1.cell 0 rfl;have e0:w0.cell? ⟨b,off+i*22,none⟩=some (.int .i64 AK):=h0.2 0 _ hhead.out;go_simp;try with_reducible rfl) ?_
          refine aF 8 hS rfl (fun w0 h0=>by have c0:=h0.1.cell 0 rfl;have e0:w0.cell? ⟨b,off+i*22,none⟩=some (.int .i64 AK):=h0.2 0 _ hhead.out;go_simp;try with_reducible rfl) ?_
          refine aF 9 hS rfl (fun w0 h0=>by have c0:=h0.1.cell 0 rfl;have e0:w0.cell? ⟨b,off+i*22,none⟩=some (.int .i64 AK):=h0.2 0 _ hhead.out;go_simp;try with_reducible rfl) ?_
          refine aF 10 hS rfl (fun w0 h0=>by have c0:=h0.1.cell 0 rfl;have e0:w0.cell? ⟨b,off+i*22,none⟩=some (.int .i64 AK):=h0.2 0 _ hhead.out;go_simp;try with_reducible rfl) ?_
          refine aF 11 hS rfl (fun w0 h0=>by have c0:=h0.1.cell 0 rfl;have e0:w0.cell? ⟨b,off+i*22,none⟩=some (.int .i64 AK):=h0.2 0 _ hhead.out;go_simp;try with_reducible rfl) ?_
          refine aS 12 hS ?_;refine aS 13 hS ?_;refine aS 14 hS ?_;refine aS 15 hS ?_;refine aS 16 hS ?_;refine aS 17 hS ?_
          refine aF 18 hS rfl (fun w0 h0=>by have c0:=h0.1.cell 0 rfl;have e0:w0.cell? ⟨b,off+i*22,none⟩=some (.int .i64 AK):=h0.2 0 _ hhead.out;go_simp;try with_reducible rfl) ?_
          refine aq.done (by kernel_rfl) ?_ _;clear hS;have B2f:=B23.out.kept HB8.out;have HBf:=ac (bg HB3.out HB8.out)
          go_wp2_with (refine aP (w.heap.size+1) _ [.int .i64 0,.slice none 0 0,.slice none 0 0,.map none] rfl rfl B2f rfl dp (by simp[Value.oneCell']) ?_);intro w9 C9 hO9
          have HB9:=ac (HBf.out.trans (hO9.below (by omega)));have HC9:=ac C9;clear C9 hO9;go_wp2
          exact bodyPost_ret (bJ rfl (w.heap.size+1) [.int .i64 0,.slice none 0 0,.slice none 0 0,.map none] rfl HC9.out underlying94 dp) rfl ⟨_,by rw[hs.out];rfl,⟨_,_,_,_,rfl,rfl,rfl,rfl,rfl⟩,fun h=>absurd (h.symm.trans hs.out) (by decide),HB9.out⟩
        .have hE0n:(E != 0)=true:=by simp;exact hE0
         have hs:Hid (bn k n l av=false):=by
          refine pF hlt ?_;rw[<-hNL.out,HCK.out]
          have:aJ A=false\/bF av i≠Sh.szN NL (bF av) (bM av) n L x:=by
           by_cases g:aJ A=true
           .refine .inr fun g2=>hE0 ?_;rw[hE.out];have hc:=bp _ _ (kJ _ g);have g3:bF av i=kBN A:=by unfold bF;rw[hA.out]
            rw[<-hsz.out,g3]at g2;exact qH g (by omega) (by omega)
           .exact .inl (by simpa using g)
          rcases this with g | g
          .rw[g];rfl
          .rw[decide_eq_false g];simp
         refine aB [] (fun w'=>aa w' w.heap.size [.int .i64 k,.int .i64 n,.slice lo l.length lc,.slice (some ⟨b,off,none⟩) av.length nc] 27/\w'.rangeAt b (off+i*22) cs) (by kernel_rfl) ?_
         have hS:aa w7.drew w.heap.size [.int .i64 k,.int .i64 n,.slice lo l.length lc,.slice (some ⟨b,off,none⟩) av.length nc] 27/\w7.drew.rangeAt b (off+i*22) cs:=⟨K17.out,HRG7.out⟩
         have HK7:Hid (KI w7.drew cs A):=HKI7.out.keep ((Below.refl _ _).drew);have HM8:Hid (CM w7.drew gn i (bz NL b off av i)):=HM7.out.kept ((Below.refl _ _).drew)
         have K28:Hid (aa w7.drew gs [.int .i64 n,.slice (some ⟨gc,0,none⟩) 256 256,.slice (some ⟨bb,0,none⟩) av.length bc,.map (some gn)] 94):=K27.out
         have K38:Hid (aa w7.drew wr.heap.size [.int .i64 L,.int .u64 x] 83):=K37.out;have HB8:Hid (Below w3.heap.size w3 w7.drew):=HB7.out.drew
         have z8:w7.heap.size<=w7.drew.heap.size:=Nat.le_refl _;generalize w7.drew=Z at *;clear K17 K27 K37 HM7 HB7 HRG7 HKI7
         refine aF 0 hS rfl (fun w0 h0=>by have c0:=h0.1.cell 0 rfl;have e0:w0.cell? ⟨b,off+i*22,none⟩=some (.int .i64 AK):=h0.2 0 _ hhead.out;go_simp;try with_reducible rfl) ?_
         refine aF 1 hS rfl (fun w0 h0=>by have c0:=h0.1.cell 0 rfl;have e0:w0.cell? ⟨b,off+i*22,none⟩=some (.int .i64 AK):=h0.2 0 _ hhead.out;go_simp;try with_reducible rfl) ?_
         refine aF 2 hS rfl (fun w0 h0=>by have c0:=h0.1.cell 0 rfl;have e0:w0.cell? ⟨b,off+i*22,none⟩=some (.int .i64 AK):=h0.2 0 _ hhead.out;go_simp;try with_reducible rfl) ?_
         refine aS 3 hS ?_;refine aS 4 hS ?_;refine aS 5 hS ?_;refine aS 6 hS ?_;refine aS 7 hS ?_;refine aS 8 hS ?_;refine aS 9 hS ?_
         refine aF 10 hS rfl (fun w0 h0=>by have c0:=h0.1.cell 0 rfl;have e0:w0.cell? ⟨b,off+i*22,none⟩=some (.int .i64 AK):=h0.2 0 _ hhead.out;go_simp;try with_reducible rfl) ?_
         refine aF 11 hS rfl (fun w0 h0=>by have c0:=h0.1.cell 0 rfl;have e0:w0.cell? ⟨b,off+i*22,none⟩=some (.int .i64 AK):=h0.2 0 _ hhead.out;go_simp;try with_reducible rfl) ?_
         refine aS 12 hS ?_;refine aS 13 hS ?_;refine aS 14 hS ?_;refine aS 15 hS ?_;refine aS 16 hS ?_;refine aS 17 hS ?_
         refine aF 18 hS rfl (fun w0 h0=>by have c0:=h0.1.cell 0 rfl;have e0:w0.cell? ⟨b,off+i*22,none⟩=some (.int .i64 AK):=h0.2 0 _ hhead.out;go_simp;try with_reducible rfl) ?_
         refine aq.done (by kernel_rfl) ?_ _;clear hS;have B2f:=B23.out.kept HB8.out;have HBf:=ac (bg HB3.out HB8.out)
         go_wp2_with (refine aP (w.heap.size+1) _ [.int .i64 0,.slice none 0 0,.slice none 0 0,.map none] rfl rfl B2f rfl dp (by simp[Value.oneCell']) ?_);intro w9 C9 hO9
         have HB9:=ac (HBf.out.trans (hO9.below (by omega)));have HC9:=ac C9;clear C9 hO9;go_wp2
         exact bodyPost_ret (bJ rfl (w.heap.size+1) [.int .i64 0,.slice none 0 0,.slice none 0 0,.map none] rfl HC9.out underlying94 dp) rfl ⟨_,by rw[hs.out];rfl,⟨_,_,_,_,rfl,rfl,rfl,rfl,rfl⟩,fun h=>absurd (h.symm.trans hs.out) (by decide),HB9.out⟩
       .obtain rfl:i=av.length:=by omega
        have hall:=ac HC.out;have HSY:Hid (bn k n l av=decide (h_ (ay l) (szC (ay l) n av) n=l)):=tu HLK.out (by rw[<-hNL.out];exact H1.out) h2 h3 (by rw[<-hNL.out];exact HC.out)
        obtain⟨zc1,zc2⟩:=yz (b:=b) (off:=off) (k:=k) HCD.out HV40.out (DO HLK.out) hn h2 (by rw[<-hNL.out];exact H1.out) (by rw[<-hNL.out];exact HC.out);have HZ1:=ac zc1;have HZ2:=ac zc2
        clear zc1 zc2 HC;obtain⟨ls,hls'⟩:∃ls,Hid (ls=h_ (ay l) (szC (ay l) n av) n):=⟨_,rfl⟩
        have CLn:Hid (∀w0,CM w0 gn av.length (bz NL b off av av.length)->aa w0 gc (cC (ay l)) 83->Calls prog 101 #[.agg #[.int .i64 n,.slice (some ⟨gc,0,none⟩) 256 256,.slice bo av.length bc,.map (some gn)]] w0 fun e w'=>∃ao k cap,e=.returned (.slice ao k cap)/\k=ls.length/\Nd w' ao ls/\Below w0.heap.size w0 w'/\Fr w0.heap.size ao):=fun w0 h0 hc=>by
         rw[hls'.out];rw[hNL.out]at h0;exact zy n gc gn av.length _ (ay l) (szC (ay l) n av) _ w0 rfl hc h0 HV40.out HCD.out HZ1.out HZ2.out
        have CEq:Hid (∀(ao:Option Addr) (kk cap:Nat) (w0:World),kk=ls.length->Nd w0 ao ls->Below w.heap.size w w0->Qq 100 #[.slice ao kk cap,.slice lo l.length lc] w0 (.bool (decide (ls=l)))):=fun ao kk cap w0 hkk h1 hb=>wN ao ls kk cap hkk lo l l.length lc rfl w0 h1 (hHX.out.keep hb) (by rw[hls'.out];unfold h_;split<;>simp[aV,fg])
        obtain⟨rs,hrs⟩:∃rs,Hid (rs=decide (ls=l)):=⟨_,rfl⟩;rw[<-hrs.out]at CEq;have HSR:Hid (bn k n l av=rs):=by rw[hrs.out,hls'.out];exact HSY.out
        have HBW:=ac (bg HB3.out HB.out);have HFR2:Hid (Fr (w.heap.size+2) bo):=fun a ha=>by have:=HFR.out a ha;omega
        go_wp2
        refine tH [] (fun w'=>aa w' w.heap.size [.int .i64 k,.int .i64 n,.slice lo l.length lc,.slice no av.length nc] 27/\aa w' gs [.int .i64 n,.slice (some ⟨gc,0,none⟩) 256 256,.slice bo av.length bc,.map (some gn)] 94) (fun(_:Option Addr×Nat×Nat) V=>EX w gc gn av.length (ay l) bo NL (bz NL b off av av.length) [.int .i64 n,.slice (some ⟨gc,0,none⟩) 256 256,.slice bo av.length bc,.map (some gn)] V) (fun a g=>{ a with tmps:=(((((((a.tmps.setIfInBounds 104 (.agg #[.int .i64 n,.slice (some ⟨gc,0,none⟩) 256 256,.slice bo av.length bc,.map (some gn)])).setIfInBounds 105 (.agg #[.int .i64 n,.slice (some ⟨gc,0,none⟩) 256 256,.slice bo av.length bc,.map (some gn)])).setIfInBounds 106 (.slice g.1 g.2.1 g.2.2)).setIfInBounds 107 (.pointer (some ⟨w.heap.size,2,none⟩))).setIfInBounds 108 (.slice lo l.length lc)).setIfInBounds 109 (.bool rs)).setIfInBounds 3 (.bool rs)) }) (by kernel_rfl) ?reg2 ?fin2
        case reg2=>
         have hS:aa wr.drew w.heap.size [.int .i64 k,.int .i64 n,.slice lo l.length lc,.slice no av.length nc] 27/\aa wr.drew gs [.int .i64 n,.slice (some ⟨gc,0,none⟩) 256 256,.slice bo av.length bc,.map (some gn)] 94:=⟨B13.out.kept HB.out.drew,BS.out⟩
         have HE0:Hid (EX w gc gn av.length (ay l) bo NL (bz NL b off av av.length) [.int .i64 0,.slice none 0 0,.slice none 0 0,.map none] wr.drew):=⟨B23.out.kept HB.out.drew,HGC3.out.kept HB.out.drew,HCS3.out.keep HB.out.drew,HM.out.kept ((Below.refl _ _).drew),HBW.out.drew⟩
         generalize wr.drew=Z at *;clear BS HM HB HBW
         refine aF 0 hS rfl (fun w0 h0=>by have c2:=h0.1.cell 2 rfl;have d0:=h0.2.cell 0 rfl;have d1:=h0.2.cell 1 rfl;have d2:=h0.2.cell 2 rfl;have d3:=h0.2.cell 3 rfl;go_simp;try with_reducible rfl) ?_
         refine aF 1 hS rfl (fun w0 h0=>by have c2:=h0.1.cell 2 rfl;have d0:=h0.2.cell 0 rfl;have d1:=h0.2.cell 1 rfl;have d2:=h0.2.cell 2 rfl;have d3:=h0.2.cell 3 rfl;go_simp;try with_reducible rfl) ?_
         refine aF 3 hS rfl (fun w0 h0=>by have c2:=h0.1.cell 2 rfl;have d0:=h0.2.cell 0 rfl;have d1:=h0.2.cell 1 rfl;have d2:=h0.2.cell 2 rfl;have d3:=h0.2.cell 3 rfl;go_simp;try with_reducible rfl) ?_
         refine aF 4 hS rfl (fun w0 h0=>by have c2:=h0.1.cell 2 rfl;have d0:=h0.2.cell 0 rfl;have d1:=h0.2.cell 1 rfl;have d2:=h0.2.cell 2 rfl;have d3:=h0.2.cell 3 rfl;go_simp;try with_reducible rfl) ?_
         refine aO 2 ?_;intro K hK;go_simp;refine(CLn.out _ HE0.out.m HE0.out.c).mono ?_;rintro e w21 ⟨ao,kk,cap,rfl,hkk,hnd,hb,hfa⟩
         have HFA:Hid (Fr (w.heap.size+2) ao):=fun a ha=>by have:=hfa a ha;have:=HE0.out.s.lt;omega
         replace hS:=And.intro (hS.1.kept hb) (hS.2.kept hb);have HE21:=ac (HE0.out.keep hb);have HND9:=ac hnd;have HKK:=ac hkk;clear hb HE0 hnd hkk hfa;refine hK.out _ _ (fun _=>hS) ?_;clear hK K
         try simp only[Act.put,ak,aj,ai,ae,ah,ag]
         refine aO 5 ?_;intro K hK;go_simp;refine mr (CEq.out ao kk cap _ HKK.out HND9.out HE21.out.b) fun w22 hb=>?_;replace hS:=And.intro (hS.1.kept hb) (hS.2.kept hb)
         have HE22:=ac (HE21.out.keep hb);clear hb HE21;refine hK.out _ _ (fun _=>hS) ?_;clear hK K;try simp only[Act.put,ak,aj,ai,ae,ah,ag]
         refine aO 6 ?_;intro K hK
         refine ke (w.heap.size+1) _ [.int .i64 n,.slice (some ⟨gc,0,none⟩) 256 256,.slice bo av.length bc,.map (some gn)] rfl rfl HE22.out.s rfl dp (by simp[Value.oneCell']) ?_;intro w23 BB hOB
         have HE23:=ac (HE22.out.only hOB BB (by omega) (by omega) HFR2.out);replace hS:=And.intro (hOB.cel hS.1 (by omega)) (hOB.cel hS.2 (by omega));clear BB hOB HE22;refine hK.out _ _ (fun _=>hS) ?_;clear hK K
         try simp only[Act.put,ak,aj,ai,ae,ah,ag]
         refine aF 7 hS rfl (fun w0 h0=>by have c2:=h0.1.cell 2 rfl;have d0:=h0.2.cell 0 rfl;have d1:=h0.2.cell 1 rfl;have d2:=h0.2.cell 2 rfl;have d3:=h0.2.cell 3 rfl;go_simp;try with_reducible rfl) ?_
         refine aq.done (by kernel_rfl) ?_ _;refine⟨(ao,kk,cap),?_,HE23.out⟩;simp only[List.setIfInBounds_toArray,List.set_cons_zero,List.set_cons_succ]
        case fin2=>
         rintro⟨ao,kk,cap⟩ wB hEX;have HEX:=ac hEX;clear hEX;simp only[List.setIfInBounds_toArray,List.set_cons_zero,List.set_cons_succ];go_wp2
         refine bodyPost_ret (bJ rfl (w.heap.size+1) [.int .i64 n,.slice (some ⟨gc,0,none⟩) 256 256,.slice bo av.length bc,.map (some gn)] rfl HEX.out.s underlying94 dp) rfl ⟨_,by rw[HSR.out];rfl,⟨_,_,_,_,rfl,rfl,rfl,rfl,rfl⟩,fun _=>⟨gc,bo,bc,gn,av.length,b,off,?_,HEX.out.c,by rw[<-hNL.out];exact HEX.out.t,?_,fun h=>(hbo.out h).1⟩,HEX.out.b⟩
         .rw[<-hNL.out,H1.out]
         .rw[<-hNL.out,H1.out];exact HEX.out.m
    .rw[decide_eq_false h3]
     have hs:Hid (bn k n l av=false):=by
      show bn k n l av=false;unfold bn;rw[decide_eq_false h3];simp
     have B23':=B23.out;go_wp2_with (refine aP (w.heap.size+1) _ [.int .i64 0,.slice none 0 0,.slice none 0 0,.map none] rfl rfl B23' rfl dp (by simp[Value.oneCell']) ?_);intro w9 C9 hO9
     have HB9:=ac (HB3.out.trans (hO9.below (by omega)));have HC9:=ac C9;clear C9 hO9;go_wp2
     exact bodyPost_ret (bJ rfl (w.heap.size+1) [.int .i64 0,.slice none 0 0,.slice none 0 0,.map none] rfl HC9.out underlying94 dp) rfl ⟨_,by rw[hs.out];rfl,⟨_,_,_,_,rfl,rfl,rfl,rfl,rfl⟩,fun h=>absurd (h.symm.trans hs.out) (by decide),HB9.out⟩
   .have h2f:n>8192:=by omega
    have hs:Hid (bn k n l av=false):=by
     show bn k n l av=false;unfold bn;rw[decide_eq_false h2];simp
    have B22':=B22.out;go_wp2_with (refine aP (w.heap.size+1) _ [.int .i64 0,.slice none 0 0,.slice none 0 0,.map none] rfl rfl B22' rfl dp (by simp[Value.oneCell']) ?_);intro w9 C9 hO9
    have HB9:=ac (HB2.out.trans (hO9.below (by omega)));have HC9:=ac C9;clear C9 hO9;go_wp2
    exact bodyPost_ret (bJ rfl (w.heap.size+1) [.int .i64 0,.slice none 0 0,.slice none 0 0,.map none] rfl HC9.out underlying94 dp) rfl ⟨_,by rw[hs.out];rfl,⟨_,_,_,_,rfl,rfl,rfl,rfl,rfl⟩,fun h=>absurd (h.symm.trans hs.out) (by decide),HB9.out⟩
  .have h1f:((NL.length:Int) != (av.length:Int))=true:=by simp;omega
   have hs:Hid (bn k n l av=false):=by
    show bn k n l av=false;unfold bn;rw[<-hNL.out,decide_eq_false h1];simp
   have B22':=B22.out;go_wp2_with (refine aP (w.heap.size+1) _ [.int .i64 0,.slice none 0 0,.slice none 0 0,.map none] rfl rfl B22' rfl dp (by simp[Value.oneCell']) ?_);intro w9 C9 hO9
   have HB9:=ac (HB2.out.trans (hO9.below (by omega)));have HC9:=ac C9;clear C9 hO9;go_wp2
   exact bodyPost_ret (bJ rfl (w.heap.size+1) [.int .i64 0,.slice none 0 0,.slice none 0 0,.map none] rfl HC9.out underlying94 dp) rfl ⟨_,by rw[hs.out];rfl,⟨_,_,_,_,rfl,rfl,rfl,rfl,rfl⟩,fun h=>absurd (h.symm.trans hs.out) (by decide),HB9.out⟩
theorem AQ{fn:Func}{p:Tmp}{T:TypeId}{w:World}{tmps:Array Value}(h:fn.results=#[.cell p T])(g:Nat)(cs:List Value){fs:Array Field}(hp:tmps.getD p undef=.pointer (some ⟨g,0,none⟩))(hc:aa w g cs T)(hu:prog.underlying T=some (.struct fs))(hi:(prog.info? T).map (·.size)=some cs.length):
  (results fn tmps).run prog w=.ok (.agg cs.toArray) w:=by
 have hp':tmps[p]?.getD undef=.pointer (some ⟨g,0,none⟩):=by simpa using hp
 have hl:=run_loadVar_row (P:=prog) w g T T cs.toArray (0,0) _ hc hu rfl (by simpa using hi);simp[results,h,hp',asAddr,hl]
theorem wK(p:Addr)(a b:Int)(w:World):(Instr.field 99 (.agg #[.pointer (some p),.int .i64 a,.int .i64 b]) 0).run prog w=.ok (.pointer (some p)) w:=by kernel_rfl
theorem yV(n:Int)(cs bs:Value)(gn c b off j N x i:Nat)(l:List (Nat×Nat))(av:List RA)(rs:List Value)(A:RA)(w:World)(hcs:cs.oneCell'=true)(hbs:bs.oneCell'=true)(h:CM w gn c (bz l b off av l.length))(hN:N<=64)(hi:i<=N)(hx:x<18446744073709551616)
  (hj:Sh.ixo (i,x/2^(N-i)) l<l.length) (hbw:b<w.heap.size) (hr:w.rangeAt b (off+Sh.ixo (i,x/2^(N-i)) l*22) rs) (hk:KI w rs A):
  Qq 48 #[.agg #[.int .i64 n,cs,bs,.map (some gn)],.agg #[.int .i64 N,.int .u64 x],.int .i64 i] w (.agg rs.toArray):=by
 obtain⟨y,hy⟩:∃y,Hid (y=x/2^(N-i)):=⟨_,rfl⟩;rw[<-hy.out]at hj hr;obtain⟨J,hJ⟩:∃J,Hid (J=Sh.ixo (i,y) l):=⟨_,rfl⟩;rw[<-hJ.out]at hr
 have yl:y<18446744073709551616:=by rw[hy.out];exact Nat.lt_of_le_of_lt (Nat.div_le_self _ _) hx
 obtain⟨W,hW⟩:∃W,W=(w.alloc (.cells #[.int .i64 n,cs,bs,.map (some gn)] 94)).alloc (.cells #[.int .i64 N,.int .u64 x] 83):=⟨_,rfl⟩;have bW:=cW hW;have B1:=eU hW;have B2:=dE hW
 have zW:W.heap.size=w.heap.size+2:=by rw[hW];simp
 have CB:Hid (∀w0,Qq 84 #[.agg #[.int .i64 N,.int .u64 x],.int .i64 i] w0 (.agg #[.int .i64 i,.int .u64 (y:Nat)])):=fun w0=>by
  have:=m8 N x i hN hi hx w0;rw[<-hy.out]at this;exact this
 obtain⟨o1,ho1⟩:∃o1,Hid (o1=bF av J-bM av J):=⟨_,rfl⟩;obtain⟨o2,ho2⟩:∃o2,Hid (o2=bM av J):=⟨_,rfl⟩
 have HLK:Hid (∀w0,CM w0 gn c (bz l b off av l.length)->(Instr.lookup 92 (.map (some gn)) (.agg #[.int .i64 i,.int .u64 (y:Nat)]) false).run prog w0=.ok (.agg #[.pointer (some ⟨b,off+J*22,none⟩),.int .i64 o1,.int .i64 o2]) w0):=fun w0 h0=>by
  have:=h0.look underlying92 (lF w0) (L:=i) (x:=y) (by omega) yl;unfold bz at this;rw[if_pos hj,<-hJ.out]at this;rw[ho1.out,ho2.out];exact this
 have HM:=ac (h.kept bW);have HR:=ac (range_keep hr bW hbw);have HK:=ac (hk.keep bW);have HB:=ac bW;have hbW:b<W.heap.size:=by omega
 clear h hr hk bW hj;go_enter func48,ntmps48;go_wp2_with (refine li mA ?_);rw[<-hW];intro w1 B3 hb1 hs1;simp only[Act.put,ae,List.set];have hSz:w1.heap.size=w.heap.size+3:=by omega
 rw[zW]at B3;go_wp2
 refine aB [9] (fun w'=>aa w' w.heap.size [.int .i64 n,cs,bs,.map (some gn)] 94/\aa w' (w.heap.size+1) [.int .i64 N,.int .u64 x] 83/\CM w' gn c (bz l b off av l.length)/\w'.rangeAt b (off+J*22) rs) (by kernel_rfl) ?_
 have hS:aa w1.drew w.heap.size [.int .i64 n,cs,bs,.map (some gn)] 94/\aa w1.drew (w.heap.size+1) [.int .i64 N,.int .u64 x] 83/\CM w1.drew gn c (bz l b off av l.length)/\w1.drew.rangeAt b (off+J*22) rs:=⟨B1.kept hb1.drew,B2.kept hb1.drew,HM.out.kept hb1.drew,range_keep HR.out hb1.drew hbW⟩
 have HK1:Hid (KI w1.drew rs A):=HK.out.keep hb1.drew;have B31:Hid (aa w1.drew (w.heap.size+2) zv 44):=B3;have HB1:Hid (Below w.heap.size w w1.drew):=(bg HB.out hb1).drew
 have zY:w.heap.size+2<w1.drew.heap.size:=B31.out.lt;have hbY:b<w1.drew.heap.size:=by show b<w1.heap.size;omega
 generalize w1.drew=Y at *;clear B1 B2 HM HR HK HB hb1 B3 hW;refine aF 0 hS rfl (fun w0 h0=>by have c3:=h0.1.cell 3 rfl;have d0:=h0.2.1.cell 0 rfl;have d1:=h0.2.1.cell 1 rfl;go_simp;try with_reducible rfl) ?_
 refine aF 1 hS rfl (fun w0 h0=>by have c3:=h0.1.cell 3 rfl;have d0:=h0.2.1.cell 0 rfl;have d1:=h0.2.1.cell 1 rfl;go_simp;try with_reducible rfl) ?_
 refine aF 2 hS rfl (fun w0 h0=>by have c3:=h0.1.cell 3 rfl;have d0:=h0.2.1.cell 0 rfl;have d1:=h0.2.1.cell 1 rfl;go_simp;try with_reducible rfl) ?_
 refine aF 3 hS rfl (fun w0 h0=>by have c3:=h0.1.cell 3 rfl;have d0:=h0.2.1.cell 0 rfl;have d1:=h0.2.1.cell 1 rfl;go_simp;try with_reducible rfl) ?_;refine aO 4 ?_;intro K hK;go_simp;refine mr (CB.out _) fun w4 hb=>?_;replace hS:=And.intro (hS.1.kept hb) (And.intro (hS.2.1.kept hb) (And.intro (hS.2.2.1.kept hb) (range_keep hS.2.2.2 hb hbY)));have HK4:=ac (HK1.out.keep hb);have B34:=ac (B31.out.kept hb)
 have HB4:=ac (bg HB1.out hb);clear hb HK1 B31 HB1 CB;refine hK.out _ _ (fun _=>hS) ?_;clear hK K;try simp only[Act.put,ak,aj,ai,ae,ah,ag]
 refine aF 5 hS rfl (fun w0 h0=>by have c3:=h0.1.cell 3 rfl;have d0:=h0.2.1.cell 0 rfl;have d1:=h0.2.1.cell 1 rfl;have hlk:=HLK.out w0 h0.2.2.1;go_simp;try with_reducible rfl) ?_
 refine aF 6 hS rfl (fun w0 h0=>by have c3:=h0.1.cell 3 rfl;have d0:=h0.2.1.cell 0 rfl;have d1:=h0.2.1.cell 1 rfl;have hfn:=wK ⟨b,off+J*22,none⟩ o1 o2 w0;go_simp;try with_reducible rfl) ?_
 refine aF 7 hS rfl (fun w0 h0=>by have c3:=h0.1.cell 3 rfl;have d0:=h0.2.1.cell 0 rfl;have d1:=h0.2.1.cell 1 rfl;go_simp;try with_reducible rfl) ?_
 refine aq.take 8 (v:=.agg rs.toArray) rfl (by kernel_rfl) (by kernel_rfl) (by kernel_rfl) (by kernel_rfl) (fun _ _ _ h=>h) hS (fun w0 h0=>sW b (off+J*22) rs rfl h0.2.2.2 underlying44 HK4.out.arg.len) (by rfl) ?rest8
 simp only[Act.put,ak,aj,ai,ae,ah,ag];refine aO 9 ?_;intro K hK;refine ke (w.heap.size+2) _ rs rfl rfl B34.out (by rw[<-HK4.out.arg.nine];rfl) HK4.out.arg.len HK4.out.arg.one ?_;intro w9 B9 hO9
 have HB9:=ac (HB4.out.trans (hO9.below (by omega)));have B9h:=ac B9;refine hK.out _ _ (fun h=>absurd (by decide) h) ?_;clear hK K;try simp only[Act.put,ak,aj,ai,ae,ah,ag]
 refine aq.done (by kernel_rfl) ?_ _;have HL:=ac HK4.out.arg.len;clear hS B9 hO9 HB4 B34 HK4 HLK;go_wp2;exact bodyPost_ret (AQ rfl (w.heap.size+2) rs rfl B9h.out underlying44 HL.out) rfl ⟨rfl,HB9.out⟩
open Go.RowKit Num Bit Ji Hp
end Go.Proofs.YtleegaihbgbcjaaGreatDoor
namespace Go.Proofs.YtleegaihbgbcjaaGreatDoor
open Go.RowKit Num Bit
def stp(k M x:Nat):Nat:=(x/2^k&&&M)|||((x&&&M)*2^k)
def FK(x:Nat):Nat:=(x/4294967296)|||(x*4294967296%18446744073709551616)
theorem m1:∀j,j<64->(6148914691236517205:Nat).testBit j=decide (j/1%2=0):=by decide
theorem m2:∀j,j<64->(3689348814741910323:Nat).testBit j=decide (j/2%2=0):=by decide
theorem m4:∀j,j<64->(1085102592571150095:Nat).testBit j=decide (j/4%2=0):=by decide
def Ay(x:Nat):Nat:=FK (stp 16 281470681808895 (stp 8 71777214294589695 x))
def rv(x:Nat):Nat:=Ay (stp 4 1085102592571150095 (stp 2 3689348814741910323 (stp 1 6148914691236517205 x)))
open Go.RowKit Num Bit Ji Hp Ka Hr
def cZ(v:Nat->Nat):List Int:=(List.range 256).map fun c=>(v c:Int)
theorem length_lst(v:Nat->Nat):(cZ v).length=256:=by simp[cZ]
theorem gi_lst(v:Nat->Nat)(c:Nat)(h:c<256):gi (cZ v) c=(v c:Int):=by
 unfold gi cZ;rw[List.getD_eq_getElem?_getD,List.getElem?_map,List.getElem?_range h];rfl
structure rR (v:Nat->Nat):Prop where
 le:∀c,v c<=40
 out:∀c,256<=c->v c=0
 fit:fh v=true
theorem oK{v:Nat->Nat}(h:∀c,256<=c->v c=0):ay (cZ v)=v:=by
 funext c;unfold ay;by_cases g:c<256
 .rw[gi_lst v c g,Int.toNat_natCast]
 .have:gi (cZ v) c=0:=by unfold gi;rw[List.getD_eq_getElem?_getD,List.getElem?_eq_none (by rw[length_lst];omega)];rfl
  rw[this,h c (by omega)];rfl
theorem x5{l:List Int}{top:Int}(h1:l.length=256)(h2:∀i,i<l.length->0<=gi l i/\gi l i<=top):cY l top=true:=by
 unfold cY
 have:l.any (bad top)=false:=xH fun i hi=>by
  have:=h2 i hi;unfold bad;simp;omega
 rw[this];simp[h1]
theorem uV{v:Nat->Nat}(h:rR v):fc (cZ v)=true:=by
 unfold fc;rw[x5 (length_lst v) (fun i hi=>by rw[length_lst]at hi;rw[gi_lst v i hi];have:=h.le i;omega),oK h.out,h.fit];rfl
def hl0:List Nat:=(((List.replicate 256 0).set 97 3).set 98 1).set 99 1
def FL:List Int:=hl0.map fun n:Nat=>(n:Int)
theorem hu:used (ay FL) 256=[97,98,99]:=by decide +kernel
theorem DM(l:List Int)(h:cY l 1048576=true):rR (hlen (ay l) 256):=by
 obtain⟨h1,h2⟩:=jF h;obtain⟨f1,f2,_⟩:=hlen_fit (ay l) (rr h2);exact⟨f2,fun c hc=>hlen_none _ c (fun g=>by have:=(gh.1 g).1;omega),f1⟩
theorem FJ(l:List Int):(fg l).map (fun n:Nat=>(n:Int))=cZ (hlen (ay l) 256):=by
 unfold fg cZ;rw[List.map_map];rfl
theorem hcell{w:World}{g:Nat}{l:List Int}(h:aa w g (aX (fg l)) 3)(c:Nat)(hc:c<256):w.cell? ⟨g,c,none⟩=some (.int .i64 (hlen (ay l) 256 c:Nat)):=by
 have:=h.cell c (jT _ c (by simp[fg];omega));rw[this];unfold fg;rw[List.getD_eq_getElem?_getD,List.getElem?_map,List.getElem?_range hc];rfl
end Go.Proofs.YtleegaihbgbcjaaGreatDoor
namespace Go.Proofs.YtleegaihbgbcjaaGreatDoor.Sh
open Num Bit Hr
theorem least{p:Nat->Prop}:∀n,p n->∃m,p m/\∀j,j<m->¬p j:=by
 intro n;induction n using Nat.strongRecOn with
 | ind n ih=>
  intro h;by_cases g:∃j,j<n/\p j
  .obtain⟨j,h1,h2⟩:=g;exact ih j h1 h2
  .exact⟨n,h,fun j hj hp=>g ⟨j,hj,hp⟩⟩
theorem inj_le{α:Type}:∀(l:List α) (m:List Nat) (f:α->Nat),l.Nodup->(∀a,a∈l->∀b,b∈l->f a=f b->a=b)->(∀a,a∈l->f a∈m)->l.length<=m.length
 | [],_,_,_,_,_=>Nat.zero_le _
 | a::l,m,f,hn,hi,hm=>by
  have ha:=hm a (List.mem_cons_self ..);have hn':=List.nodup_cons.1 hn
  have ih:=inj_le l (m.erase (f a)) f hn'.2 (fun b hb d hd e=>hi b (List.mem_cons_of_mem _ hb) d (List.mem_cons_of_mem _ hd) e) (fun b hb=>by
   refine(List.mem_erase_of_ne fun e=>?_).2 (hm b (List.mem_cons_of_mem _ hb))
   exact hn'.1 (hi b (List.mem_cons_of_mem _ hb) a (List.mem_cons_self ..) e ▸ hb))
  rw[List.length_erase_of_mem ha]at ih;have:=List.length_pos_of_mem ha;rw[List.length_cons];omega
section
variable (l:Nat->Nat)
theorem apart_code(h40:∀c,l c<=40)(hout:∀c,256<=c->l c=0):Apart l (fk l 256):=fun c d hc hd hle e=>by
 refine Classical.byContradiction fun hne=>?_;have c1:c<256:=Nat.lt_of_not_le fun z=>by have:=hout c z;omega
 have d1:d<256:=Nat.lt_of_not_le fun z=>by have:=hout d z;omega
 exact(apart l 256 hc hd (h40 d) c1 d1 hne hle).1 e
end
end Go.Proofs.YtleegaihbgbcjaaGreatDoor.Sh
namespace Go.Proofs.YtleegaihbgbcjaaGreatDoor
open Go.RowKit Num Bit
theorem rj(l:List Bool)(b:Bool)(i:Nat)(h:i<l.length):Sh.ct b l (i+1)=Sh.ct b l i+(bt l i==b).toNat:=by
 unfold Sh.ct;rw[List.take_add_one,List.filter_append,List.length_append,List.getElem?_eq_getElem h];unfold bt;rw[List.getD_eq_getElem?_getD,List.getElem?_eq_getElem h];cases e:(l[i]==b)<;>simp[e]
theorem w_(l:List Bool):∀i,i<=l.length->cntB (frL l) i=Sh.ct true l i
 | 0,_=>by simp[cntB,Sh.ct]
 | i+1,h=>by
  rw[cntB,w_ l i (by omega),rj l true i (by omega)];unfold frL;rw[eD,decide_eq_true (show i<l.length by omega),Bool.true_and];cases bt l i<;>rfl
theorem rm(l:List Bool):∀i,i<=l.length->Sh.ct true l i+Sh.ct false l i=i
 | 0,_=>by simp[Sh.ct]
 | i+1,h=>by
  have:=rm l i (by omega);rw[rj l true i (by omega),rj l false i (by omega)];cases bt l i<;>simp<;>omega
theorem oN(l:List Bool)(b:Bool)(i:Nat)(h:i<=l.length):cB (frL l) b i=Sh.ct b l i:=by
 unfold cB;rw[w_ l i h];have:=rm l i h;cases b
 .simp;omega
 .simp
theorem jS{k:Int}(hk:1<=k/\k<=3)(l:List Bool)(h:l.length<=3000):aJ (kB k (l.length:Int) (frL l))=true/\kBN (kB k (l.length:Int) (frL l))=(l.length:Int)/\aQ (kB k (l.length:Int) (frL l))=frL l:=EN k _ _ hk.1 hk.2 (db _ _) (dL _ _ (by omega)) (by omega)
theorem rL(l:List Bool)(i:Nat)(b:Bool)(h:l[i]?=some b):bitAt (frL l) i=b:=by
 unfold frL
 have hi:i<l.length:=by
  by_cases g:i<l.length
  .exact g
  .rw[List.getElem?_eq_none (by omega)]at h;cases h
 rw[eD,decide_eq_true hi,Bool.true_and];unfold bt;rw[List.getD_eq_getElem?_getD,h];rfl
def vT(t:List Nat):Nat->Nat:=Hp.hlen (ay (aV (ctl t t.length))) 256
def kT(t:List Nat):Nat->Nat:=cod (vT t)
def nT(t:List Nat):List (Nat×Nat):=Sh.nds (vT t) (kT t)
def rwT(t:List Nat)(p:Nat×Nat):List Bool:=Sh.nrow (vT t) (kT t) t p.1 p.2
def aT(k:Int)(t:List Nat):List RA:=(nT t).map fun p=>kB k ((rwT t p).length:Int) (frL (rwT t p))
theorem Ii(t:List Nat)(c:Nat)(h:c<256):ay (aV (ctl t t.length)) c=Sh.cp (fun d=>decide (d=c)) t t.length:=by
 unfold ay aV gi;rw[List.getD_eq_getElem?_getD,List.getElem?_map,List.getElem?_eq_getElem (by rw[ii];exact h)];have:=kN t t.length c h;unfold gt at this
 rw[List.getD_eq_getElem?_getD,List.getElem?_eq_getElem (by rw[ii];exact h)]at this;simpa using this
theorem ph(t:List Nat)(h:t.length<=1048576):cY (aV (ctl t t.length)) 1048576=true:=sp _ (ii _ _) fun y hy=>by
 obtain⟨c,_,rfl⟩:=List.mem_map.1 hy;have:=Sh.cp_le (fun d=>decide (d=c)) t t.length;omega
theorem dn(t:List Nat)(h:t.length<=1048576):rR (vT t):=DM _ (ph t h)
theorem uS(t:List Nat):aV (fg (aV (ctl t t.length)))=cZ (vT t):=FJ _
theorem sx(t:List Nat)(h:t.length<=1048576)(c:Nat)(hc:c<256):0<vT t c↔0<Sh.cp (fun d=>decide (d=c)) t t.length:=by
 have:=(Ka.hlen_fit (ay (aV (ctl t t.length))) (rr (jF (ph t h)).2)).2.2 c hc;rw[Ii t c hc]at this;exact this
theorem Hi{P:Nat->Bool}{t:List Nat}{j n:Nat}(hj:j<n)(h:P (gt t j)=true):0<Sh.cp P t n:=by
 have:=Sh.cp_mono P t (j+1) (n-(j+1));rw[show j+1+(n-(j+1))=n by omega,Sh.cp,h]at this;simp at this;omega
theorem fE(t:List Nat)(h:t.length<=1048576)(hB:cM t)(j:Nat)(hj:j<t.length):0<vT t (gt t j):=(sx t h _ (hB j)).2 (Hi hj (by simp))
theorem bP(t:List Nat)(h:t.length<=1048576)(c:Nat):kT t c<2^vT t c:=by
 have hL:=dn t h;unfold kT cod;by_cases h0:0<vT t c
 .rw[if_pos h0]
  have hc:c<256:=by
   by_cases g:c<256
   .exact g
   .have:=hL.out c (by omega);omega
  exact Hr.code_lt _ _ h0 (hL.le c) hc (Ka.fit_need hL.fit)
 .rw[if_neg h0];exact Nat.two_pow_pos _
theorem fu(t:List Nat)(h:t.length<=1048576):Sh.Apart (vT t) (kT t):=fun c d hc hd hle e=>by
 have hL:=dn t h;refine Sh.apart_code (vT t) hL.le hL.out c d hc hd hle ?_;unfold Sh.pre at e⊢;unfold kT cod at e;rw[if_pos hd,if_pos hc]at e;exact e
theorem aT_len(k:Int)(t:List Nat):(aT k t).length=(nT t).length:=by unfold aT;simp
theorem j4{k:Int}{t:List Nat}{j:Nat}{p:Nat×Nat}(h:(nT t)[j]?=some p):(aT k t).getD j cy=kB k ((rwT t p).length:Int) (frL (rwT t p)):=by
 unfold aT;rw[List.getD_eq_getElem?_getD,List.getElem?_map,h];rfl
theorem kF(t:List Nat)(p:Nat×Nat):(rwT t p).length=Sh.cp (Sh.st (vT t) (kT t) p.1 p.2) t t.length:=by
 unfold rwT Sh.nrow;exact Sh.length_row _ _ _ _
theorem gH(t:List Nat)(p:Nat×Nat):(rwT t p).length<=t.length:=by rw[kF];exact Sh.cp_le _ _ _
theorem tK{k:Int}(hk:1<=k/\k<=3){t:List Nat}(hn:t.length<=3000){j:Nat}{p:Nat×Nat}(h:(nT t)[j]?=some p):bF (aT k t) j=((rwT t p).length:Int)/\bM (aT k t) j=(Sh.ct true (rwT t p) (rwT t p).length:Int):=by
 have hl:=gH t p;obtain⟨e1,e2,e3⟩:=jS hk (rwT t p) (by omega);unfold bF bM;rw[j4 h,e2,e3,Int.toNat_natCast,oN _ _ _ (Nat.le_refl _)];exact⟨rfl,rfl⟩
theorem wS(t:List Nat)(L x:Nat)(b:Bool):Sh.ct b (rwT t (L,x)) (rwT t (L,x)).length=Sh.cp (Sh.bg (vT t) (kT t) (L+1) (2*x+b.toNat)) t t.length:=by
 rw[kF];unfold rwT Sh.nrow;rw[Sh.row_ct _ _ _ _ _ (Nat.le_refl _)];exact Sh.cp_congr fun j _=>Sh.st_step _ _ _ _ _ _
theorem sL{k:Int}(hk:1<=k/\k<=3){t:List Nat}(hn:t.length<=3000){L x:Nat}(hL:0<L)(hp:(L-1,x/2)∈nT t):Sh.szN (nT t) (bF (aT k t)) (bM (aT k t)) (t.length:Int) L x=(Sh.cp (Sh.bg (vT t) (kT t) L x) t t.length:Int):=by
 have hg:=Sh.get_ixo hp;obtain⟨e1,e2⟩:=tK hk hn hg;have c1:=wS t (L-1) (x/2) true;have c0:=wS t (L-1) (x/2) false;have cb:=rm (rwT t (L-1,x/2)) _ (Nat.le_refl _)
 rw[show L-1+1=L by omega]at c1 c0;unfold Sh.szN;rw[if_neg (by omega),e1,e2];by_cases o:x%2=1
 .rw[if_pos o,c1,show 2*(x/2)+true.toNat=x by simp;omega]
 .rw[if_neg o];rw[show 2*(x/2)+false.toNat=x by simp;omega]at c0;omega
theorem km{t:List Nat}(hn:t.length<=3000){L x:Nat}(h:(L,x)∈nT t):∃c,c<256/\L<vT t c/\Sh.pre (vT t) (kT t) L c=x:=by
 unfold nT at h;rw[Sh.mem_nds _ _ _ _ (bP t (by omega))]at h;exact(Sh.isN_iff _ _ _ _).1 h.2
theorem IB{k:Int}(hk:1<=k/\k<=3){t:List Nat}(hn:t.length<=3000)(hB:cM t)(i:Nat)(hi:i<(aT k t).length):fp (nT t) k (t.length:Int) (aT k t) i=true:=by
 rw[aT_len]at hi;obtain⟨⟨L,x⟩,hp⟩:∃p,(nT t)[i]?=some p:=⟨_,List.getElem?_eq_getElem hi⟩;have hmem:(L,x)∈nT t:=List.mem_of_getElem? hp;obtain⟨c,hc,hcl,hpre⟩:=km hn hmem;have kl:=bP t (by omega)
 rw[xj hp]
 have hK:(kB k ((rwT t (L,x)).length:Int) (frL (rwT t (L,x)))).K=k:=by
  have hr:=gH t (L,x);have he:kE k ((rwT t (L,x)).length:Int) (frL (rwT t (L,x)))=0:=nX k _ _ hk.1 hk.2 (dL _ _ (by omega));unfold kB;rw[if_pos he]
 have hl:=gH t (L,x);rw[j4 hp,(jS hk (rwT t (L,x)) (by omega)).1,hK,(tK hk hn hp).1,kF]
 have key:(Sh.cp (Sh.st (vT t) (kT t) L x) t t.length:Int)=Sh.szN (nT t) (bF (aT k t)) (bM (aT k t)) (t.length:Int) L x:=by
  by_cases h0:L=0
  .subst h0;have x0:x=0:=by rw[<-hpre];exact Sh.pre_zero _ _ (kl c)
   subst x0;unfold Sh.szN;rw[if_pos rfl,Sh.cp_all];intro j hj;unfold Sh.st;rw[decide_eq_true (fE t (by omega) hB j hj),Sh.pre_zero _ _ (kl _)];rfl
  .rw[sL hk hn (by omega) (Sh.node_up _ _ kl hmem (by omega))];congr 1;refine Sh.cp_congr fun j hj=>?_;rw[<-hpre];exact(Sh.bg_st _ _ (fu t (by omega)) hcl (fE t (by omega) hB j hj)).symm
 rw[<-key];simp
theorem sM{k:Int}(hk:1<=k/\k<=3){t:List Nat}(hn:t.length<=3000)(hB:cM t)(c:Nat)(hc:c<256)(h0:0<vT t c):szC (vT t) (t.length:Int) (aT k t) c=Sh.cp (fun d=>decide (d=c)) t t.length:=by
 have hL:=dn t (by omega);have kl:=bP t (by omega);unfold szC;have:=sL hk hn h0 (Sh.leaf_up _ _ kl hL.le hc h0)
 rw[show Sh.szN (Sh.nds (vT t) (cod (vT t))) (bF (aT k t)) (bM (aT k t)) (t.length:Int) (vT t c) (cod (vT t) c)=_ from this,Int.toNat_natCast]
 exact Sh.cp_congr fun j hj=>Sh.bg_all _ _ (fu t (by omega)) h0 (fE t (by omega) hB j hj)
theorem mF{t:List Nat}(hn:t.length<=3000){c:Nat}(hc:c<256)(h:vT t c=0):Sh.cp (fun d=>decide (d=c)) t t.length=0:=by
 have:=sx t (by omega) c hc;omega
theorem wT(t:List Nat)(q:Nat):∀n,Sh.cp (fun d=>decide (d<q+1)) t n=Sh.cp (fun d=>decide (d<q)) t n+Sh.cp (fun d=>decide (d=q)) t n
 | 0=>rfl
 | n+1=>by
  rw[Sh.cp,Sh.cp,Sh.cp,wT t q n];by_cases h1:gt t n<q
  .rw[decide_eq_true (show gt t n<q+1 by omega),decide_eq_true h1,decide_eq_false (show ¬gt t n=q by omega)];simp;omega
  .by_cases h2:gt t n=q
   .rw[decide_eq_true (show gt t n<q+1 by omega),decide_eq_false h1,decide_eq_true h2];simp;omega
   .rw[decide_eq_false (show ¬gt t n<q+1 by omega),decide_eq_false h1,decide_eq_false h2];simp
theorem uR{k:Int}(hk:1<=k/\k<=3){t:List Nat}(hn:t.length<=3000)(hB:cM t):∀q,q<=256->lsum (vT t) (szC (vT t) (t.length:Int) (aT k t)) q=Sh.cp (fun d=>decide (d<q)) t t.length
 | 0,_=>by
  rw[lsum,Sh.cp_congr (Q:=fun _=>false) (fun j _=>decide_eq_false (by omega))];generalize t.length=n;induction n with
  | zero=>rfl
  | succ n ih=>rw[Sh.cp,<-ih];rfl
 | q+1,h=>by
  rw[lsum,uR hk hn hB q (by omega),wT];by_cases h0:0<vT t q
  .rw[if_pos h0,sM hk hn hB q (by omega) h0]
  .rw[if_neg h0,mF hn (by omega) (by omega)]
theorem Ep{k:Int}(hk:1<=k/\k<=3){t:List Nat}(hn:t.length<=3000)(hB:cM t):c_ (vT t) (szC (vT t) (t.length:Int) (aT k t)) 256=ctl t t.length:=by
 refine list_ext _ _ (by rw[ie,ii]) fun c hc=>?_;rw[ie]at hc;rw[qF _ _ _ _ hc,kN _ _ _ hc];by_cases h0:0<vT t c
 .rw[if_pos ⟨hc,h0⟩,sM hk hn hB c hc h0]
 .rw[if_neg (fun g=>h0 g.2),mF hn hc (by omega)]
theorem pG{k:Int}(hk:1<=k/\k<=3){t:List Nat}(hn:t.length<=3000)(hB:cM t):bn k (t.length:Int) (cZ (vT t)) (aT k t)=true:=by
 have hL:=dn t (by omega);have e:ay (cZ (vT t))=vT t:=oK hL.out;rw[tu (uV hL) (by rw[e];exact(aT_len k t).symm) (by omega) hk (by rw[e];exact fun i hi=>IB hk hn hB i hi),e]
 refine decide_eq_true ?_;unfold h_;rw[uR hk hn hB 256 (Nat.le_refl _),Sh.cp_all _ _ _ (fun j _=>decide_eq_true (hB j)),if_pos rfl,Ep hk hn hB,uS]
structure SX (w:World) (cs:List Value) (k:Int) (t:List Nat):Prop where
 ex:∃lo lc no nc,cs=[.int .i64 k,.int .i64 (t.length:Int),.slice lo 256 lc,.slice no (aT k t).length nc]/\Nd w lo (cZ (vT t))/\Lv w no (aT k t)
 kn:1<=k/\k<=3
 le:t.length<=3000
 by_:cM t
 gv:GV w
theorem SX.keep{w w':World}{cs:List Value}{k:Int}{t:List Nat}(h:SX w cs k t)(hb:Below w.heap.size w w'):SX w' cs k t:=by
 obtain⟨⟨lo,lc,no,nc,e,h1,h2⟩,a,b,c,d⟩:=h;exact⟨⟨lo,lc,no,nc,e,h1.keep hb,h2.keep hb⟩,a,b,c,d.keep hb⟩
theorem ks{t:List Nat}(hn:t.length<=3000):(nT t).length<=10240:=by
 have hL:=dn t (by omega)
 have key:∀p:Nat×Nat,∃c,p∈nT t->c<256/\p.1<vT t c/\Sh.pre (vT t) (kT t) p.1 c=p.2:=fun p=>by
  by_cases h:p∈nT t
  .obtain⟨c,h1⟩:=km hn (L:=p.1) (x:=p.2) h;exact⟨c,fun _=>h1⟩
  .exact⟨0,fun g=>absurd g h⟩
 have:=Sh.inj_le (nT t) (List.range 10240) (fun p=>Classical.choose (key p)*40+p.1) (Sh.nodup_nds _ _) (fun a ha b hb e=>?_) (fun a ha=>?_)
 .simpa using this
 .obtain⟨a1,a2,a3⟩:=Classical.choose_spec (key a) ha;obtain⟨b1,b2,b3⟩:=Classical.choose_spec (key b) hb;have v1:=hL.le (Classical.choose (key a));have v2:=hL.le (Classical.choose (key b))
  have e1:a.1=b.1:=by omega
  have e2:Classical.choose (key a)=Classical.choose (key b):=by omega
  refine Prod.ext e1 ?_;rw[<-a3,<-b3,e2];exact congrArg (fun L=>Sh.pre (vT t) (kT t) L _) e1
 .obtain⟨a1,a2,a3⟩:=Classical.choose_spec (key a) ha;have v1:=hL.le (Classical.choose (key a));exact List.mem_range.2 (by omega)
structure OT (w:World) (k:Int) (t:List Nat) (n:Int) (cv bv:Value) (gn:Nat):Prop where
 ex:∃gc bo bc c b off,cv=.slice (some ⟨gc,0,none⟩) 256 256/\bv=.slice bo (nT t).length bc/\aa w gc (cC (vT t)) 83/\Cs w bo (nT t)/\CM w gn c (bz (nT t) b off (aT k t) (nT t).length)/\(0<(nT t).length->b<w.heap.size/\∀j,j<(nT t).length->∃cs,w.rangeAt b (off+j*22) cs/\KI w cs ((aT k t).getD j cy))
theorem OT.keep{w w':World}{k:Int}{t:List Nat}{n:Int}{cv bv:Value}{gn:Nat}(h:OT w k t n cv bv gn)(hb:Below w.heap.size w w'):OT w' k t n cv bv gn:=by
 obtain⟨gc,bo,bc,c,b,off,e1,e2,h1,h2,h3,h4⟩:=h;refine⟨gc,bo,bc,c,b,off,e1,e2,h1.kept hb,h2.keep hb,h3.kept hb,fun h0=>?_⟩;obtain⟨a1,a2⟩:=h4 h0;refine⟨Nat.lt_of_lt_of_le a1 hb.size,fun j hj=>?_⟩
 obtain⟨cs,b1,b2⟩:=a2 j hj;exact⟨cs,range_keep b1 hb a1,b2.keep hb⟩
theorem OT.one{w:World}{k:Int}{t:List Nat}{n:Int}{cv bv:Value}{gn:Nat}(h:OT w k t n cv bv gn):cv.oneCell'=true/\bv.oneCell'=true:=by
 obtain⟨gc,bo,bc,c,b,off,e1,e2,_⟩:=h;rw[e1,e2];exact⟨rfl,rfl⟩
theorem mY(cs:List Value)(k:Int)(t:List Nat)(w:World)(h:SX w cs k t):
  Calls prog 43 #[.agg cs.toArray] w fun e w'=>∃cv bv gn,e=.returned (.tuple #[.agg #[.int .i64 (t.length:Int),cv,bv,.map (some gn)],.bool true])/\OT w' k t (t.length:Int) cv bv gn/\Below w.heap.size w w':=by
 obtain⟨⟨lo,lc,no,nc,rfl,h1,h2⟩,hk,hn,hB,G⟩:=h;have hL:=dn t (by omega);have e0:ay (cZ (vT t))=vT t:=oK hL.out
 have C:=pA k (t.length:Int) lo (cZ (vT t)) lc no (aT k t) nc w (by unfold ax;omega) (by unfold ax;omega) h1 (by rw[length_lst];omega) h2 (by rw[aT_len];have:=ks hn;omega) G
 rw[length_lst,pG hk hn hB]at C;refine C.mono ?_;rintro e w' ⟨sv,rfl,_,ho,hb⟩;obtain⟨⟨gc,bo,bc,gn,c,b,off,rfl,a1,a2,a3,a4⟩⟩:=ho rfl;rw[e0]at a1 a2 a3
 refine⟨_,_,gn,by rw[e0];rfl,⟨gc,bo,bc,c,b,off,rfl,rfl,a1,a2,a3,fun h0=>?_⟩,hb⟩;rw[<-aT_len k t]at h0;obtain⟨b',off',e1,e2,e3⟩:=h2 h0;have:=(a4 h0).symm.trans e1
 simp only[Option.some.injEq,Addr.mk.injEq,and_true]at this;obtain⟨rfl,rfl⟩:=this;refine⟨Nat.lt_of_lt_of_le e2 hb.size,fun j hj=>?_⟩;obtain⟨cs,b1,b2⟩:=e3 j (by rw[aT_len];exact hj)
 exact⟨cs,range_keep b1 hb e2,b2.keep hb⟩
theorem uC{t:List Nat}(hn:t.length<=3000){c l:Nat}(hc:c<256)(hl:l<vT t c):(l,Sh.pre (vT t) (kT t) l c)∈nT t:=by
 have hL:=dn t (by omega);unfold nT;rw[Sh.mem_nds _ _ _ _ (bP t (by omega))];have:=hL.le c;exact⟨by omega,(Sh.isN_iff _ _ _ _).2 ⟨c,hc,hl,rfl⟩⟩
theorem s7(k:Int)(t:List Nat)(n:Int)(cv bv:Value)(gn c l:Nat)(w:World)(h:OT w k t n cv bv gn)(hn:t.length<=3000)(hc:c<256)(hl:l<vT t c):
  Calls prog 48 #[.agg #[.int .i64 n,cv,bv,.map (some gn)],.agg #[.int .i64 (vT t c:Nat),.int .u64 (kT t c:Nat)],.int .i64 l] w fun e w'=>∃rs:List Value,e=.returned (.agg rs.toArray)/\KI w' rs (kB k ((rwT t (l,Sh.pre (vT t) (kT t) l c)).length:Int) (frL (rwT t (l,Sh.pre (vT t) (kT t) l c))))/\Below w.heap.size w w':=by
 have h1:=h.one;have hL:=dn t (by omega);have hv:=hL.le c;have hm:=uC hn hc hl;have hj:=Sh.ixo_lt hm;obtain⟨gc,bo,bc,c',b,off,e1,e2,a1,a2,a3,a4⟩:=h;obtain⟨hb,hr⟩:=a4 (by omega)
 obtain⟨rs,r1,r2⟩:=hr _ hj;rw[j4 (Sh.get_ixo hm)]at r2
 refine(yV n cv bv gn c' b off 0 (vT t c) (kT t c) l (nT t) (aT k t) rs _ w h1.1 h1.2 a3 (by omega) (by omega) (iF (bP t (by omega) c) hv) hj hb r1 r2).mono ?_;rintro e w' ⟨rfl,hb'⟩;exact⟨rs,rfl,r2.keep hb',hb'⟩
theorem tJ{k:Int}(hk:1<=k/\k<=3){t:List Nat}(hn:t.length<=3000)(hB:cM t){c l i:Nat}(hl:l<vT t c)(hi:i<=t.length):
  grN (aJ (kB k ((rwT t (l,Sh.pre (vT t) (kT t) l c)).length:Int) (frL (rwT t (l,Sh.pre (vT t) (kT t) l c))))) (kBN (kB k ((rwT t (l,Sh.pre (vT t) (kT t) l c)).length:Int) (frL (rwT t (l,Sh.pre (vT t) (kT t) l c))))) (aQ (kB k ((rwT t (l,Sh.pre (vT t) (kT t) l c)).length:Int) (frL (rwT t (l,Sh.pre (vT t) (kT t) l c))))) (Sh.nb (vT t) (kT t) l c) (Sh.cc (vT t) (kT t) t c l i:Int)=(Sh.cc (vT t) (kT t) t c (l+1) i:Int):=by
 have hr:=gH t (l,Sh.pre (vT t) (kT t) l c);obtain⟨e1,e2,e3⟩:=jS hk (rwT t (l,Sh.pre (vT t) (kT t) l c)) (by omega);have vs:=fE t (by omega) hB
 have hcc:Sh.cc (vT t) (kT t) t c l i<=(rwT t (l,Sh.pre (vT t) (kT t) l c)).length:=by
  rw[kF,Sh.cc_st _ _ (fu t (by omega)) hl (fun j hj=>vs j (by omega))];have:=Sh.cp_mono (Sh.st (vT t) (kT t) l (Sh.pre (vT t) (kT t) l c)) t i (t.length-i);rw[show i+(t.length-i)=t.length by omega]at this
  exact this
 unfold grN;rw[e1,e2,e3,if_pos (qH rfl (by omega) (by omega)),Int.toNat_natCast,oN _ _ _ hcc];have:=Sh.cc_down (vT t) (kT t) (fu t (by omega)) hl hi vs;unfold rwT;rw[this]
theorem yW(cs:List Value)(k:Int)(t:List Nat)(c:Nat)(i:Int)(w:World)(h:SX w cs k t)(hc:c<256)(hi:ax i):
  Qq 14 #[.agg cs.toArray,.int .u8 c,.int .i64 i] w (.tuple #[.int .i64 (iZ t c i),.int .i64 (gV t i)]):=by
 have HSX:=ac h;have hkn:=h.kn;have hle:=h.le;have HBy:=ac h.by_;obtain⟨⟨lo,lc,no,nc,rfl,_,_⟩,_,_,_,_⟩:=h;have hL:=ac (dn t (by omega))
 obtain⟨W,hW⟩:∃W,W=w.alloc (.cells #[.int .i64 k,.int .i64 (t.length:Int),.slice lo 256 lc,.slice no (aT k t).length nc] 27):=⟨_,rfl⟩;have bW:=aM hW
 have B1:=ac (show aa W w.heap.size [.int .i64 k,.int .i64 (t.length:Int),.slice lo 256 lc,.slice no (aT k t).length nc] 27 by rw[hW];exact aa.new w _ _);have HB:=ac bW
 have C0:=ac (mY _ k t W (HSX.out.keep bW));clear bW HSX;go_enter func14,ntmps14;go_wp2_with fail;rw[<-hW];refine C0.out.mono ?_;rintro e w1 ⟨cv,bv,gn,rfl,hot,hb⟩;have B11:=ac (B1.out.kept hb)
 have HB1:=ac (bg HB.out hb);have HO1:=ac hot;have hone:=hot.one;have z1:=B11.out.lt;clear hW hb C0 B1 HB hot;have c1:=B11.out.cell 1 rfl
 obtain⟨gc,bo,bc,c',b,off,rfl,rfl,a1,_⟩:=HO1.out.ex;clear hone;by_cases hi0:i<0
 .have hE:Hid (gV t i=3):=if_pos (.inl hi0);have hN:Hid (iZ t c i=0):=if_neg (by rw[hE.out];decide);go_wp2;go_ret2;refine⟨by rw[hE.out,hN.out];rfl,?_⟩;exact HB1.out.alloc HB1.out.size _
 .by_cases hi1:(t.length:Int)<i
  .have hi1':i>(t.length:Int):=hi1;have hE:Hid (gV t i=3):=if_pos (.inr hi1);have hN:Hid (iZ t c i=0):=if_neg (by rw[hE.out];decide);clear hi1;go_wp2;go_ret2;refine⟨by rw[hE.out,hN.out];rfl,?_⟩
   exact HB1.out.alloc HB1.out.size _
  .have hi1':¬i>(t.length:Int):=by omega
   have hE:Hid (gV t i=0):=if_neg (by omega);have hN:Hid (iZ t c i=(Sh.cp (fun d=>decide (d=c)) t i.toNat:Int)):=if_pos hE.out;obtain⟨i,rfl⟩:=Int.eq_ofNat_of_zero_le (show 0<=i by omega)
   rw[Int.toNat_natCast]at hN;have q0:=a1.cell (c*2) (gF (vT t) c hc);have q1:=a1.cell (c*2+1) (gE (vT t) c hc);have lgc:=a1.lt;have v40:=hL.out.le c;clear a1;by_cases hv0:vT t c=0
   .have hz:Hid (Sh.cp (fun d=>decide (d=c)) t i=0):=by
     have h1:=mF hle hc hv0;have h2:=Sh.cp_mono (fun d=>decide (d=c)) t i (t.length-i);rw[show i+(t.length-i)=t.length by omega]at h2;show Sh.cp (fun d=>decide (d=c)) t i=0;omega
    rw[hv0]at q0;have q0':w1.cell? ⟨gc,c*2,none⟩=some (.int .i64 0):=q0;clear q0 hv0;go_wp2;go_ret2;refine⟨by rw[hE.out,hN.out,hz.out];rfl,?_⟩
    exact(HB1.out.alloc HB1.out.size _).alloc (by have:=HB1.out.size;simp;omega) _
   .have hvz:((vT t c:Int)==0)=false:=by simp;omega
    have HV0:=ac (show 0<vT t c by omega);clear hv0
    obtain⟨V,hV⟩:∃V,V=(w1.alloc (.cells #[.int .i64 (t.length:Int),.slice (some ⟨gc,0,none⟩) 256 256,.slice bo (nT t).length bc,.map (some gn)] 94)).alloc (.cells #[.int .i64 (vT t c:Nat),.int .u64 (cod (vT t) c:Nat)] 83):=⟨_,rfl⟩
    have bV:Below w1.heap.size w1 V:=by rw[hV];exact(below_alloc w1 _).alloc (by simp) _
    have K1:=ac (show aa V w1.heap.size [.int .i64 (t.length:Int),.slice (some ⟨gc,0,none⟩) 256 256,.slice bo (nT t).length bc,.map (some gn)] 94 by rw[hV];exact(aa.new w1 _ _).alloc _)
    have K2:=ac (show aa V (w1.heap.size+1) [.int .i64 (vT t c:Nat),.int .u64 (cod (vT t) c:Nat)] 83 by rw[hV];exact aa.new2 w1 _ _ _);have HOV:=ac (HO1.out.keep bV)
    have HBV:=ac (bg HB1.out bV);clear bV HO1 HB1;go_wp2
    rw[show((w1.alloc (.cells #[.int .i64 (t.length:Int),.slice (some ⟨gc,0,none⟩) 256 256,.slice bo (nT t).length bc,.map (some gn)] 94)).alloc (.cells #[.int .i64 (vT t c:Nat),.int .u64 (cod (vT t) c:Nat)] 83))=V from hV.symm]
    clear hV q0 q1 c1 B11;have HIL:=ac (show i<=t.length by omega);clear hi0 hi1' hi;generalize decide (t.length<i)=b1;generalize decide ((i:Int)<0)=b0
    have HCC0:Hid (Sh.cc (vT t) (kT t) t c 0 i=i):=Sh.cc_zero _ _ (bP t (by omega) c) fun j _=>bP t (by omega) _
    go_loopw [2,37] (fun vi vl wr=>∃l:Nat,l<=vT t c/\vl=.int .i64 l/\vi=.int .i64 (Sh.cc (vT t) (kT t) t c l i:Nat)/\Hid (OT wr k t (t.length:Int) (.slice (some ⟨gc,0,none⟩) 256 256) (.slice bo (nT t).length bc) gn)/\Hid (aa wr w1.heap.size [.int .i64 (t.length:Int),.slice (some ⟨gc,0,none⟩) 256 256,.slice bo (nT t).length bc,.map (some gn)] 94)/\Hid (aa wr (w1.heap.size+1) [.int .i64 (vT t c:Nat),.int .u64 (cod (vT t) c:Nat)] 83)/\Hid (Below w.heap.size w wr)) (fun _ vl _=>vT t c-(intOf vl).toNat)
    case atStart=>exact⟨0,Nat.zero_le _,rfl,by rw[HCC0.out],HOV,K1,K2,HBV⟩
    case round=>
     clear HOV K1 K2 HBV;obtain⟨l,hl,rfl,rfl,HO,K1,K2,HB⟩:=hrel;by_cases hlt:l<vT t c
     .have hltz:(l:Int)<(vT t c:Int):=by omega
      have CR:Hid (∀w0,OT w0 k t (t.length:Int) (.slice (some ⟨gc,0,none⟩) 256 256) (.slice bo (nT t).length bc) gn->Calls prog 48 #[.agg #[.int .i64 (t.length:Int),.slice (some ⟨gc,0,none⟩) 256 256,.slice bo (nT t).length bc,.map (some gn)],.agg #[.int .i64 (vT t c:Nat),.int .u64 (cod (vT t) c:Nat)],.int .i64 l] w0 fun e w'=>∃rs:List Value,e=.returned (.agg rs.toArray)/\KI w' rs (kB k ((rwT t (l,Sh.pre (vT t) (kT t) l c)).length:Int) (frL (rwT t (l,Sh.pre (vT t) (kT t) l c))))/\Below w0.heap.size w0 w'):=fun w0 h0=>s7 k t _ _ _ gn c l w0 h0 hle hc hlt
      have CT:Hid (∀w0,Qq 49 #[.agg #[.int .i64 (vT t c:Nat),.int .u64 (cod (vT t) c:Nat)],.int .i64 l] w0 (.bool (Sh.nb (vT t) (kT t) l c))):=fun w0=>m6 (vT t c) (kT t c) l (by omega) hlt (iF (bP t (by omega) c) v40) w0
      have HRD:=ac (tJ (k:=k) hkn hle HBy.out hlt HIL.out);obtain⟨A,hA⟩:∃A,Hid (A=kB k ((rwT t (l,Sh.pre (vT t) (kT t) l c)).length:Int) (frL (rwT t (l,Sh.pre (vT t) (kT t) l c)))):=⟨_,rfl⟩
      rw[<-hA.out]at CR HRD;obtain⟨bb,hbb⟩:∃bb,Hid (bb=Sh.nb (vT t) (kT t) l c):=⟨_,rfl⟩;rw[<-hbb.out]at CT HRD
      have ccl:Sh.cc (vT t) (kT t) t c l i<=3000:=Nat.le_trans (Sh.cp_le _ _ _) (Nat.le_trans HIL.out hle);obtain⟨I,hI⟩:∃I,Hid (I=Sh.cc (vT t) (kT t) t c l i):=⟨_,rfl⟩;rw[<-hI.out]at ccl HRD;rw[<-hI.out]
      obtain⟨I2,hI2⟩:∃I2,Hid (I2=Sh.cc (vT t) (kT t) t c (l+1) i):=⟨_,rfl⟩;rw[<-hI2.out]at HRD;have zk:=K2.out.lt;have zb:=HB.out.size;go_wp2
      refine aB [] (fun w'=>aa w' w1.heap.size [.int .i64 (t.length:Int),.slice (some ⟨gc,0,none⟩) 256 256,.slice bo (nT t).length bc,.map (some gn)] 94/\aa w' (w1.heap.size+1) [.int .i64 (vT t c:Nat),.int .u64 (cod (vT t) c:Nat)] 83) (by kernel_rfl) ?_
      have hS:aa wr.drew w1.heap.size [.int .i64 (t.length:Int),.slice (some ⟨gc,0,none⟩) 256 256,.slice bo (nT t).length bc,.map (some gn)] 94/\aa wr.drew (w1.heap.size+1) [.int .i64 (vT t c:Nat),.int .u64 (cod (vT t) c:Nat)] 83:=⟨K1.out,K2.out⟩
      have HO2:Hid (OT wr.drew k t (t.length:Int) (.slice (some ⟨gc,0,none⟩) 256 256) (.slice bo (nT t).length bc) gn):=HO.out.keep ((Below.refl _ _).drew);have HB2:Hid (Below w.heap.size w wr.drew):=HB.out.drew
      generalize wr.drew=Y at *;clear HO HB K1 K2
      refine aF 0 hS rfl (fun w0 h0=>by have d0:=h0.1.cell 0 rfl;have d1:=h0.1.cell 1 rfl;have d2:=h0.1.cell 2 rfl;have d3:=h0.1.cell 3 rfl;have f0:=h0.2.cell 0 rfl;have f1:=h0.2.cell 1 rfl;go_simp;try with_reducible rfl) ?_
      refine aF 1 hS rfl (fun w0 h0=>by have d0:=h0.1.cell 0 rfl;have d1:=h0.1.cell 1 rfl;have d2:=h0.1.cell 2 rfl;have d3:=h0.1.cell 3 rfl;have f0:=h0.2.cell 0 rfl;have f1:=h0.2.cell 1 rfl;go_simp;try with_reducible rfl) ?_
      refine aF 2 hS rfl (fun w0 h0=>by have d0:=h0.1.cell 0 rfl;have d1:=h0.1.cell 1 rfl;have d2:=h0.1.cell 2 rfl;have d3:=h0.1.cell 3 rfl;have f0:=h0.2.cell 0 rfl;have f1:=h0.2.cell 1 rfl;go_simp;try with_reducible rfl) ?_
      refine aF 4 hS rfl (fun w0 h0=>by have d0:=h0.1.cell 0 rfl;have d1:=h0.1.cell 1 rfl;have d2:=h0.1.cell 2 rfl;have d3:=h0.1.cell 3 rfl;have f0:=h0.2.cell 0 rfl;have f1:=h0.2.cell 1 rfl;go_simp;try with_reducible rfl) ?_
      refine aF 5 hS rfl (fun w0 h0=>by have d0:=h0.1.cell 0 rfl;have d1:=h0.1.cell 1 rfl;have d2:=h0.1.cell 2 rfl;have d3:=h0.1.cell 3 rfl;have f0:=h0.2.cell 0 rfl;have f1:=h0.2.cell 1 rfl;go_simp;try with_reducible rfl) ?_
      refine aF 7 hS rfl (fun w0 h0=>by have d0:=h0.1.cell 0 rfl;have d1:=h0.1.cell 1 rfl;have d2:=h0.1.cell 2 rfl;have d3:=h0.1.cell 3 rfl;have f0:=h0.2.cell 0 rfl;have f1:=h0.2.cell 1 rfl;go_simp;try with_reducible rfl) ?_
      refine aO 3 ?_;intro K hK;go_simp;refine(CR.out _ HO2.out).mono ?_;rintro e w3 ⟨rs,rfl,hki,hb⟩;replace hS:=And.intro (hS.1.kept hb) (hS.2.kept hb);have HK3:=ac hki;have HO3:=ac (HO2.out.keep hb)
      have HB3:=ac (bg HB2.out hb);clear hb hki HO2 HB2 CR;refine hK.out _ _ (fun _=>hS) ?_;clear hK K;try simp only[Act.put,ak,aj,ai,ae,ah,ag]
      refine aO 6 ?_;intro K hK;go_simp;refine mr (CT.out _) fun w4 hb=>?_;replace hS:=And.intro (hS.1.kept hb) (hS.2.kept hb);have HK4:=ac (HK3.out.keep hb);have HO4:=ac (HO3.out.keep hb)
      have HB4:=ac (bg HB3.out hb);clear hb HK3 HO3 HB3 CT;refine hK.out _ _ (fun _=>hS) ?_;clear hK K;try simp only[Act.put,ak,aj,ai,ae,ah,ag]
      refine aO 8 ?_;intro K hK;go_simp;refine mr (pM rs A bb (I:Int) w4 HK4.out (by unfold ax;omega)) fun w5 hb=>?_;replace hS:=And.intro (hS.1.kept hb) (hS.2.kept hb)
      have HO5:=ac (HO4.out.keep hb);have HB5:=ac (bg HB4.out hb);rw[HRD.out];obtain⟨EE,hEE⟩:∃EE,Hid (EE=grE (aJ A) (kBN A) (I:Int)):=⟨_,rfl⟩;rw[<-hEE.out]
      clear hb HK4 HO4 HB4 hEE;refine hK.out _ _ (fun _=>hS) ?_;clear hK K;try simp only[Act.put,ak,aj,ai,ae,ah,ag]
      refine aF 9 hS rfl (fun w0 h0=>by have d0:=h0.1.cell 0 rfl;have d1:=h0.1.cell 1 rfl;have d2:=h0.1.cell 2 rfl;have d3:=h0.1.cell 3 rfl;have f0:=h0.2.cell 0 rfl;have f1:=h0.2.cell 1 rfl;go_simp;try with_reducible rfl) ?_
      refine aF 10 hS rfl (fun w0 h0=>by have d0:=h0.1.cell 0 rfl;have d1:=h0.1.cell 1 rfl;have d2:=h0.1.cell 2 rfl;have d3:=h0.1.cell 3 rfl;have f0:=h0.2.cell 0 rfl;have f1:=h0.2.cell 1 rfl;go_simp;try with_reducible rfl) ?_
      refine aF 11 hS rfl (fun w0 h0=>by have d0:=h0.1.cell 0 rfl;have d1:=h0.1.cell 1 rfl;have d2:=h0.1.cell 2 rfl;have d3:=h0.1.cell 3 rfl;have f0:=h0.2.cell 0 rfl;have f1:=h0.2.cell 1 rfl;go_simp;try with_reducible rfl) ?_
      refine aF 12 hS rfl (fun w0 h0=>by have d0:=h0.1.cell 0 rfl;have d1:=h0.1.cell 1 rfl;have d2:=h0.1.cell 2 rfl;have d3:=h0.1.cell 3 rfl;have f0:=h0.2.cell 0 rfl;have f1:=h0.2.cell 1 rfl;go_simp;try with_reducible rfl) ?_
      refine aq.done (by kernel_rfl) ?_ _;obtain⟨s1,s2⟩:=hS;have K15:=ac s1;have K25:=ac s2;clear s1 s2;go_wp2;exact⟨⟨l+1,by omega,rfl,by rw[hI2.out],HO5,K15,K25,HB5⟩,by simp only[intOf];omega⟩
     .obtain rfl:l=vT t c:=by omega
      have HFin:Hid (Sh.cc (vT t) (kT t) t c (vT t c) i=Sh.cp (fun d=>decide (d=c)) t i):=Sh.cc_all _ _ (fu t (by omega)) HV0.out fun j hj=>fE t (by omega) HBy.out j (Nat.lt_of_lt_of_le hj HIL.out);go_wp2
      go_ret2;exact⟨by rw[hE.out,hN.out,<-HFin.out];rfl,HB.out⟩
def bu(k:Int)(t:List Nat)(l c:Nat):RA:=kB k ((rwT t (l,Sh.pre (vT t) (kT t) l c)).length:Int) (frL (rwT t (l,Sh.pre (vT t) (kT t) l c)))
theorem IR{t:List Nat}(hn:t.length<=3000)(hB:cM t){c l:Nat}(hl:l<vT t c):Sh.cc (vT t) (kT t) t c l t.length=(rwT t (l,Sh.pre (vT t) (kT t) l c)).length:=by
 rw[kF,Sh.cc_st _ _ (fu t (by omega)) hl (fun j hj=>fE t (by omega) hB j (by omega))]
theorem Ab{k:Int}(hk:1<=k/\k<=3){t:List Nat}(hn:t.length<=3000)(hB:cM t){j l:Nat}(hj:j<t.length)(hl:l<vT t (gt t j)):
  gsE (aJ (bu k t l (gt t j))) (kBN (bu k t l (gt t j))) (aQ (bu k t l (gt t j))) (Sh.nb (vT t) (kT t) l (gt t j)) (Sh.cc (vT t) (kT t) t (gt t j) (l+1) j:Int)=0/\
  gsX (aJ (bu k t l (gt t j))) (kBN (bu k t l (gt t j))) (aQ (bu k t l (gt t j))) (Sh.nb (vT t) (kT t) l (gt t j)) (Sh.cc (vT t) (kT t) t (gt t j) (l+1) j:Int)=(Sh.cc (vT t) (kT t) t (gt t j) l j:Int):=by
 have hr:=gH t (l,Sh.pre (vT t) (kT t) l (gt t j));obtain⟨e1,e2,e3⟩:=jS hk (rwT t (l,Sh.pre (vT t) (kT t) l (gt t j))) (by omega);have vs:=fE t (by omega) hB;have hA:=fu t (by omega)
 have hb:=Sh.cc_bit (vT t) (kT t) hA hj hl vs;have hd:=Sh.cc_down (vT t) (kT t) hA hl (Nat.le_of_lt hj) vs
 have hlt:Sh.cc (vT t) (kT t) t (gt t j) l j<(rwT t (l,Sh.pre (vT t) (kT t) l (gt t j))).length:=by
  by_cases g:Sh.cc (vT t) (kT t) t (gt t j) l j<(rwT t (l,Sh.pre (vT t) (kT t) l (gt t j))).length
  .exact g
  .rw[List.getElem?_eq_none (show(Sh.nrow (vT t) (kT t) t l (Sh.pre (vT t) (kT t) l (gt t j))).length<=_ from Nat.le_of_not_lt g)]at hb;cases hb
 have hs:=np ((rwT t (l,Sh.pre (vT t) (kT t) l (gt t j))).length:Int) (frL (rwT t (l,Sh.pre (vT t) (kT t) l (gt t j)))) (Sh.nb (vT t) (kT t) l (gt t j)) (Sh.cc (vT t) (kT t) t (gt t j) (l+1) j:Int) _ (by rw[Int.toNat_natCast];exact hlt) (by
  unfold here;rw[show bitAt (frL (rwT t (l,Sh.pre (vT t) (kT t) l (gt t j)))) (Sh.cc (vT t) (kT t) t (gt t j) l j)=_ from rL _ _ _ hb,oN _ _ _ (Nat.le_of_lt hlt)]
  rw[show Sh.ct (Sh.nb (vT t) (kT t) l (gt t j)) (rwT t (l,Sh.pre (vT t) (kT t) l (gt t j))) (Sh.cc (vT t) (kT t) t (gt t j) l j)=_ from hd]
  simp)
 unfold gsE gsX bu;rw[e1,e2,e3,hs];exact⟨rfl,rfl⟩
theorem Ac{k:Int}(hk:1<=k/\k<=3){t:List Nat}(hn:t.length<=3000)(hB:cM t){c:Nat}(hv:0<vT t c)(K:Int)(hK:ax K):∃F:Nat->Int,F (vT t c)=K/\(∀l,ax (F l))/\
  (∀m,m<vT t c->(m+1=vT t c\/fY t c K)->(fY t c K/\gsE (aJ (bu k t m c)) (kBN (bu k t m c)) (aQ (bu k t m c)) (Sh.nb (vT t) (kT t) m c) (F (m+1))=0/\gsX (aJ (bu k t m c)) (kBN (bu k t m c)) (aQ (bu k t m c)) (Sh.nb (vT t) (kT t) m c) (F (m+1))=F m)\/(¬fY t c K/\gsE (aJ (bu k t m c)) (kBN (bu k t m c)) (aQ (bu k t m c)) (Sh.nb (vT t) (kT t) m c) (F (m+1))=3))/\
  (fY t c K->F 0=fI t c K):=by
 have hA:=fu t (by omega);have vs:=fE t (by omega) hB;by_cases ok:fY t c K
 .obtain⟨k0,k1⟩:=id ok;obtain⟨K,rfl⟩:=Int.eq_ofNat_of_zero_le k0;obtain⟨j,hj,hp,hc⟩:=rp (Int.ofNat_lt.1 k1);have hp':gt t j=c:=of_decide_eq_true hp
  refine⟨fun l=>(Sh.cc (vT t) (kT t) t c l j:Int),?_,fun l=>?_,fun m hm _=>.inl ⟨ok,?_⟩,fun _=>?_⟩
  .show(Sh.cc (vT t) (kT t) t c (vT t c) j:Int)=_;rw[Sh.cc_all _ _ hA hv (fun i hi=>vs i (by omega)),hc]
  .have:=Sh.cp_le (Sh.bg (vT t) (kT t) l (Sh.pre (vT t) (kT t) l c)) t j;show ax (Sh.cc (vT t) (kT t) t c l j:Int);unfold ax Sh.cc;omega
  .subst hp';exact Ab hk hn hB hj hm
  .show(Sh.cc (vT t) (kT t) t c 0 j:Int)=_;unfold fI;rw[if_pos ok,Sh.cc_zero _ _ (bP t (by omega) c) (fun i _=>bP t (by omega) _),Int.toNat_natCast,List.getD_eq_getElem?_getD,<-hc,Sh.mem_at _ _ _ _ hj hp];rfl
 .refine⟨fun _=>K,rfl,fun _=>hK,fun m hm h1=>.inr ⟨ok,?_⟩,fun h=>absurd h ok⟩;have hm1:m+1=vT t c:=h1.resolve_right ok;have hr:=gH t (m,Sh.pre (vT t) (kT t) m c)
  obtain⟨e1,e2,e3⟩:=jS hk (rwT t (m,Sh.pre (vT t) (kT t) m c)) (by omega);have hd:=Sh.cc_down (vT t) (kT t) hA hm (Nat.le_refl _) vs;rw[IR hn hB hm,hm1,Sh.cc_all _ _ hA hv (fun i hi=>vs i (by omega))]at hd
  have hi:=jb ((rwT t (m,Sh.pre (vT t) (kT t) m c)).length:Int) (frL (rwT t (m,Sh.pre (vT t) (kT t) m c))) (Sh.nb (vT t) (kT t) m c) K
  rw[Int.toNat_natCast,oN _ _ _ (Nat.le_refl _),show Sh.ct (Sh.nb (vT t) (kT t) m c) (rwT t (m,Sh.pre (vT t) (kT t) m c)) (rwT t (m,Sh.pre (vT t) (kT t) m c)).length=_ from hd]at hi;unfold gsE bu
  rw[e1,e2,e3,if_pos rfl,if_neg (fun h=>ok (hi.1 h))]
theorem yQ(cs:List Value)(k:Int)(t:List Nat)(c:Nat)(K:Int)(w:World)(h:SX w cs k t)(hc:c<256)(hK:ax K):
  Qq 22 #[.agg cs.toArray,.int .u8 c,.int .i64 K] w (.tuple #[.int .i64 (fI t c K),.int .i64 (gD t c K)]):=by
 have HSX:=ac h;have hkn:=h.kn;have hle:=h.le;have HBy:=ac h.by_;obtain⟨⟨lo,lc,no,nc,rfl,_,_⟩,_,_,_,_⟩:=h;have hL:=ac (dn t (by omega))
 obtain⟨W,hW⟩:∃W,W=w.alloc (.cells #[.int .i64 k,.int .i64 (t.length:Int),.slice lo 256 lc,.slice no (aT k t).length nc] 27):=⟨_,rfl⟩;have bW:=aM hW
 have B1:=ac (show aa W w.heap.size [.int .i64 k,.int .i64 (t.length:Int),.slice lo 256 lc,.slice no (aT k t).length nc] 27 by rw[hW];exact aa.new w _ _);have HB:=ac bW
 have C0:=ac (mY _ k t W (HSX.out.keep bW));clear bW HSX;go_enter func22,ntmps22;go_wp2_with fail;rw[<-hW];refine C0.out.mono ?_;rintro e w1 ⟨cv,bv,gn,rfl,hot,hb⟩;have B11:=ac (B1.out.kept hb)
 have HB1:=ac (bg HB.out hb);have HO1:=ac hot;have hone:=hot.one;have z1:=B11.out.lt;clear hW hb C0 B1 HB hot;have c1:=B11.out.cell 1 rfl
 obtain⟨gc,bo,bc,c',b,off,rfl,rfl,a1,_⟩:=HO1.out.ex;clear hone;have q0:=a1.cell (c*2) (gF (vT t) c hc);have q1:=a1.cell (c*2+1) (gE (vT t) c hc);have lgc:=a1.lt;have v40:=hL.out.le c;clear a1
 by_cases hv0:vT t c=0
 .have hno:Hid (¬fY t c K):=fun h=>by
   have h1:=mF hle hc hv0;obtain⟨g0,g1⟩:=h;omega
  rw[hv0]at q0;have q0':w1.cell? ⟨gc,c*2,none⟩=some (.int .i64 0):=q0;clear q0 hv0;go_wp2;go_ret2;refine⟨by unfold fI gD;rw[if_neg hno.out,if_neg hno.out];rfl,?_⟩
  exact(HB1.out.alloc HB1.out.size _).alloc (by have:=HB1.out.size;simp;omega) _
 .have hvz:((vT t c:Int)==0)=false:=by simp;omega
  have HV0:=ac (show 0<vT t c by omega);obtain⟨F,F0,F1,F2,F3⟩:=Ac hkn hle HBy.out HV0.out K hK;have HF0:=ac F0;have HF1:=ac F1;have HF2:=ac F2;have HF3:=ac F3;clear hv0 F0 F1 F2 F3
  obtain⟨V,hV⟩:∃V,V=(w1.alloc (.cells #[.int .i64 (t.length:Int),.slice (some ⟨gc,0,none⟩) 256 256,.slice bo (nT t).length bc,.map (some gn)] 94)).alloc (.cells #[.int .i64 (vT t c:Nat),.int .u64 (cod (vT t) c:Nat)] 83):=⟨_,rfl⟩
  have bV:Below w1.heap.size w1 V:=by rw[hV];exact(below_alloc w1 _).alloc (by simp) _
  have K1:=ac (show aa V w1.heap.size [.int .i64 (t.length:Int),.slice (some ⟨gc,0,none⟩) 256 256,.slice bo (nT t).length bc,.map (some gn)] 94 by rw[hV];exact(aa.new w1 _ _).alloc _)
  have K2:=ac (show aa V (w1.heap.size+1) [.int .i64 (vT t c:Nat),.int .u64 (cod (vT t) c:Nat)] 83 by rw[hV];exact aa.new2 w1 _ _ _);have HOV:=ac (HO1.out.keep bV)
  have HBV:=ac (bg HB1.out bV);clear bV HO1 HB1;go_wp2
  rw[show((w1.alloc (.cells #[.int .i64 (t.length:Int),.slice (some ⟨gc,0,none⟩) 256 256,.slice bo (nT t).length bc,.map (some gn)] 94)).alloc (.cells #[.int .i64 (vT t c:Nat),.int .u64 (cod (vT t) c:Nat)] 83))=V from hV.symm]
  clear hV q0 q1 c1 B11
  go_loopw [2,11] (fun vi vl wr=>∃(l:Nat) (z:Int),l<=vT t c/\Hid (z=(l:Int)-1)/\vl=.int .i64 z/\vi=.int .i64 (F l)/\Hid (l=vT t c\/fY t c K)/\Hid (OT wr k t (t.length:Int) (.slice (some ⟨gc,0,none⟩) 256 256) (.slice bo (nT t).length bc) gn)/\Hid (aa wr w1.heap.size [.int .i64 (t.length:Int),.slice (some ⟨gc,0,none⟩) 256 256,.slice bo (nT t).length bc,.map (some gn)] 94)/\Hid (aa wr (w1.heap.size+1) [.int .i64 (vT t c:Nat),.int .u64 (cod (vT t) c:Nat)] 83)/\Hid (Below w.heap.size w wr)) (fun _ vl _=>(intOf vl+1).toNat)
  case atStart=>exact⟨vT t c,_,Nat.le_refl _,ac rfl,rfl,by rw[HF0.out],ac (.inl rfl),HOV,K1,K2,HBV⟩
  case round=>
   clear HOV K1 K2 HBV HF0 hK hvz;obtain⟨l,z,hl,hz,rfl,rfl,HOK,HO,K1,K2,HB⟩:=hrel;by_cases hlt:0<l
   .obtain⟨m,rfl⟩:∃m,l=m+1:=⟨l-1,by omega⟩;obtain rfl:z=(m:Int):=by have:=hz.out;omega
    clear hz hlt;have hm:m<vT t c:=by omega
    clear hl;have hltz:(m:Int)>=0:=by omega
    have CR:Hid (∀w0,OT w0 k t (t.length:Int) (.slice (some ⟨gc,0,none⟩) 256 256) (.slice bo (nT t).length bc) gn->Calls prog 48 #[.agg #[.int .i64 (t.length:Int),.slice (some ⟨gc,0,none⟩) 256 256,.slice bo (nT t).length bc,.map (some gn)],.agg #[.int .i64 (vT t c:Nat),.int .u64 (cod (vT t) c:Nat)],.int .i64 (m:Int)] w0 fun e w'=>∃rs:List Value,e=.returned (.agg rs.toArray)/\KI w' rs (bu k t m c)/\Below w0.heap.size w0 w'):=fun w0 h0=>s7 k t _ _ _ gn c m w0 h0 hle hc hm
    have CT:Hid (∀w0,Qq 49 #[.agg #[.int .i64 (vT t c:Nat),.int .u64 (cod (vT t) c:Nat)],.int .i64 (m:Int)] w0 (.bool (Sh.nb (vT t) (kT t) m c))):=fun w0=>m6 (vT t c) (kT t c) m (by omega) hm (iF (bP t (by omega) c) v40) w0
    have HSD:=ac (HF2.out m hm HOK.out);have HI:=ac (HF1.out (m+1));obtain⟨A,hA⟩:∃A,Hid (A=bu k t m c):=⟨_,rfl⟩;rw[<-hA.out]at CR HSD
    obtain⟨bb,hbb⟩:∃bb,Hid (bb=Sh.nb (vT t) (kT t) m c):=⟨_,rfl⟩;rw[<-hbb.out]at CT HSD;obtain⟨I,hI⟩:∃I,Hid (I=F (m+1)):=⟨_,rfl⟩;rw[<-hI.out]at HSD HI;rw[<-hI.out];have zk:=K2.out.lt
    have zb:=HB.out.size;go_wp2
    refine aB [] (fun w'=>aa w' w1.heap.size [.int .i64 (t.length:Int),.slice (some ⟨gc,0,none⟩) 256 256,.slice bo (nT t).length bc,.map (some gn)] 94/\aa w' (w1.heap.size+1) [.int .i64 (vT t c:Nat),.int .u64 (cod (vT t) c:Nat)] 83) (by kernel_rfl) ?_
    have hS:aa wr.drew w1.heap.size [.int .i64 (t.length:Int),.slice (some ⟨gc,0,none⟩) 256 256,.slice bo (nT t).length bc,.map (some gn)] 94/\aa wr.drew (w1.heap.size+1) [.int .i64 (vT t c:Nat),.int .u64 (cod (vT t) c:Nat)] 83:=⟨K1.out,K2.out⟩
    have HO2:Hid (OT wr.drew k t (t.length:Int) (.slice (some ⟨gc,0,none⟩) 256 256) (.slice bo (nT t).length bc) gn):=HO.out.keep ((Below.refl _ _).drew);have HB2:Hid (Below w.heap.size w wr.drew):=HB.out.drew
    generalize wr.drew=Y at *;clear HO HB K1 K2
    refine aF 0 hS rfl (fun w0 h0=>by have d0:=h0.1.cell 0 rfl;have d1:=h0.1.cell 1 rfl;have d2:=h0.1.cell 2 rfl;have d3:=h0.1.cell 3 rfl;have f0:=h0.2.cell 0 rfl;have f1:=h0.2.cell 1 rfl;go_simp;try with_reducible rfl) ?_
    refine aF 1 hS rfl (fun w0 h0=>by have d0:=h0.1.cell 0 rfl;have d1:=h0.1.cell 1 rfl;have d2:=h0.1.cell 2 rfl;have d3:=h0.1.cell 3 rfl;have f0:=h0.2.cell 0 rfl;have f1:=h0.2.cell 1 rfl;go_simp;try with_reducible rfl) ?_
    refine aF 2 hS rfl (fun w0 h0=>by have d0:=h0.1.cell 0 rfl;have d1:=h0.1.cell 1 rfl;have d2:=h0.1.cell 2 rfl;have d3:=h0.1.cell 3 rfl;have f0:=h0.2.cell 0 rfl;have f1:=h0.2.cell 1 rfl;go_simp;try with_reducible rfl) ?_
    refine aF 4 hS rfl (fun w0 h0=>by have d0:=h0.1.cell 0 rfl;have d1:=h0.1.cell 1 rfl;have d2:=h0.1.cell 2 rfl;have d3:=h0.1.cell 3 rfl;have f0:=h0.2.cell 0 rfl;have f1:=h0.2.cell 1 rfl;go_simp;try with_reducible rfl) ?_
    refine aF 5 hS rfl (fun w0 h0=>by have d0:=h0.1.cell 0 rfl;have d1:=h0.1.cell 1 rfl;have d2:=h0.1.cell 2 rfl;have d3:=h0.1.cell 3 rfl;have f0:=h0.2.cell 0 rfl;have f1:=h0.2.cell 1 rfl;go_simp;try with_reducible rfl) ?_
    refine aF 7 hS rfl (fun w0 h0=>by have d0:=h0.1.cell 0 rfl;have d1:=h0.1.cell 1 rfl;have d2:=h0.1.cell 2 rfl;have d3:=h0.1.cell 3 rfl;have f0:=h0.2.cell 0 rfl;have f1:=h0.2.cell 1 rfl;go_simp;try with_reducible rfl) ?_
    refine aO 3 ?_;intro K hK;go_simp;refine(CR.out _ HO2.out).mono ?_;rintro e w3 ⟨rs,rfl,hki,hb⟩;replace hS:=And.intro (hS.1.kept hb) (hS.2.kept hb);have HK3:=ac hki;have HO3:=ac (HO2.out.keep hb)
    have HB3:=ac (bg HB2.out hb);clear hb hki HO2 HB2 CR;refine hK.out _ _ (fun _=>hS) ?_;clear hK K;try simp only[Act.put,ak,aj,ai,ae,ah,ag]
    refine aO 6 ?_;intro K hK;go_simp;refine mr (CT.out _) fun w4 hb=>?_;replace hS:=And.intro (hS.1.kept hb) (hS.2.kept hb);have HK4:=ac (HK3.out.keep hb);have HO4:=ac (HO3.out.keep hb)
    have HB4:=ac (bg HB3.out hb);clear hb HK3 HO3 HB3 CT;refine hK.out _ _ (fun _=>hS) ?_;clear hK K;try simp only[Act.put,ak,aj,ai,ae,ah,ag]
    refine aO 8 ?_;intro K hK;go_simp;refine mr (Aa rs A bb I w4 HK4.out HI.out) fun w5 hb=>?_;replace hS:=And.intro (hS.1.kept hb) (hS.2.kept hb);have HO5:=ac (HO4.out.keep hb)
    have HB5:=ac (bg HB4.out hb);obtain⟨EE,hEE⟩:∃EE,Hid (EE=gsE (aJ A) (kBN A) (aQ A) bb I):=⟨_,rfl⟩;rw[<-hEE.out];rw[<-hEE.out]at HSD
    obtain⟨XX,hXX⟩:∃XX,Hid (XX=gsX (aJ A) (kBN A) (aQ A) bb I):=⟨_,rfl⟩;rw[<-hXX.out];rw[<-hXX.out]at HSD;clear hb HK4 HO4 HB4 hEE hXX;refine hK.out _ _ (fun _=>hS) ?_;clear hK K
    try simp only[Act.put,ak,aj,ai,ae,ah,ag]
    refine aF 9 hS rfl (fun w0 h0=>by have d0:=h0.1.cell 0 rfl;have d1:=h0.1.cell 1 rfl;have d2:=h0.1.cell 2 rfl;have d3:=h0.1.cell 3 rfl;have f0:=h0.2.cell 0 rfl;have f1:=h0.2.cell 1 rfl;go_simp;try with_reducible rfl) ?_
    refine aF 10 hS rfl (fun w0 h0=>by have d0:=h0.1.cell 0 rfl;have d1:=h0.1.cell 1 rfl;have d2:=h0.1.cell 2 rfl;have d3:=h0.1.cell 3 rfl;have f0:=h0.2.cell 0 rfl;have f1:=h0.2.cell 1 rfl;go_simp;try with_reducible rfl) ?_
    refine aF 11 hS rfl (fun w0 h0=>by have d0:=h0.1.cell 0 rfl;have d1:=h0.1.cell 1 rfl;have d2:=h0.1.cell 2 rfl;have d3:=h0.1.cell 3 rfl;have f0:=h0.2.cell 0 rfl;have f1:=h0.2.cell 1 rfl;go_simp;try with_reducible rfl) ?_
    refine aF 12 hS rfl (fun w0 h0=>by have d0:=h0.1.cell 0 rfl;have d1:=h0.1.cell 1 rfl;have d2:=h0.1.cell 2 rfl;have d3:=h0.1.cell 3 rfl;have f0:=h0.2.cell 0 rfl;have f1:=h0.2.cell 1 rfl;go_simp;try with_reducible rfl) ?_
    refine aF 13 hS rfl (fun w0 h0=>by have d0:=h0.1.cell 0 rfl;have d1:=h0.1.cell 1 rfl;have d2:=h0.1.cell 2 rfl;have d3:=h0.1.cell 3 rfl;have f0:=h0.2.cell 0 rfl;have f1:=h0.2.cell 1 rfl;go_simp;try with_reducible rfl) ?_
    refine aq.done (by kernel_rfl) ?_ _;obtain⟨s1,s2⟩:=hS;have K15:=ac s1;have K25:=ac s2;clear s1 s2;rcases HSD.out with⟨ok,e1,e2⟩ | ⟨no,e1⟩
    .have HK:=ac ok;obtain rfl:=e1;obtain rfl:=e2;clear ok HSD;go_wp2;exact⟨⟨m,(m:Int)-1,by omega,ac rfl,rfl,rfl,ac (.inr HK.out),HO5,K15,K25,HB5⟩,by simp only[intOf];omega⟩
    .have HN:=ac no;obtain rfl:=e1;clear no HSD;go_wp2;go_ret2;exact⟨by unfold fI gD;rw[if_neg HN.out,if_neg HN.out];rfl,HB5.out⟩
   .obtain rfl:l=0:=by omega
    obtain rfl:z= -1:=by have:=hz.out;omega
    have HK:Hid (fY t c K):=HOK.out.resolve_left (by have:=HV0.out;omega);have hFN:=ac (HF3.out HK.out);clear hz hlt;go_wp2;go_ret2;exact⟨by rw[hFN.out];unfold gD;rw[if_pos HK.out];rfl,HB.out⟩
theorem zN(v:Nat->Nat)(gc d L x:Nat)(w:World)(h:aa w gc (cC v) 83)(hd:d<256)(hu:∀c,c<256->((L=v c/\x=cod v c)↔c=d)):
  Qq 44 #[.slice (some ⟨gc,0,none⟩) 256 256,.agg #[.int .i64 L,.int .u64 x]] w (.int .i64 d):=by
 obtain⟨W,hW⟩:∃W,W=w.alloc (.cells #[.int .i64 L,.int .u64 x] 83):=⟨_,rfl⟩;have bW:=aM hW
 have B1:=ac (show aa W w.heap.size [.int .i64 L,.int .u64 x] 83 by rw[hW];exact aa.new w _ _);have HC:=ac (h.kept bW);have HB:=ac bW;have HU:=ac hu;clear bW hu h
 go_enter func44,ntmps44;go_wp2;rw[<-hW];clear hW
 go_loopw [8] (fun vi wr=>∃q:Nat,q<=d/\vi=.int .i64 q/\Hid (aa wr w.heap.size [.int .i64 L,.int .u64 x] 83)/\Hid (aa wr gc (cC v) 83)/\Hid (Below w.heap.size w wr)) (fun vi _=>256-(intOf vi).toNat)
 case atStart=>exact⟨0,Nat.zero_le _,rfl,B1,HC,HB⟩
 case round=>
  clear B1 HC HB;obtain⟨q,hq,rfl,K1,K2,HB⟩:=hrel;have hlt:q<256:=by omega
  have hltz:(q:Int)<256:=by omega
  obtain⟨B,hB⟩:∃B,Hid (B=(decide (L=v q)&&decide (x=cod v q))):=⟨_,rfl⟩
  have HBd:Hid (B=true↔q=d):=by
   show B=true↔q=d;rw[hB.out,<-HU.out q hlt,Bool.and_eq_true,decide_eq_true_eq,decide_eq_true_eq]
  have HE:Hid (∀w0:World,(if (L:Int)=(v q:Int)then if (x:Int)=(cod v q:Int)then Result.ok (Next.value (Value.bool true)) w0 else Result.ok (Next.value (Value.bool false)) w0 else Result.ok (Next.value (Value.bool false)) w0)=Result.ok (Next.value (Value.bool B)) w0):=fun w0=>by
   rw[hB.out];by_cases h1:L=v q
   .by_cases h2:x=cod v q
    .rw[if_pos (by omega),if_pos (by omega),decide_eq_true h1,decide_eq_true h2];rfl
    .rw[if_pos (by omega),if_neg (by omega),decide_eq_false h2,Bool.and_false]
   .rw[if_neg (by omega),decide_eq_false h1,Bool.false_and]
  have zk:=K1.out.lt;have zg:=K2.out.lt;clear hB;go_wp2;refine aB [] (fun w'=>aa w' w.heap.size [.int .i64 L,.int .u64 x] 83/\aa w' gc (cC v) 83) (by kernel_rfl) ?_
  have hS:aa wr.drew w.heap.size [.int .i64 L,.int .u64 x] 83/\aa wr.drew gc (cC v) 83:=⟨K1.out,K2.out⟩;have HB2:Hid (Below w.heap.size w wr.drew):=HB.out.drew;generalize wr.drew=Y at *
  clear HB K1 K2
  refine aF 0 hS rfl (fun w0 h0=>by have d0:=h0.1.cell 0 rfl;have d1:=h0.1.cell 1 rfl;have f0:=h0.2.cell (q*2) (gF v q hlt);have f1:=h0.2.cell (q*2+1) (gE v q hlt);have zg:=h0.2.lt;go_simp;try with_reducible rfl) ?_
  refine aF 1 hS rfl (fun w0 h0=>by have d0:=h0.1.cell 0 rfl;have d1:=h0.1.cell 1 rfl;have f0:=h0.2.cell (q*2) (gF v q hlt);have f1:=h0.2.cell (q*2+1) (gE v q hlt);have zg:=h0.2.lt;go_simp;try with_reducible rfl) ?_
  refine aF 2 hS rfl (fun w0 h0=>by have d0:=h0.1.cell 0 rfl;have d1:=h0.1.cell 1 rfl;have f0:=h0.2.cell (q*2) (gF v q hlt);have f1:=h0.2.cell (q*2+1) (gE v q hlt);have zg:=h0.2.lt;go_simp;try with_reducible rfl) ?_
  refine aF 3 hS rfl (fun w0 h0=>by have d0:=h0.1.cell 0 rfl;have d1:=h0.1.cell 1 rfl;have f0:=h0.2.cell (q*2) (gF v q hlt);have f1:=h0.2.cell (q*2+1) (gE v q hlt);have zg:=h0.2.lt;go_simp;try with_reducible rfl) ?_
  refine aF 4 hS rfl (fun w0 h0=>by have d0:=h0.1.cell 0 rfl;have d1:=h0.1.cell 1 rfl;have f0:=h0.2.cell (q*2) (gF v q hlt);have f1:=h0.2.cell (q*2+1) (gE v q hlt);have zg:=h0.2.lt;go_simp;try with_reducible rfl) ?_
  refine aq.take 5 (v:=.bool B) rfl (by kernel_rfl) (by kernel_rfl) (by kernel_rfl) (by kernel_rfl) (fun _ _ _ h=>h) hS (fun w0 h0=>by go_simp;exact HE.out w0) (by rfl) ?rest6
  simp only[Act.put,ak,aj,ai,ae,ah,ag];refine aq.done (by kernel_rfl) ?_ _;obtain⟨s1,s2⟩:=hS;have K15:=ac s1;have K25:=ac s2;clear s1 s2;by_cases hqd:q=d
  .obtain rfl:B=true:=HBd.out.2 hqd;go_wp2;go_ret;exact⟨rfl,HB2.out⟩
  .obtain rfl:B=false:=by
    cases B
    .rfl
    .exact absurd (HBd.out.1 rfl) hqd
   go_wp2;exact⟨⟨q+1,by omega,rfl,K15,K25,HB2⟩,by simp only[intOf];omega⟩
theorem lG{ops:Array Oper}{rest:List Oper}{o:Oper}{a:Act}{w:World}{Q:Exit->Act->World->Prop}{t:TypeId}{ok:Bool}(hg:o.guard=none)(m x:Operand)(hop:o.op=Op.lookup t m x ok)(mv kv v:Value)(hm:a.eval m=mv)(hx:a.eval x=kv)
  (hr:(Instr.lookup t mv kv ok).run prog w=.ok v w) (hK:wpList prog ops Q rest (a.put o.dst v) w):wpList prog ops Q (o::rest) a w:=by
 refine wpList_plain hg fun K' hK'=>?_;unfold Oper.wp;simp[execOp,hop,hm,hx,hr,Result.andThen];exact hK' _ _ hK
theorem nq{t:List Nat}(hn:t.length<=3000)(c l:Nat):Sh.pre (vT t) (kT t) l c<9223372036854775808:=by
 have hL:=dn t (by omega);have h1:=bP t (by omega) c;have h2:(2:Nat)^vT t c<=2^40:=Nat.pow_le_pow_right (by decide) (hL.le c);have h3:Sh.pre (vT t) (kT t) l c<=kT t c:=Nat.div_le_self _ _
 have h4:(2:Nat)^40<9223372036854775808:=by decide
 omega
theorem OT.within{w:World}{k:Int}{t:List Nat}{n:Int}{cv bv:Value}{gn:Nat}(h:OT w k t n cv bv gn)(hn:t.length<=3000){c l:Nat}(hc:c<256)(hl:l<vT t c):∃b o rs o1 o2,
  (Instr.lookup 92 (.map (some gn)) (.agg #[.int .i64 l,.int .u64 (Sh.pre (vT t) (kT t) l c:Nat)]) true).run prog w=.ok (.tuple #[.agg #[.pointer (some ⟨b,o,none⟩),.int .i64 o1,.int .i64 o2],.bool true]) w/\
  b<w.heap.size/\w.rangeAt b o rs/\KI w rs (bu k t l c):=by
 have hL:=dn t (by omega);have hv:=hL.le c;have hm:=uC hn hc hl;have hj:=Sh.ixo_lt hm;have hs:=nq hn c l;obtain⟨gc,bo,bc,c',b,off,e1,e2,a1,a2,a3,a4⟩:=h;obtain⟨hb,hr⟩:=a4 (by omega)
 obtain⟨rs,r1,r2⟩:=hr _ hj;rw[j4 (Sh.get_ixo hm)]at r2
 refine⟨b,_,rs,bF (aT k t) (Sh.ixo (l,Sh.pre (vT t) (kT t) l c) (nT t))-bM (aT k t) (Sh.ixo (l,Sh.pre (vT t) (kT t) l c) (nT t)),bM (aT k t) (Sh.ixo (l,Sh.pre (vT t) (kT t) l c) (nT t)),?_,hb,r1,r2⟩
 have:=a3.look_ok underlying92 (lF w) (L:=l) (x:=Sh.pre (vT t) (kT t) l c) (by omega) (by omega);unfold bz at this;rw[if_pos hj]at this;exact this
theorem OT.leaf{w:World}{k:Int}{t:List Nat}{n:Int}{cv bv:Value}{gn:Nat}(h:OT w k t n cv bv gn)(hn:t.length<=3000){c:Nat}(hv0:0<vT t c):
  (Instr.lookup 92 (.map (some gn)) (.agg #[.int .i64 (vT t c:Nat),.int .u64 (Sh.pre (vT t) (kT t) (vT t c) c:Nat)]) true).run prog w=.ok (.tuple #[.agg #[.pointer none,.int .i64 0,.int .i64 0],.bool false]) w:=by
 have hL:=dn t (by omega);have hv:=hL.le c;have hs:=nq hn c (vT t c)
 have hm:¬Sh.ixo (vT t c,Sh.pre (vT t) (kT t) (vT t c) c) (nT t)<(nT t).length:=by
  rw[Sh.ixo_out]
  .exact Nat.lt_irrefl _
  .intro g;obtain⟨d,d1,d2,d3⟩:=km hn g;rw[Sh.pre_all]at d3;have:=fu t (by omega) c d hv0 (by omega) (by omega) d3;subst this;omega
 obtain⟨gc,bo,bc,c',b,off,e1,e2,a1,a2,a3,a4⟩:=h;have:=a3.look_ok underlying92 (lF w) (L:=vT t c) (x:=Sh.pre (vT t) (kT t) (vT t c) c) (by omega) (by omega);unfold bz at this;rw[if_neg hm]at this
 exact this
theorem J4{k:Int}(hk:1<=k/\k<=3){t:List Nat}(hn:t.length<=3000)(hB:cM t){j l:Nat}(hj:j<t.length)(hl:l<vT t (gt t j)):
  gaB (aJ (bu k t l (gt t j))) (kBN (bu k t l (gt t j))) (aQ (bu k t l (gt t j))) (Sh.cc (vT t) (kT t) t (gt t j) l j:Int)=Sh.nb (vT t) (kT t) l (gt t j):=by
 have hr:=gH t (l,Sh.pre (vT t) (kT t) l (gt t j));obtain⟨e1,e2,e3⟩:=jS hk (rwT t (l,Sh.pre (vT t) (kT t) l (gt t j))) (by omega)
 have hb:=Sh.cc_bit (vT t) (kT t) (fu t (by omega)) hj hl (fE t (by omega) hB)
 have hlt:Sh.cc (vT t) (kT t) t (gt t j) l j<(rwT t (l,Sh.pre (vT t) (kT t) l (gt t j))).length:=by
  by_cases g:Sh.cc (vT t) (kT t) t (gt t j) l j<(rwT t (l,Sh.pre (vT t) (kT t) l (gt t j))).length
  .exact g
  .rw[List.getElem?_eq_none (show(Sh.nrow (vT t) (kT t) t l (Sh.pre (vT t) (kT t) l (gt t j))).length<=_ from Nat.le_of_not_lt g)]at hb;cases hb
 unfold gaB dg bu;rw[e1,e2,e3,decide_eq_true (by omega),Int.toNat_natCast,show bitAt (frL (rwT t (l,Sh.pre (vT t) (kT t) l (gt t j)))) (Sh.cc (vT t) (kT t) t (gt t j) l j)=_ from rL _ _ _ hb];unfold frL
 rw[dL _ _ (by omega)];simp
theorem An(cs:List Value)(k:Int)(t:List Nat)(i:Int)(w:World)(h:SX w cs k t)(hi:ax i):
  Qq 13 #[.agg cs.toArray,.int .i64 i] w (.tuple #[.int .u8 (saC t i:Int),.int .i64 (gG t i)]):=by
 have HSX:=ac h;have hkn:=h.kn;have hle:=h.le;have HBy:=ac h.by_;obtain⟨⟨lo,lc,no,nc,rfl,_,_⟩,_,_,_,_⟩:=h;have hL:=ac (dn t (by omega))
 obtain⟨W,hW⟩:∃W,W=w.alloc (.cells #[.int .i64 k,.int .i64 (t.length:Int),.slice lo 256 lc,.slice no (aT k t).length nc] 27):=⟨_,rfl⟩;have bW:=aM hW
 have B1:=ac (show aa W w.heap.size [.int .i64 k,.int .i64 (t.length:Int),.slice lo 256 lc,.slice no (aT k t).length nc] 27 by rw[hW];exact aa.new w _ _);have HB:=ac bW
 have C0:=ac (mY _ k t W (HSX.out.keep bW));clear bW HSX;go_enter func13,ntmps13;go_wp2_with fail;rw[<-hW];refine C0.out.mono ?_;rintro e w1 ⟨cv,bv,gn,rfl,hot,hb⟩;have B11:=ac (B1.out.kept hb)
 have HB1:=ac (bg HB.out hb);have HO1:=ac hot;have hone:=hot.one;have z1:=B11.out.lt;clear hW hb C0 B1 HB hot;have c1:=B11.out.cell 1 rfl
 obtain⟨gc,bo,bc,c',b,off,rfl,rfl,a1,_⟩:=HO1.out.ex;clear hone;by_cases hi0:i<0
 .have hE:Hid (gG t i=3):=if_pos (.inl hi0);have hN:Hid (saC t i=0):=if_neg (by rw[hE.out];decide);go_wp2;go_ret2;refine⟨by rw[hE.out,hN.out];rfl,?_⟩;exact HB1.out.alloc HB1.out.size _
 .by_cases hi1:(t.length:Int)<=i
  .have hi1':i>=(t.length:Int):=hi1;have hE:Hid (gG t i=3):=if_pos (.inr hi1);have hN:Hid (saC t i=0):=if_neg (by rw[hE.out];decide);clear hi1;go_wp2;go_ret2;refine⟨by rw[hE.out,hN.out];rfl,?_⟩
   exact HB1.out.alloc HB1.out.size _
  .have hi1':¬i>=(t.length:Int):=by omega
   have hE:Hid (gG t i=0):=if_neg (by omega);have hN:Hid (saC t i=gt t i.toNat):=if_pos hE.out;obtain⟨i,rfl⟩:=Int.eq_ofNat_of_zero_le (show 0<=i by omega);rw[Int.toNat_natCast]at hN
   have hit:=ac (show i<t.length by omega);obtain⟨d,hd⟩:∃d,Hid (d=gt t i):=⟨_,rfl⟩;have hd2:d<256:=by rw[hd.out];exact HBy.out i
   have HV0:Hid (0<vT t d):=by rw[hd.out];exact fE t (by omega) HBy.out i hit.out
   have v40:=hL.out.le d;have lgc:=a1.lt;have HCd:=ac a1;clear a1
   obtain⟨V,hV⟩:∃V,V=(w1.alloc (.cells #[.int .i64 (t.length:Int),.slice (some ⟨gc,0,none⟩) 256 256,.slice bo (nT t).length bc,.map (some gn)] 94)).alloc (.cells #[.int .i64 0,.int .u64 0] 83):=⟨_,rfl⟩
   have bV:Below w1.heap.size w1 V:=by rw[hV];exact(below_alloc w1 _).alloc (by simp) _
   have K1:=ac (show aa V w1.heap.size [.int .i64 (t.length:Int),.slice (some ⟨gc,0,none⟩) 256 256,.slice bo (nT t).length bc,.map (some gn)] 94 by rw[hV];exact(aa.new w1 _ _).alloc _)
   have K2:=ac (show aa V (w1.heap.size+1) [.int .i64 0,.int .u64 0] 83 by rw[hV];exact aa.new2 w1 _ _ _);have HBV:=ac bV;clear bV;go_wp2
   rw[show((w1.alloc (.cells #[.int .i64 (t.length:Int),.slice (some ⟨gc,0,none⟩) 256 256,.slice bo (nT t).length bc,.map (some gn)] 94)).alloc (.cells #[.int .i64 0,.int .u64 0] 83))=V from hV.symm];clear hV c1 B11
   have HCC0:Hid (Sh.cc (vT t) (kT t) t d 0 i=i):=Sh.cc_zero _ _ (bP t (by omega) d) fun j _=>bP t (by omega) _;have HP0:Hid (Sh.pre (vT t) (kT t) 0 d=0):=Sh.pre_zero _ _ (bP t (by omega) d)
   clear hi0 hi1' hi1 hi;generalize decide (t.length<=i)=b1;generalize decide ((i:Int)<0)=b0
   go_loopw [1] (fun vi wr=>∃l:Nat,l<=vT t d/\vi=.int .i64 (Sh.cc (vT t) (kT t) t d l i:Nat)/\Hid (aa wr w1.heap.size [.int .i64 (t.length:Int),.slice (some ⟨gc,0,none⟩) 256 256,.slice bo (nT t).length bc,.map (some gn)] 94)/\Hid (aa wr (w1.heap.size+1) [.int .i64 l,.int .u64 (Sh.pre (vT t) (kT t) l d:Nat)] 83)/\Hid (Below w1.heap.size w1 wr)) (fun vi wr=>vT t d-(intOf ((wr.cell? ⟨w1.heap.size+1,0,none⟩).getD undef)).toNat)
   case atStart=>exact⟨0,Nat.zero_le _,by rw[HCC0.out],K1,by rw[HP0.out];exact K2,HBV⟩
   case round=>
    clear K1 K2 HBV;obtain⟨l,hl,rfl,K1,K2,HB⟩:=hrel;have k13:=K1.out.cell 3 rfl;have k11:=K1.out.cell 1 rfl;have k20:=K2.out.cell 0 rfl;have k21:=K2.out.cell 1 rfl;have zb:=HB.out.size;have zk:=K2.out.lt
    have HOr:=ac (HO1.out.keep HB.out)
    have HM:Hid (vT t d-(intOf ((wr.cell? ⟨w1.heap.size+1,0,none⟩).getD undef)).toNat=vT t d-l):=by rw[show wr.cell? ⟨w1.heap.size+1,0,none⟩=_ from k20];simp[Hid,intOf]
    by_cases hlt:l<vT t d
    .obtain⟨b,o,rs,o1,o2,hlk,hbw,hrs,hki⟩:=HOr.out.within hle hd2 hlt;have HLK:=ac hlk
     have HBT:Hid (gaB (aJ (bu k t l d)) (kBN (bu k t l d)) (aQ (bu k t l d)) (Sh.cc (vT t) (kT t) t d l i:Int)=Sh.nb (vT t) (kT t) l d):=by rw[hd.out];exact J4 hkn hle HBy.out hit.out (by rw[<-hd.out];exact hlt)
     have HRD:=ac (show grN (aJ (bu k t l d)) (kBN (bu k t l d)) (aQ (bu k t l d)) (Sh.nb (vT t) (kT t) l d) (Sh.cc (vT t) (kT t) t d l i:Int)=(Sh.cc (vT t) (kT t) t d (l+1) i:Int)from tJ hkn hle HBy.out hlt (Nat.le_of_lt hit.out))
     have HPS:=ac (Sh.pre_succ (vT t) (kT t) hlt);have hpl:=nq hle d l;have ccl:Sh.cc (vT t) (kT t) t d l i<=3000:=Nat.le_trans (Sh.cp_le _ _ _) (Nat.le_trans (Nat.le_of_lt hit.out) hle)
     obtain⟨x,hx⟩:∃x,Hid (x=Sh.pre (vT t) (kT t) l d):=⟨_,rfl⟩;rw[<-hx.out]at HLK HPS k21 hpl K2;obtain⟨A,hA⟩:∃A,Hid (A=bu k t l d):=⟨_,rfl⟩;rw[<-hA.out]at HBT HRD hki
     obtain⟨bb,hbb⟩:∃bb,Hid (bb=Sh.nb (vT t) (kT t) l d):=⟨_,rfl⟩;rw[<-hbb.out]at HBT HRD HPS;obtain⟨I,hI⟩:∃I,Hid (I=Sh.cc (vT t) (kT t) t d l i):=⟨_,rfl⟩;rw[<-hI.out]at HBT HRD ccl;rw[<-hI.out]
     obtain⟨I2,hI2⟩:∃I2,Hid (I2=Sh.cc (vT t) (kT t) t d (l+1) i):=⟨_,rfl⟩;rw[<-hI2.out]at HRD;obtain⟨l1,hl1⟩:∃l1,Hid (l1=l+1):=⟨_,rfl⟩
     obtain⟨x1,hx1⟩:∃x1,Hid (x1=2*x+bb.toNat):=⟨_,rfl⟩
     have CL:Hid (∀w0,Qq 47 #[.agg #[.int .i64 l,.int .u64 (x:Nat)],.bool bb] w0 (.agg #[.int .i64 (l1:Nat),.int .u64 (x1:Nat)])):=fun w0=>by rw[hl1.out,hx1.out];exact pB l x bb (by omega) hpl w0
     obtain⟨W2,hW2⟩:∃W2,W2=wr.alloc (.cells #[.pointer (some ⟨b,o,none⟩),.int .i64 o1,.int .i64 o2] 99):=⟨_,rfl⟩;have bW2:Below wr.heap.size wr W2:=by rw[hW2];exact below_alloc wr _
     have K3:=ac (show aa W2 wr.heap.size [.pointer (some ⟨b,o,none⟩),.int .i64 o1,.int .i64 o2] 99 by rw[hW2];exact aa.new wr _ _);have K12:=ac (K1.out.kept bW2);have K22:=ac (K2.out.kept bW2)
     have HB2:=ac (bg HB.out bW2);have HR2:=ac (range_keep hrs bW2 hbw);have HK2:=ac (hki.keep bW2);have hb2:b<W2.heap.size:=Nat.lt_of_lt_of_le hbw bW2.size;have n0:=K3.out.cell 0 rfl
     have zn:=K3.out.lt;clear hlk hrs hki bW2 K1 K2 HB HOr hbw;have HRa:=ac (show(wr.alloc (.cells #[.pointer (some ⟨b,o,none⟩),.int .i64 o1,.int .i64 o2] 99)).rangeAt b o rs by rw[<-hW2];exact HR2.out)
     have HLen:=ac HK2.out.arg.len;go_wp2_with (first | refine lG rfl _ _ rfl _ _ _ rfl rfl HLK.out ?_ | refine aN b o rs (by rfl) rfl HRa.out underlying44 HLen.out ?_);rw[<-hW2]
     refine mr (J3 rs A (I:Int) W2 HK2.out (by unfold ax;omega)) fun w5 hb=>?_;rw[HBT.out];obtain⟨EA,hEA⟩:∃EA,Hid (EA=gaE (aJ A) (kBN A) (aQ A) (I:Int)):=⟨_,rfl⟩;rw[<-hEA.out]
     have K15:=ac (K12.out.kept hb);have K25:=ac (K22.out.kept hb);have K35:=ac (K3.out.kept hb);have HB5:=ac (bg HB2.out hb);have HR5:=ac (range_keep HR2.out hb hb2)
     have HK5:=ac (HK2.out.keep hb);have hb5:b<w5.heap.size:=Nat.lt_of_lt_of_le hb2 hb.size;have z5:=hb.size;clear hb hEA K12 K22 K3 HB2 HR2 HK2 HRa n0 k20 k21 k13 k11 hW2 HLK;have n0:=K35.out.cell 0 rfl
     go_wp2_with (refine aN b o rs (by rfl) rfl HR5.out underlying44 HLen.out ?_);refine mr (pM rs A bb (I:Int) w5 HK5.out (by unfold ax;omega)) fun w6 hb=>?_;rw[HRD.out]
     obtain⟨EE,hEE⟩:∃EE,Hid (EE=grE (aJ A) (kBN A) (I:Int)):=⟨_,rfl⟩;rw[<-hEE.out];have K16:=ac (K15.out.kept hb);have K26:=ac (K25.out.kept hb);have HB6:=ac (bg HB5.out hb)
     clear hb hEE K15 K25 K35 HB5 HR5 HK5 n0;have k20:=K26.out.cell 0 rfl;have k21:=K26.out.cell 1 rfl;go_wp2_with fail;refine mr (CL.out _) fun w7 hb=>?_;have K17:=ac (K16.out.kept hb)
     have K27:=ac (K26.out.kept hb);have HB7:=ac (bg HB6.out hb);clear hb K16 K26 HB6 k20 k21
     go_wp2_with (refine aP (w1.heap.size+1) [.int .i64 l,.int .u64 (x:Nat)] [.int .i64 (l1:Nat),.int .u64 (x1:Nat)] rfl rfl K27.out rfl Fy (by simp[Value.oneCell']) ?_);intro w8 K28 hO
     simp only[Act.put,ae,List.set];have K18:=ac (hO.cel K17.out (by omega));have HB8:=ac (HB7.out.trans ((hO.below (base:=w1.heap.size) (by omega)).mono (Nat.le_refl _)));have K28h:=ac K28
     have HM8:Hid (vT t d-(intOf ((w8.cell? ⟨w1.heap.size+1,0,none⟩).getD undef)).toNat=vT t d-l1):=by rw[show w8.cell? ⟨w1.heap.size+1,0,none⟩=_ from K28.cell 0 rfl];simp[Hid,intOf]
     clear hO K28 K17 K27 HB7;go_wp2;refine⟨⟨l+1,by omega,by rw[hI2.out],K18,?_,HB8⟩,?_⟩
     .rw[hl1.out,hx1.out,<-HPS.out]at K28h;exact K28h
     .have e1:=HM.out;have:=HM8.out;have:=hl1.out;omega
    .obtain rfl:l=vT t d:=by omega
     have HLK:=ac (HOr.out.leaf hle HV0.out);have HX:Hid (Sh.pre (vT t) (kT t) (vT t d) d=kT t d):=Sh.pre_all _ _ d;rw[HX.out]at HLK k21;have HCr:=ac (HCd.out.kept HB.out)
     have HU:Hid (∀c,c<256->((vT t d=vT t c/\kT t d=cod (vT t) c)↔c=d)):=fun c _=>⟨fun g=>by
      refine(fu t (by omega) d c HV0.out (by rw[<-g.1];exact HV0.out) (Nat.le_of_eq g.1) ?_).symm;rw[g.1,Sh.pre_all]
      exact g.2.symm,fun g=>by subst g;exact⟨rfl,rfl⟩⟩
     obtain⟨I,hI⟩:∃I,Hid (I=Sh.cc (vT t) (kT t) t d (vT t d) i):=⟨_,rfl⟩;rw[<-hI.out];obtain⟨x,hx⟩:∃x,Hid (x=kT t d):=⟨_,rfl⟩;rw[<-hx.out]at HLK HU k21
     obtain⟨L,hLd⟩:∃L,Hid (L=vT t d):=⟨_,rfl⟩;rw[<-hLd.out]at HLK HU k20;obtain⟨W2,hW2⟩:∃W2,W2=wr.alloc (.cells #[.pointer none,.int .i64 0,.int .i64 0] 99):=⟨_,rfl⟩
     have bW2:Below wr.heap.size wr W2:=by rw[hW2];exact below_alloc wr _
     have HC2:=ac (HCr.out.kept bW2);have HB2:=ac (bg HB.out bW2);have m1:=(K1.out.kept (below_alloc wr (.cells #[.pointer none,.int .i64 0,.int .i64 0] 99))).cell 1 rfl
     have m2:=(K2.out.kept (below_alloc wr (.cells #[.pointer none,.int .i64 0,.int .i64 0] 99)));rw[HX.out,<-hx.out,<-hLd.out]at m2;have m3:=m2.cell 0 rfl;have m4:=m2.cell 1 rfl;clear bW2 hlt hl HM m2
     go_wp2_with (refine lG rfl _ _ rfl _ _ _ rfl rfl HLK.out ?_);rw[<-hW2];refine mr (zN (vT t) gc d L x W2 HC2.out hd2 HU.out) fun w5 hb=>?_
     have HB5:=ac (bg HB2.out hb);clear hb;go_wp2;go_ret2;exact⟨by rw[hE.out,hN.out,<-hd.out];rfl,bg HB1.out HB5.out⟩
def a_(B:Nat->Bool)(b:Bool)(l:List Nat):Nat->List Nat
 | 0=>[]
 | q+1=>if B q=b then a_ B b l q++[gt l q]else a_ B b l q
theorem lR(B:Nat->Bool)(b:Bool)(l:List Nat):∀q,(a_ B b l q).length<=q
 | 0=>Nat.le_refl _
 | q+1=>by
  have:=lR B b l q;rw[a_];split
  .rw[List.length_append];simp;omega
  .omega
theorem vA(l:List Nat)(p:Nat):aX (l++[p])=aX l++[.int .i64 p]:=by simp[aX]
structure PD (w:World) (base:Nat) (B:Nat->Bool) (l:List Nat) (q:Nat) (vo vn:Value):Prop where
 o1:w.ownsRow base 3 1 vo (a_ B false l q).length (aX (a_ B false l q))
 o2:w.ownsRow base 3 1 vn (a_ B true l q).length (aX (a_ B true l q))
 ne:∀k,vo.ownBlock=some k->vn.ownBlock≠some k
theorem PD.keep{w w':World}{base:Nat}{B:Nat->Bool}{l:List Nat}{q:Nat}{vo vn:Value}(h:PD w base B l q vo vn)(hb:Below w.heap.size w w'):PD w' base B l q vo vn:=⟨Ag.owns_keep h.o1 hb,Ag.owns_keep h.o2 hb,h.ne⟩
theorem PD.offf{w w1 w':World}{base g cap p:Nat}{B:Nat->Bool}{l:List Nat}{q:Nat}{vo vn:Value}(h:PD w base B l q vo vn)(hA:Below w.heap.size w w1)
  (own:w'.ownsRow base 3 1 (.slice (some ⟨g,0,none⟩) ((a_ B false l q).length+1) cap) ((a_ B false l q).length+1) (aX (a_ B false l q)++[.int .i64 p]))
  (hblk:∀k,k<w1.heap.size->vo.ownBlock≠some k->w'.heap[k]?=w1.heap[k]?) (hloc:vo.ownBlock=some g\/g=w1.heap.size) (hB:B q=false) (hp:p=gt l q):PD w' base B l (q+1) (.slice (some ⟨g,0,none⟩) ((a_ B false l q).length+1) cap) vn:=by
 have e1:a_ B false l (q+1)=a_ B false l q++[gt l q]:=by rw[a_,if_pos hB]
 have e2:a_ B true l (q+1)=a_ B true l q:=by rw[a_,if_neg (by rw[hB];decide)]
 refine⟨?_,?_,fun k hk hk2=>?_⟩
 .rw[e1,vA,List.length_append,<-hp];exact own
 .rw[e2];refine Ag.owns_of h.o2 fun k hk=>?_;have lk:=(h.o2.lt k hk).2;exact(hblk k (Nat.lt_of_lt_of_le lk hA.size) (fun g'=>h.ne k g' hk)).trans (hA.block k lk)
 .simp only[Value.ownBlock,Option.some.injEq]at hk;subst hk;rcases hloc with e | e
  .exact h.ne _ e hk2
  .have:=(h.o2.lt _ hk2).2;have:=hA.size;omega
theorem PD.onn{w w1 w':World}{base g cap p:Nat}{B:Nat->Bool}{l:List Nat}{q:Nat}{vo vn:Value}(h:PD w base B l q vo vn)(hA:Below w.heap.size w w1)
  (own:w'.ownsRow base 3 1 (.slice (some ⟨g,0,none⟩) ((a_ B true l q).length+1) cap) ((a_ B true l q).length+1) (aX (a_ B true l q)++[.int .i64 p]))
  (hblk:∀k,k<w1.heap.size->vn.ownBlock≠some k->w'.heap[k]?=w1.heap[k]?) (hloc:vn.ownBlock=some g\/g=w1.heap.size) (hB:B q=true) (hp:p=gt l q):PD w' base B l (q+1) vo (.slice (some ⟨g,0,none⟩) ((a_ B true l q).length+1) cap):=by
 have e1:a_ B true l (q+1)=a_ B true l q++[gt l q]:=by rw[a_,if_pos hB]
 have e2:a_ B false l (q+1)=a_ B false l q:=by rw[a_,if_neg (by rw[hB];decide)]
 refine⟨?_,?_,fun k hk hk2=>?_⟩
 .rw[e2];refine Ag.owns_of h.o1 fun k hk=>?_;have lk:=(h.o1.lt k hk).2;exact(hblk k (Nat.lt_of_lt_of_le lk hA.size) (fun g'=>h.ne k hk g')).trans (hA.block k lk)
 .rw[e1,vA,List.length_append,<-hp];exact own
 .simp only[Value.ownBlock,Option.some.injEq]at hk2;subst hk2;rcases hloc with e | e
  .exact h.ne _ hk e
  .have:=(h.o1.lt _ hk).2;have:=hA.size;omega
theorem qJ(l:List Nat)(q:Nat)(h:q<l.length):gi (aV l) q=(gt l q:Int):=by
 unfold gi aV gt;rw[List.getD_eq_getElem?_getD,List.getElem?_map,List.getD_eq_getElem?_getD,List.getElem?_eq_getElem h];rfl
theorem yZ(lo:Option Addr)(l:List Nat)(lc:Nat)(N:Int)(ao:Option Addr)(xs:List Nat)(cap:Nat)(w:World)(hl:Nd w lo (aV l))(hn:l.length<=1048576)(hx:Wd w ao xs)(hf:Fit xs):
  Calls prog 66 #[.slice lo l.length lc,.agg #[.int .i64 N,.slice ao xs.length cap]] w fun e w'=>∃vo vn,e=.returned (.tuple #[vo,vn])/\PD w' (w.heap.size+1) (fun i=>dg N xs (i:Int)) l l.length vo vn/\Below w.heap.size w w':=by
 obtain⟨i0,hi,hz0,hz1,hz2⟩:=info_parts mB;obtain⟨B,hB⟩:∃B,Hid (B=fun i:Nat=>dg N xs (i:Int)):=⟨_,rfl⟩;rw[<-hB.out];have HX:=ac hx;have HN:=ac hl
 obtain⟨W,hW⟩:∃W,W=w.alloc (.cells #[.int .i64 N,.slice ao xs.length cap] 33):=⟨_,rfl⟩;have bW:=ac (show Below w.heap.size w W by rw[hW];exact below_alloc w _)
 have B1:=ac (show aa W w.heap.size [.int .i64 N,.slice ao xs.length cap] 33 by rw[hW];exact aa.new w _ _);clear hx hl;go_enter func66,ntmps66;go_wp2;rw[<-hW];clear hW
 go_loopw [4,5,12] (fun vo vn vi wr=>∃q:Nat,q<=l.length/\vi=.int .i64 q/\Hid (PD wr (w.heap.size+1) B l q vo vn)/\Hid (aa wr w.heap.size [.int .i64 N,.slice ao xs.length cap] 33)/\Hid (Below w.heap.size w wr)) (fun _ _ vi _=>l.length-(intOf vi).toNat)
 case atStart=>exact⟨0,Nat.zero_le _,rfl,ac ⟨World.ownsRow_nil _ _ _ _,World.ownsRow_nil _ _ _ _,fun k h=>by cases h⟩,B1,bW⟩
 case round=>
  clear bW B1;obtain⟨q,hq,rfl,HP,K1,HB⟩:=hrel;by_cases hlt:q<l.length
  .have hltz:(q:Int)<(l.length:Int):=by omega
   obtain⟨b,off,rfl,hlb,hc⟩:=(HN.out.keep HB.out) (by unfold aV;rw[List.length_map];omega);have a0:=hc q (by unfold aV;rw[List.length_map];omega);rw[qJ l q hlt]at a0;have k0:=K1.out.cell 0 rfl
   have k1:=K1.out.cell 1 rfl;have zk:=K1.out.lt;have HXr:=ac (HX.out.keep HB.out);obtain⟨p,hp⟩:∃p,Hid (p=gt l q):=⟨_,rfl⟩;rw[<-hp.out]at a0;clear hc;go_wp2_with fail
   refine mr (wF N ao xs cap (q:Int) wr HXr.out hf) fun w5 hb=>?_;have HP5:=ac (HP.out.keep hb);have K5:=ac (K1.out.kept hb);have HB5:=ac (bg HB.out hb);have z5:=hb.size
   obtain⟨EE,hEE⟩:∃EE,Hid (EE=cH N xs (q:Int)):=⟨_,rfl⟩;rw[<-hEE.out];obtain⟨BB,hBB⟩:∃BB,Hid (BB=dg N xs (q:Int)):=⟨_,rfl⟩;rw[<-hBB.out]
   have hBq:Hid (B q=BB):=by rw[hB.out,hBB.out];exact rfl
   clear hb HP K1 HB hEE hBB HXr a0 k0 k1;rcases(show BB=true\/BB=false by cases BB;exact .inr rfl;exact .inl rfl)with rfl | rfl
   .have HO:=ac HP5.out.o2
    go_wp2_with (at_builtin;refine Ag.wpList_append (by rfl) _ _ _ (by rfl) (w.heap.size+1) 3 i0 (.int .i64 0) 1 8 underlying24 hi hz0 hz1 hz2 rfl (by decide) u5 (a_ B true l q).length (aX (a_ B true l q)) (by rfl) (HO.out.alloc _) ⟨w5.heap.size,0,none⟩ 1 1 [.int .i64 (p:Nat)] (by rfl) rfl (by decide) ?c1 ?c2 ?c3 ?c4 ?c5 ?_)
    case c1=>
     intro j u hj;have:=(aa.new w5 [.int .i64 (p:Nat)] 3).cell j hj;match j,hj with
     | 0,_=>exact this
    case c2=>intro u hu;simp at hu;subst hu;rfl
    case c3=>have:=lR B true l q;unfold maxLen;omega
    case c4=>have:=lR B true l q;omega
    case c5=>have:=K5.out.lt;simp;omega
    intro g8 cap8 w8 own8 hb8 hloc8 hlt8 hblk8 hs8;have hA:=below_alloc w5 (.cells #[.int .i64 (p:Nat)] 3);have lk:=K5.out.lt;have nb:u5.ownBlock≠some w.heap.size:=fun hk=>by have:=(HO.out.lt _ hk).1;omega
    have K8:Hid (aa w8 w.heap.size [.int .i64 N,.slice ao xs.length cap] 33):=(hblk8 w.heap.size (by omega) nb).trans (K5.out.kept hA)
    have HB8:Hid (Below w.heap.size w w8):=(bg HB5.out hA).trans (hb8.mono (by omega))
    have HP8:=ac (HP5.out.onn (g:=g8) (cap:=cap8) hA own8 (fun k hk hn=>hblk8 k (by simpa using hk) hn) (by simpa using hloc8) hBq.out hp.out);clear own8 hb8 hloc8 hlt8 hblk8 hs8 hA K5 HB5 HP5 HO
    try simp only[Act.put,ae,List.set]
    go_wp2;exact⟨⟨q+1,by omega,rfl,HP8,K8,HB8⟩,by simp only[intOf];omega⟩
   .have HO:=ac HP5.out.o1
    go_wp2_with (at_builtin;refine Ag.wpList_append (by rfl) _ _ _ (by rfl) (w.heap.size+1) 3 i0 (.int .i64 0) 1 8 underlying24 hi hz0 hz1 hz2 rfl (by decide) u4 (a_ B false l q).length (aX (a_ B false l q)) (by rfl) (HO.out.alloc _) ⟨w5.heap.size,0,none⟩ 1 1 [.int .i64 (p:Nat)] (by rfl) rfl (by decide) ?c1 ?c2 ?c3 ?c4 ?c5 ?_)
    case c1=>
     intro j u hj;have:=(aa.new w5 [.int .i64 (p:Nat)] 3).cell j hj;match j,hj with
     | 0,_=>exact this
    case c2=>intro u hu;simp at hu;subst hu;rfl
    case c3=>have:=lR B false l q;unfold maxLen;omega
    case c4=>have:=lR B false l q;omega
    case c5=>have:=K5.out.lt;simp;omega
    intro g8 cap8 w8 own8 hb8 hloc8 hlt8 hblk8 hs8;have hA:=below_alloc w5 (.cells #[.int .i64 (p:Nat)] 3);have lk:=K5.out.lt;have nb:u4.ownBlock≠some w.heap.size:=fun hk=>by have:=(HO.out.lt _ hk).1;omega
    have K8:Hid (aa w8 w.heap.size [.int .i64 N,.slice ao xs.length cap] 33):=(hblk8 w.heap.size (by omega) nb).trans (K5.out.kept hA)
    have HB8:Hid (Below w.heap.size w w8):=(bg HB5.out hA).trans (hb8.mono (by omega))
    have HP8:=ac (HP5.out.offf (g:=g8) (cap:=cap8) hA own8 (fun k hk hn=>hblk8 k (by simpa using hk) hn) (by simpa using hloc8) hBq.out hp.out);clear own8 hb8 hloc8 hlt8 hblk8 hs8 hA K5 HB5 HP5 HO
    try simp only[Act.put,ae,List.set]
    go_wp2;exact⟨⟨q+1,by omega,rfl,HP8,K8,HB8⟩,by simp only[intOf];omega⟩
  .obtain rfl:q=l.length:=by omega
   go_wp2;go_ret2;exact⟨_,_,rfl,HP.out,HB.out⟩
theorem ug(B f:Nat->Bool)(l:List Nat)(b:Bool)(h:∀i,i<l.length->B i=f (gt l i)):∀q,q<=l.length->a_ B b l q=(l.take q).filter fun j=>f j==b
 | 0,_=>rfl
 | q+1,hq=>by
  have e:l[q]?=some (gt l q):=by unfold gt;rw[List.getD_eq_getElem?_getD,List.getElem?_eq_getElem (by omega)];rfl
  rw[a_,ug B f l b h q (by omega),List.take_add_one,e,h q (by omega),List.filter_append];by_cases c:f (gt l q)=b
  .rw[if_pos c];simp[c]
  .rw[if_neg c];simp[c]
def bH(t:List Nat)(L x:Nat):List Nat:=Sh.mem (Sh.bg (vT t) (kT t) L x) t t.length
theorem Dz(P f:Nat->Bool)(t:List Nat)(n:Nat)(b:Bool):(Sh.mem P t n).filter (fun j=>f (gt t j)==b)=Sh.mem (fun c=>P c&&(f c==b)) t n:=by
 unfold Sh.mem;rw[List.filter_filter];refine List.filter_congr fun j _=>?_;rw[Bool.and_comm]
theorem qf{P Q:Nat->Bool}{t:List Nat}{n:Nat}(h:∀j,j<n->P (gt t j)=Q (gt t j)):Sh.mem P t n=Sh.mem Q t n:=List.filter_congr fun j hj=>h j (List.mem_range.1 hj)
theorem pT{t:List Nat}(hn:t.length<=3000)(hB:cM t){q L x:Nat}(h:(nT t)[q]?=some (L,x)):bH t L x=Sh.mem (Sh.st (vT t) (kT t) L x) t t.length:=by
 obtain⟨c,c1,c2,c3⟩:=km hn (List.mem_of_getElem? h);refine qf fun j hj=>?_;rw[<-c3];exact Sh.bg_st _ _ (fu t (by omega)) c2 (fE t (by omega) hB j hj)
theorem D8{t:List Nat}(hn:t.length<=3000)(hB:cM t){q L x:Nat}(h:(nT t)[q]?=some (L,x)):(bH t L x).length=(rwT t (L,x)).length:=by
 rw[pT hn hB h,Sh.length_mem,kF]
theorem pU(t:List Nat)(L x:Nat):(bH t L x).length<=t.length:=by unfold bH;rw[Sh.length_mem];exact Sh.cp_le _ _ _
theorem BZ{t:List Nat}(hn:t.length<=3000)(hB:cM t){q L x:Nat}(h:(nT t)[q]?=some (L,x))(b:Bool):
  a_ (fun i=>dg ((rwT t (L,x)).length:Int) (frL (rwT t (L,x))) (i:Int)) b (bH t L x) (bH t L x).length=bH t (L+1) (2*x+b.toNat):=by
 have hl:=D8 hn hB h;have hle:=pU t L x;rw[ug _ (fun j=>Sh.nb (vT t) (kT t) L (gt t j)) _ b (fun i hi=>?_) _ (Nat.le_refl _),List.take_length,pT hn hB h,Dz]
 .exact qf fun j _=>Sh.st_step _ _ _ _ _ _
 .have e:(rwT t (L,x))[i]?=some (Sh.nb (vT t) (kT t) L (gt t (gt (bH t L x) i))):=by
   unfold rwT Sh.nrow Sh.row;rw[List.getElem?_map,<-pT hn hB h];have:(bH t L x)[i]?=some (gt (bH t L x) i):=by unfold gt;rw[List.getD_eq_getElem?_getD,List.getElem?_eq_getElem hi];rfl
   rw[this];rfl
  unfold dg;rw[decide_eq_true (by omega),Int.toNat_natCast,rL _ _ _ e];unfold frL;rw[dL _ _ (by omega)];rfl
theorem BX{t:List Nat}(hn:t.length<=3000):bH t 0 0=List.range t.length:=by
 unfold bH Sh.mem;rw[List.filter_eq_self];intro j hj;have:=Sh.bg_zero (vT t) (kT t) (c:=gt t j) (d:=gt t j) (bP t (by omega) _) (bP t (by omega) _);rw[Sh.pre_zero _ _ (bP t (by omega) _)]at this;exact this
theorem B_{t:List Nat}(hn:t.length<=3000)(hB:cM t){c:Nat}(hc:0<vT t c):bH t (vT t c) (kT t c)=Sh.mem (fun d=>decide (d=c)) t t.length:=qf fun j hj=>Sh.bg_all _ _ (fu t (by omega)) hc (fE t (by omega) hB j hj)
def mq(t:List Nat)(q L x:Nat):Prop:=(L=0/\x=0)\/(0<L/\Sh.ixo (L-1,x/2) (nT t)<q)
theorem knw_succ{t:List Nat}(hn:t.length<=3000){q L x:Nat}(h:(nT t)[q]?=some (L,x)){L' x':Nat}(hk:mq t (q+1) L' x'):mq t q L' x'\/(L'=L+1/\(x'=2*x\/x'=2*x+1)):=by
 rcases hk with hk | ⟨h0,h1⟩
 .exact .inl (.inl hk)
 .by_cases e:Sh.ixo (L'-1,x'/2) (nT t)<q
  .exact .inl (.inr ⟨h0,e⟩)
  .have hq:Sh.ixo (L'-1,x'/2) (nT t)=q:=by omega
   have hlt:Sh.ixo (L'-1,x'/2) (nT t)<(nT t).length:=by
    rw[hq];exact(List.getElem?_eq_some_iff.1 h).1
   have hm:(L'-1,x'/2)∈nT t:=by
    by_cases g:(L'-1,x'/2)∈nT t
    .exact g
    .rw[Sh.ixo_out g]at hlt;omega
   have:=Sh.get_ixo hm;rw[hq,h]at this;simp only[Option.some.injEq,Prod.mk.injEq]at this;exact .inr ⟨by omega,by omega⟩
theorem EF{t:List Nat}(hn:t.length<=3000){q L x:Nat}(h:(nT t)[q]?=some (L,x)):mq t q L x:=by
 have kl:=bP t (by omega);have hm:=List.mem_of_getElem? h;by_cases h0:L=0
 .subst h0;obtain⟨c,c1,c2,c3⟩:=km hn hm;rw[Sh.pre_zero _ _ (kl c)]at c3;exact .inl ⟨rfl,c3.symm⟩
 .exact .inr ⟨by omega,Sh.ixo_before (Sh.sorted_nds _ _) h (Sh.node_up _ _ kl hm (by omega)) (.inl (by show L-1<L;omega))⟩
theorem EG{t:List Nat}(hn:t.length<=3000){c:Nat}(hc:c<256)(h0:0<vT t c):mq t (nT t).length (vT t c) (kT t c):=
 .inr ⟨h0,Sh.ixo_lt (Sh.leaf_up _ _ (bP t (by omega)) (dn t (by omega)).le hc h0)⟩
theorem KI.nou{w:World}{cs:List Value}{a:RA}(h:KI w cs a):bT cs:=by
 obtain⟨cp,cr,cf,rfl,_,h1,h2,h3⟩:=h.arg;exact nou_mk h1.nou h2.nou h3.nou
def b_(n:Nat):List Value:=(List.replicate n zv).flatten
theorem C_:bT zv:=by
 intro v hv n e;subst e;simp[zv]at hv
theorem bT.flat{css:List (List Value)}(h:∀c∈css,bT c):bT css.flatten:=fun v hv n=>by
 obtain⟨c,hc,hv⟩:=List.mem_flatten.1 hv;exact h c hc v hv n
theorem u7(css:List (List Value))(h:∀c∈css,c.length=22):css.flatten.length=css.length*22:=by
 induction css with
 | nil=>rfl
 | cons a l ih=>
  rw[List.flatten_cons,List.length_append,ih (fun c hc=>h c (List.mem_cons_of_mem _ hc)),h a List.mem_cons_self,List.length_cons];omega
theorem GB(css:List (List Value))(h:∀c∈css,c.length=22)(l:Nat)(c:List Value)(hl:css[l]?=some c)(post:List Value):∃p q,css.flatten++post=p++(c++q)/\p.length=l*22:=by
 induction css generalizing l with
 | nil=>simp at hl
 | cons a L ih=>
  cases l with
  | zero=>
   simp at hl;subst hl;exact⟨[],L.flatten++post,by simp,rfl⟩
  | succ l=>
   obtain⟨p,q,e1,e2⟩:=ih (fun c hc=>h c (List.mem_cons_of_mem _ hc)) l (by simpa using hl);refine⟨a++p,q,?_,?_⟩
   .rw[List.flatten_cons,List.append_assoc,e1,List.append_assoc]
   .rw[List.length_append,h a List.mem_cons_self,e2];omega
theorem vF:(prog.info? 44).map (fun i=>(i.zero,i.size,i.bytes))=some (some (.agg zv.toArray),22,320):=by kernel_rfl
theorem rV(n:Nat):Builtin.zeroCells zv.toArray n=(b_ n).toArray:=by
 have e:∀n,(List.range (n*22)).map (fun i=>zv.toArray[i%22]!)=b_ n:=by
  intro n;induction n with
  | zero=>rfl
  | succ n ih=>
   have h:b_ (n+1)=b_ n++zv:=by
    unfold b_;rw[List.replicate_succ',List.flatten_append];simp
   rw[h,<-ih,Nat.succ_mul,List.range_add,List.map_append,List.map_map];congr 1;have g:(List.range 22).map (fun i=>zv.toArray[i]!)=zv:=by rfl
   refine Eq.trans (List.map_congr_left fun i hi=>?_) g;have hi:=List.mem_range.1 hi;simp only[Function.comp_def];rw[show(n*22+i)%22=i by omega]
 apply Array.ext';unfold Builtin.zeroCells;rw[Array.toList_map,Array.toList_range];exact e n
def lp(w:World)(v:Value)(css:List (List Value)):Prop:=
 (v=.slice none 0 0/\css=[])\/∃g cap,v=.slice (some ⟨g,0,none⟩) css.length cap/\css.length<=cap/\aa w g (css.flatten++b_ (cap-css.length)) 44
def Tn(w w':World)(v:Value)(css:List (List Value)):Prop:=
 (∃g cap,v=.slice (some ⟨g,0,none⟩) css.length cap/\aa w g (css.flatten++b_ (cap-css.length)) 44/\aw g w w')\/Below w.heap.size w w'
theorem xS{o:Oper}{a:Act}{w:World}{K:Act->World->Prop}{Q:Exit->Act->World->Prop}(s x:Operand)
  (ho:o.op=.call { callee:=.builtin .append,args:=#[s,x],argTypes:=#[25,25] })
  (v:Value) (css:List (List Value)) (hs:a.eval s=v) (h:lp w v css) (hL:∀c∈css,c.length=22) (cs:List Value) (hc:cs.length=22) (ad:Addr) (c0:Nat) (hx:a.eval x=.slice (some ad) 1 c0) (hn:∀j u,cs[j]?=some u->w.cell? (ad.add j)=some u) (h1:∀u∈cs,u.oneCell'=true) (h8:css.length<1000000)
  (k:∀v' w',lp w' v' (css++[cs])->Tn w w' v css->(∀g,v'.ownBlock=some g->v.ownBlock=some g\/g=w.heap.size)->K (a.put o.dst v') w'):o.wp prog a w K Q:=by
 obtain⟨i0,hi,hz0,hz1,hz2⟩:=info_parts vF;have hfl:=u7 css hL;rcases h with⟨rfl,rfl⟩ | ⟨g,cap,rfl,hcap,hcel⟩
 .have hr:=run_append_nil (P:=prog) w 25 o.type 44 i0 (.agg zv.toArray) underlying25 hi hz0 ad 1 c0 cs (by rw[hz1,hc]) hn (by decide) (by decide) (by rw[hz2];decide)
  have hge:1<=grownCap w 1 0 44:=grownCap_ge w 1 0 44;generalize grownCap w 1 0 44=cp at *;unfold Oper.wp execOp
  simp only[ho,resolve,invoke,builtin,Sem.run_bind,Sem.run_pure,Result.andThen_ok,List.map_toArray,List.map_cons,List.map_nil,hs,hx,hr]
  refine k _ _ (.inr ⟨w.heap.size,cp,rfl,hge,?_⟩) (.inr ?_) (fun g hg=>.inr (by injection hg with e;exact e.symm))
  .have:=aa.new w.drew (cs++b_ (cp-1)) 44;simpa [Value.cells,rV]using this
  .exact(Below.refl w.heap.size w).drew.alloc (Nat.le_refl _) _
 .by_cases hroom:css.length+1<=cap
  .have hsz:(css.flatten++b_ (cap-css.length)).length=cap*22:=by
    have:(b_ (cap-css.length)).length=(cap-css.length)*22:=by
     unfold b_;rw[u7 _ (fun c h=>by rw[(List.mem_replicate.1 h).2];rfl),List.length_replicate]
    rw[List.length_append,hfl,this,<-Nat.add_mul];congr 1;omega
   have hr:=run_append_room (P:=prog) w 25 o.type 44 i0 underlying25 hi g css.length cap _ hcel ad 1 c0 cs (by rw[hz1,hc]) hn h1 hroom (by rw[hz1,hc,List.size_toArray,hsz];omega)
   have ez:b_ (cap-css.length)=zv++b_ (cap-(css.length+1)):=by rw[show cap-css.length=cap-(css.length+1)+1 by omega];rfl
   have e2:(css.flatten++b_ (cap-css.length)).take (css.length*i0.size)++cs++(css.flatten++b_ (cap-css.length)).drop (css.length*i0.size+cs.length)=css.flatten++(cs++b_ (cap-(css.length+1))):=by
    rw[hz1,hc,<-hfl,List.take_left',ez,List.append_assoc]
    .congr 2;rw[List.drop_append,List.drop_eq_nil_of_le (by omega),show css.flatten.length+22-css.flatten.length=zv.length by rw[u6];omega,List.drop_left,List.nil_append]
    .rfl
   unfold Oper.wp execOp;simp only[ho,resolve,invoke,builtin,Sem.run_bind,Sem.run_pure,Result.andThen_ok,List.map_toArray,List.map_cons,List.map_nil,hs,hx,hr];rw[e2]
   refine k _ _ (.inr ⟨g,cap,by simp,by simp;omega,?_⟩) (.inl ⟨g,cap,rfl,hcel,aw.row g w _⟩) (fun g hg=>.inl hg);have:=setRow_heap w g _ (css.flatten++(cs++b_ (cap-(css.length+1)))).toArray _ _ hcel
   have e3:(css++[cs]).flatten++b_ (cap-(css++[cs]).length)=css.flatten++(cs++b_ (cap-(css.length+1))):=by simp
   rw[e3];exact this
  .have holds:∀j u,css.flatten[j]?=some u->w.cell? ((⟨g,0,none⟩:Addr).add j)=some u:=fun j u hj=>by
    have hlt:=(List.getElem?_eq_some_iff.1 hj).1;have:=hcel.cell j (v:=u) (by rw[List.getElem?_append_left hlt];exact hj);rw[<-this];unfold Addr.add;split
    .subst_vars;rfl
    .simp
   have hr:=run_append_grow (P:=prog) w 25 o.type 44 i0 (.agg zv.toArray) underlying25 hi hz0 ⟨g,0,none⟩ css.length cap css.flatten (by rw[hz1,hfl]) holds ad 1 c0 cs (by rw[hz1,hc]) hn (by omega) (by omega) (growslice_fits (by omega) (by rw[hz2];omega))
   have hge:css.length+1<=grownCap w (css.length+1) cap 44:=grownCap_ge w (css.length+1) cap 44;generalize grownCap w (css.length+1) cap 44=cp at *;unfold Oper.wp execOp
   simp only[ho,resolve,invoke,builtin,Sem.run_bind,Sem.run_pure,Result.andThen_ok,List.map_toArray,List.map_cons,List.map_nil,hs,hx,hr]
   refine k _ _ (.inr ⟨w.heap.size,cp,by simp,by simpa using hge,?_⟩) (.inr ((Below.refl w.heap.size w).drew.alloc (Nat.le_refl _) _)) (fun g hg=>.inr (by injection hg with e;exact e.symm))
   have:=aa.new w.drew (css.flatten++(cs++b_ (cp-(css.length+1)))) 44;have e3:(css++[cs]).flatten++b_ (cp-(css++[cs]).length)=css.flatten++(cs++b_ (cp-(css.length+1))):=by simp
   rw[e3];simpa [Value.cells,rV,List.append_assoc]using this
theorem aw.nd2{g:Nat}{w w':World}{ao:Option Addr}{l:List Int}(h:aw g w w')(hx:Nd w ao l)(hf:0<l.length->∀a,ao=some a->a.block≠g):Nd w' ao l:=by
 intro h0;obtain⟨b,off,rfl,hlt,hc⟩:=hx h0;have hne:b≠g:=hf h0 _ rfl;exact⟨b,off,rfl,by rw[h.size];exact hlt,fun i hi=>(h.cell (p:=⟨b,off+i,none⟩) hne).trans (hc i hi)⟩
def NE(g:Nat)(cs:List Value):Prop:=∀i ao n c,(i=3\/i=4\/i=12\/i=13)->cs[i]?=some (.slice ao n c)->0<n->∀a,ao=some a->a.block≠g
theorem jD.ne{base g:Nat}{cs:List Value}(h:jD base cs)(hg:g<base):NE g cs:=fun i ao n c hi e _ a ha=>by
 have:Fr base ao:=by
  rcases hi with rfl | rfl | rfl | rfl
  .exact h.1 ao n c (.inl e)
  .exact h.1 ao n c (.inr e)
  .exact h.2 ao n c (.inl e)
  .exact h.2 ao n c (.inr e)
 have:=this a ha;omega
theorem KI.ne{w:World}{cs:List Value}{a:RA}(h:KI w cs a):NE w.heap.size cs:=by
 obtain⟨cp,cr,cf,rfl,_,h1,h2,h3⟩:=h.arg;obtain⟨ao,cap,so,sc,tO,tc,rfl,g1⟩:=h1;obtain⟨bo,dap,qo,eap,uo,uc,vO,vc,rfl,g2,a1,a2,a3,a4,a5,a6,a7,a8,a9,a10⟩:=h2
 have k:∀{o:Option Addr} {l:List Int},Nd w o l->0<l.length->∀a,o=some a->a.block≠w.heap.size:=fun hN h0 a ha=>by
  obtain⟨b,off,e,hlt,_⟩:=hN h0;rw[ha]at e;cases e;show b≠_;omega
 intro i o n c hi e hn;rcases hi with rfl | rfl | rfl | rfl
 .simp at e;obtain⟨rfl,rfl,rfl⟩:=e;exact k g1.s hn
 .simp at e;obtain⟨rfl,rfl,rfl⟩:=e;exact k g1.t hn
 .simp at e;obtain⟨rfl,rfl,rfl⟩:=e;exact k a7 hn
 .simp at e;obtain⟨rfl,rfl,rfl⟩:=e;exact k a9 hn
theorem KI.only2{w w2:World}{g:Nat}{cs gs:List Value}{a:RA}{T:TypeId}(h:KI w cs a)(nf:NE g cs)(hc:aa w g gs T)(hn:bT gs)(hO:aw g w w2)(G2:GV w2):KI w2 cs a:=by
 obtain⟨⟨cp,cr,cf,rfl,k,h1,h2,h3⟩,sm,_⟩:=h;have k9:bK w cf a.f:=⟨h3,sm.f0,sm.f1,sm.f2⟩;obtain⟨ao,cap,so,sc,tO,tc,rfl,g1⟩:=h1
 obtain⟨bo,dap,qo,eap,uo,uc,vO,vc,rfl,g2,a1,a2,a3,a4,a5,a6,a7,a8,a9,a10⟩:=h2
 refine⟨⟨_,_,cf,rfl,k,⟨ao,cap,so,sc,tO,tc,rfl,⟨g1.n,hO.wd g1.x (g1.x.apart hc hn),g1.f,g1.c,hO.nd2 g1.s (nf 3 _ _ _ (.inl rfl) rfl),g1.sf,g1.sc,hO.nd2 g1.t (nf 4 _ _ _ (.inr (.inl rfl)) rfl),g1.tf,g1.tc⟩⟩,⟨bo,dap,qo,eap,uo,uc,vO,vc,rfl,g2,hO.wd a1 (a1.apart hc hn),a2,a3,hO.wd a4 (a4.apart hc hn),a5,a6,hO.nd2 a7 (nf 12 _ _ _ (.inr (.inr (.inl rfl))) rfl),a8,hO.nd2 a9 (nf 13 _ _ _ (.inr (.inr (.inr rfl))) rfl),a10⟩,(k9.only hc hn hO).arg⟩,sm,G2⟩
structure du (gx:Nat) (w:World) (v:Value) (R:Nat->RA) (css:List (List Value)):Prop where
 lo:lp w v css
 row:∀l c,css[l]?=some c->KI w c (R l)/\(∀g,v.ownBlock=some g->NE g c)/\∀g0,g0<=gx->NE g0 c
theorem du.l22{gx:Nat}{w:World}{v:Value}{R:Nat->RA}{css:List (List Value)}(h:du gx w v R css):∀c∈css,c.length=22:=fun c hc=>by
 obtain⟨l,hl⟩:=List.getElem?_of_mem hc;exact(h.row l c hl).1.arg.nine.symm
theorem du.nil(gx:Nat)(w:World)(R:Nat->RA):du gx w (.slice none 0 0) R []:=⟨.inl ⟨rfl,rfl⟩,fun l c e=>by simp at e⟩
theorem du.keep{gx:Nat}{w w':World}{v:Value}{R:Nat->RA}{css:List (List Value)}(h:du gx w v R css)(hb:Below w.heap.size w w'):du gx w' v R css:=by
 refine⟨?_,fun l c e=>⟨(h.row l c e).1.keep hb,(h.row l c e).2⟩⟩;rcases h.lo with e | ⟨g,cap,e1,e2,e3⟩
 .exact .inl e
 .exact .inr ⟨g,cap,e1,e2,e3.kept hb⟩
theorem Da{gx:Nat}{w:World}{v:Value}{R:Nat->RA}{css:List (List Value)}(h:du gx w v R css)(n:Nat):bT (css.flatten++b_ n):=by
 refine bT.app (bT.flat fun c hc=>?_) (bT.flat fun c hc=>?_)
 .obtain⟨l,hl⟩:=List.getElem?_of_mem hc;exact(h.row l c hl).1.nou
 .rw[(List.mem_replicate.1 hc).2];exact C_
theorem xm{w:World}{g:Nat}{xs bs:List Value}{T S:TypeId}(h1:aa w g xs T)(h2:aa w g bs S):T=S:=by
 unfold aa at h1 h2;rw[h1]at h2;injection h2 with e
 injection e
theorem du.only{gx g0:Nat}{w w2:World}{v:Value}{R:Nat->RA}{css:List (List Value)}{gs:List Value}{T:TypeId}(h:du gx w v R css)(hg:g0<=gx)(hc:aa w g0 gs T)(hT:T≠44)(hn:bT gs)(hO:aw g0 w w2)(G2:GV w2):du gx w2 v R css:=by
 refine⟨?_,fun l c e=>⟨(h.row l c e).1.only2 ((h.row l c e).2.2 g0 hg) hc hn hO G2,(h.row l c e).2⟩⟩;rcases h.lo with e | ⟨g,cap,e1,e2,e3⟩
 .exact .inl e
 .exact .inr ⟨g,cap,e1,e2,hO.cel e3 (fun q=>hT (by subst q;exact xm hc e3))⟩
theorem Tn.cel{w w2:World}{v:Value}{css:List (List Value)}(h:Tn w w2 v css){b:Nat}{bs:List Value}{T:TypeId}(hc:aa w b bs T)(hT:T≠44):aa w2 b bs T:=by
 rcases h with⟨g,cap,rfl,e1,e2⟩ | hb
 .exact e2.cel hc (fun q=>hT (by subst q;exact xm hc e1))
 .exact hc.kept hb
theorem Tn.below{w w2:World}{v:Value}{css:List (List Value)}{base:Nat}(h:Tn w w2 v css)(ho:∀g,v.ownBlock=some g->base<=g)(hb:base<=w.heap.size):Below base w w2:=by
 rcases h with⟨g,cap,rfl,e1,e2⟩ | h
 .exact e2.below (ho g rfl)
 .exact h.mono hb
theorem du.push{gx:Nat}{w w2:World}{v v2:Value}{R:Nat->RA}{css:List (List Value)}{c:List Value}(h:du gx w v R css)(hk:KI w c (R css.length))(hn:(∀g,v.ownBlock=some g->NE g c)/\∀g0,g0<=gx->NE g0 c)(h2:lp w2 v2 (css++[c]))(hT:Tn w w2 v css)(hv:∀g,v2.ownBlock=some g->v.ownBlock=some g\/g=w.heap.size)(G2:GV w2):du gx w2 v2 R (css++[c]):=by
 have st:∀d a,KI w d a->((∀g,v.ownBlock=some g->NE g d)/\∀g0,g0<=gx->NE g0 d)->KI w2 d a/\(∀g,v2.ownBlock=some g->NE g d)/\∀g0,g0<=gx->NE g0 d:=fun d a hd hN=>by
  refine⟨?_,fun g hg=>?_,hN.2⟩
  .rcases hT with⟨g,cap,rfl,e1,e2⟩ | hb
   .exact hd.only2 (hN.1 g rfl) e1 (Da h _) e2 G2
   .exact hd.keep hb
  .rcases hv g hg with e | rfl
   .exact hN.1 g e
   .exact hd.ne
 refine⟨h2,fun l d e=>?_⟩;by_cases q:l<css.length
 .rw[List.getElem?_append_left q]at e;exact st d _ (h.row l d e).1 (h.row l d e).2
 .have q2:l=css.length:=by
   have:=(List.getElem?_eq_some_iff.1 e).1;simp at this;omega
  subst q2;rw[List.getElem?_append_right (Nat.le_refl _),Nat.sub_self]at e;simp at e;subst e;exact st c _ hk hn
theorem GL(c0 c1 c2 c3 c4 c5 c6 c7 c8 c9 c10 c11 c12 c13 c14 c15 c16 c17 c18 c19 c20 c21:Value):Instr.fill (fun i=>some (i*22,22)) ((Array.range (1*22)).map ((Value.agg zv.toArray).cells[·%(Value.agg zv.toArray).cells.size]!)) [(0,Value.agg #[c0,c1,c2,c3,c4,c5,c6,c7,c8,c9,c10,c11,c12,c13,c14,c15,c16,c17,c18,c19,c20,c21])]=some #[c0,c1,c2,c3,c4,c5,c6,c7,c8,c9,c10,c11,c12,c13,c14,c15,c16,c17,c18,c19,c20,c21]:=by kernel_rfl
theorem GM(cs:List Value)(h:cs.length=22):Instr.fill (fun i=>some (i*22,22)) ((Array.range (1*22)).map ((Value.agg zv.toArray).cells[·%(Value.agg zv.toArray).cells.size]!)) [(0,Value.agg cs.toArray)]=some cs.toArray:=by
 match cs,h with
 | [c0,c1,c2,c3,c4,c5,c6,c7,c8,c9,c10,c11,c12,c13,c14,c15,c16,c17,c18,c19,c20,c21],_=>exact GL c0 c1 c2 c3 c4 c5 c6 c7 c8 c9 c10 c11 c12 c13 c14 c15 c16 c17 c18 c19 c20 c21
theorem I_{ops:Array Oper}{rest:List Oper}{d:Option Tmp}{ty:TypeId}{ps:String}{af:Array Edge}{a:Act}{w:World}{Q:Exit->Act->World->Prop}{x:Operand}(cs:List Value)(hc:cs.length=22)(hx:a.eval x=.agg cs.toArray)
  (h:wpList prog ops Q rest (a.put d (.slice (some ⟨w.heap.size,0,none⟩) 1 1)) (w.alloc (.cells cs.toArray 44))):
  wpList prog ops Q (⟨d,.buildSlice 25 1 #[(0,x)],ty,ps,af,none⟩::rest) a w:=by
 obtain⟨i0,hi,hz0,hz1,hz2⟩:=info_parts vF;refine wpList_buildSlice rfl 25 44 1 #[(0,x)] rfl cs.toArray i0 (.agg zv.toArray) underlying25 hi hz0 (by rw[hz1];decide) (by rw[hz1];decide) ?_ h;rw[hz1]
 simp only[List.map_toArray,List.map_cons,List.map_nil,hx];exact GM cs hc
theorem xY{ops:Array Oper}{rest:List Oper}{o:Oper}{a:Act}{w:World}{Q:Exit->Act->World->Prop}(hgd:o.guard=none)(s x:Operand)
  (ho:o.op=.call { callee:=.builtin .append,args:=#[s,x],argTypes:=#[25,25] })
  (v:Value) (css:List (List Value)) (hs:a.eval s=v) (h:lp w v css) (hL:∀c∈css,c.length=22) (cs:List Value) (hc:cs.length=22) (ad:Addr) (c0:Nat) (hx:a.eval x=.slice (some ad) 1 c0) (hn:∀j u,cs[j]?=some u->w.cell? (ad.add j)=some u) (h1:∀u∈cs,u.oneCell'=true) (h8:css.length<1000000)
  (k:∀v' w',lp w' v' (css++[cs])->Tn w w' v css->(∀g,v'.ownBlock=some g->v.ownBlock=some g\/g=w.heap.size)->wpList prog ops Q rest (a.put o.dst v') w'):wpList prog ops Q (o::rest) a w:=
 wpList_plain hgd fun K hK=>xS s x ho v css hs h hL cs hc ad c0 hx hn h1 h8 fun v' w' h1 h2 h3=>hK _ _ (k v' w' h1 h2 h3)
theorem du.lv{gx:Nat}{w:World}{v:Value}{av:List RA}{css:List (List Value)}(h:du gx w v (fun j=>av.getD j cy) css)(h8:css.length=av.length):∃lo cap,v=.slice lo av.length cap/\Lv w lo av:=by
 rcases h.lo with⟨e,rfl⟩ | ⟨g,cap,e1,e2,e3⟩
 .have h0:av.length=0:=by simpa using h8.symm
  exact⟨none,0,by rw[h0];exact e,fun q=>absurd q (by omega)⟩
 .rw[h8]at e1 e2;refine⟨_,cap,e1,fun _=>⟨g,0,rfl,e3.lt,fun l hl=>?_⟩⟩;obtain⟨c,hc⟩:∃c,css[l]?=some c:=⟨_,List.getElem?_eq_getElem (by omega)⟩
  obtain⟨p,q,f1,f2⟩:=GB css h.l22 l c hc (b_ (cap-css.length));refine⟨c,?_,(h.row l c hc).1⟩;rw[f1]at e3;have:=aa.part p c q e3;rwa [f2,<-Nat.zero_add (l*22)]at this
theorem Jj{w:World}{base n c:Nat}{ao:Option Addr}{l:List Bool}(h:w.ownsRow base 4 1 (.slice ao n c) n (l.map .bool))(hn:n=l.length):Bl w ao l:=by
 intro h0;obtain⟨_,⟨e,_⟩ | ⟨g,cap,cur,e,_,hh,_,_,hs,ht⟩⟩:=h
 .injection e with e1 e2 e3
  omega
 .injection e with e1 e2 e3
  subst e1;refine⟨g,0,rfl,(Array.getElem?_eq_some_iff.1 hh).1,fun i hi=>?_⟩
  have e5:cur.toList[i]?=some (.bool (bt l i)):=by
   have:(l.map Value.bool)[i]?=some (.bool (bt l i)):=by
    unfold bt;rw[List.getElem?_map,List.getD_eq_getElem?_getD,List.getElem?_eq_getElem hi];rfl
   rw[<-ht,List.getElem?_take_of_lt (by omega)]at this;exact this
  rw[Nat.zero_add];unfold World.cell?;rw[show w.heap[({ block:=g,off:=i,spot:=none }:Addr).block]?=_ from hh];simpa using e5
end Go.Proofs.YtleegaihbgbcjaaGreatDoor
