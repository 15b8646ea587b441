import Derived.Test.YtleegaihbgbcjabGreatDoorT22
import Derived.Laws.AppendOwn
import Derived.Great.BuildSlice
set_option linter.unusedVariables false
set_option linter.unusedSimpArgs false
set_option maxRecDepth 100000
set_option maxHeartbeats 16000000
open Go.Proofs.Tryz
namespace Go.Proofs.YtleegaihbgbcjabGreatDoor
open Go.RowKit Num Bit
theorem Di{w:World}{base e size n:Nat}{v:Value}{vs:List Value}(h:w.ownsRow base e size v n vs):∃ao cap,v=.slice ao n cap:=by
 obtain⟨h1,⟨rfl,rfl⟩ | ⟨g,cap,cur,rfl,e2,hh,r,_⟩⟩:=h
 .exact⟨none,0,rfl⟩
 .exact⟨some ⟨g,0,none⟩,cap,rfl⟩
theorem D_{o:Oper}{a:Act}{w:World}{K:Act->World->Prop}{Q:Exit->Act->World->Prop}(s x:Operand)(t:TypeId)
  (ho:o.op=.call { callee:=.builtin .append,args:=#[s,x],argTypes:=#[t,t] })
  (base:Nat) (e:TypeId) (i:TypeInfo) (z:Value) (size bytes:Nat) (ht:prog.underlying t=some (.slice e)) (hi:prog.info? e=some i) (hz:i.zero=some z)
  (hsize:i.size=size) (hby:i.bytes=bytes) (hzs:z.cells.size=size) (hsz:0<size)
  (v:Value) (n:Nat) (vs:List Value) (hs:a.eval s=v) (hown:w.ownsRow base e size v n vs)
  (xa:Option Addr) (m c:Nat) (news:List Value) (hx:a.eval x=.slice xa m c) (hl:news.length=m*size) (hsrc:0<m->∃ad,xa=some ad/\∀j u,news[j]?=some u->w.cell? (ad.add j)=some u) (h1:∀u∈news,u.oneCell'=true)
  (h63:n+m<=maxLen) (hbytes:(n+m)*bytes<=140737488355328) (hbase:base<=w.heap.size)
  (h:∀ao cap w',w'.ownsRow base e size (.slice ao (n+m) cap) (n+m) (vs++news)->Below base w w'->(∀k,k<w.heap.size->v.ownBlock≠some k->w'.heap[k]?=w.heap[k]?)->w.heap.size<=w'.heap.size->K (a.put o.dst (.slice ao (n+m) cap)) w'):
  Oper.wp prog o a w K Q:=by
 by_cases hm:m=0
 .subst hm;have hn:news=[]:=List.eq_nil_of_length_eq_zero (by omega);subst hn;have hr:=Ap.run_append_zero w base t o.type e i size ht hi v n vs hown xa c;obtain⟨ao,cap,rfl⟩:=Di hown;unfold Oper.wp execOp
  simp only[ho,resolve,invoke,builtin,Sem.run_bind,Sem.run_pure,Result.andThen_ok,List.map_toArray,List.map_cons,List.map_nil,hs,hx,hr]
  refine h ao cap w (by simpa using hown) (Below.refl _ _) (fun _ _ _=>rfl) (Nat.le_refl _)
 .obtain⟨ad,rfl,hn⟩:=hsrc (by omega);refine wp_append_lies w s x t ho base e i z size bytes ht hi hz hsize hby hzs hsz v n vs hs hown ad m c news hx hl hn h1 (by omega) h63 hbytes hbase w.heap.size rfl ?_
  intro g cap w' o1 o2 o3 o4;refine h (some ⟨g,0,none⟩) cap w' o1 ?_ ?_ o2.size
  .exact(Below.refl _ _).grown o2 hbase (fun k hk=>(hown.lt k hk).1)
  .intro k hk hne;exact o2.block k hk (fun q=>hne q.symm)
theorem qz{ops:Array Oper}{rest:List Oper}{o:Oper}{a:Act}{w:World}{Q:Exit->Act->World->Prop}(hgd:o.guard=none)(s x:Operand)(t:TypeId)
  (ho:o.op=.call { callee:=.builtin .append,args:=#[s,x],argTypes:=#[t,t] })
  (base:Nat) (e:TypeId) (i:TypeInfo) (z:Value) (size bytes:Nat) (ht:prog.underlying t=some (.slice e)) (hi:prog.info? e=some i) (hz:i.zero=some z)
  (hsize:i.size=size) (hby:i.bytes=bytes) (hzs:z.cells.size=size) (hsz:0<size)
  (v:Value) (n:Nat) (vs:List Value) (hs:a.eval s=v) (hown:w.ownsRow base e size v n vs)
  (xa:Option Addr) (m c:Nat) (news:List Value) (hx:a.eval x=.slice xa m c) (hl:news.length=m*size) (hsrc:0<m->∃ad,xa=some ad/\∀j u,news[j]?=some u->w.cell? (ad.add j)=some u) (h1:∀u∈news,u.oneCell'=true)
  (h63:n+m<=maxLen) (hbytes:(n+m)*bytes<=140737488355328) (hbase:base<=w.heap.size)
  (h:∀ao cap w',w'.ownsRow base e size (.slice ao (n+m) cap) (n+m) (vs++news)->Below base w w'->(∀k,k<w.heap.size->v.ownBlock≠some k->w'.heap[k]?=w.heap[k]?)->w.heap.size<=w'.heap.size->wpList prog ops Q rest (a.put o.dst (.slice ao (n+m) cap)) w'):
  wpList prog ops Q (o::rest) a w:=
 wpList_plain hgd fun K hK=>D_ s x t ho base e i z size bytes ht hi hz hsize hby hzs hsz v n vs hs hown xa m c news hx hl hsrc h1 h63 hbytes hbase fun ao cap w' a1 a2 a3 a4=>hK _ _ (h ao cap w' a1 a2 a3 a4)
def vK(k:IntKind)(l:List Nat):List Value:=l.map fun n:Nat=>Value.int k (n:Int)
theorem sS(k:IntKind)(l:List Nat)(p:Nat):vK k (l++[p])=vK k l++[.int k (p:Int)]:=by simp[vK]
theorem ia(k:IntKind)(a b:List Nat):vK k (a++b)=vK k a++vK k b:=by simp[vK]
theorem jj(k:IntKind)(l:List Nat):(vK k l).length=l.length:=by simp[vK]
def fl(f:Nat->Bool)(b:Bool)(l:List Nat)(q:Nat):List Nat:=(l.take q).filter fun x=>f x==b
theorem eQ(f:Nat->Bool)(b:Bool)(l:List Nat)(q:Nat):(fl f b l q).length<=q:=by
 unfold fl;exact Nat.le_trans (List.length_filter_le _ _) (by rw[List.length_take];omega)
theorem wT{f:Nat->Bool}{b:Bool}{l:List Nat}{q:Nat}(h:q<l.length)(hb:f (gt l q)=b):fl f b l (q+1)=fl f b l q++[gt l q]:=by
 have e:l[q]?=some (gt l q):=by unfold gt;rw[List.getD_eq_getElem?_getD,List.getElem?_eq_getElem h];rfl
 unfold fl;rw[List.take_add_one,e,List.filter_append];simp[hb]
theorem wR{f:Nat->Bool}{b:Bool}{l:List Nat}{q:Nat}(h:q<l.length)(hb:f (gt l q)≠b):fl f b l (q+1)=fl f b l q:=by
 have e:l[q]?=some (gt l q):=by unfold gt;rw[List.getD_eq_getElem?_getD,List.getElem?_eq_getElem h];rfl
 unfold fl;rw[List.take_add_one,e,List.filter_append];simp[hb]
structure PE (T:TypeId) (k:IntKind) (w:World) (base:Nat) (f:Nat->Bool) (l:List Nat) (q:Nat) (vo vn:Value):Prop where
 o1:w.ownsRow base T 1 vo (fl f false l q).length (vK k (fl f false l q))
 o2:w.ownsRow base T 1 vn (fl f true l q).length (vK k (fl f true l q))
 ne:∀j,vo.ownBlock=some j->vn.ownBlock≠some j
theorem PE.keep{T:TypeId}{k:IntKind}{w w':World}{base:Nat}{f:Nat->Bool}{l:List Nat}{q:Nat}{vo vn:Value}(h:PE T k w base f l q vo vn)(hb:Below w.heap.size w w'):PE T k w' base f l q vo vn:=⟨Ag.owns_keep h.o1 hb,Ag.owns_keep h.o2 hb,h.ne⟩
theorem PE.offf{T:TypeId}{kk:IntKind}{w w1 w':World}{base g cap p:Nat}{f:Nat->Bool}{l:List Nat}{q:Nat}{vo vn:Value}(h:PE T kk w base f l q vo vn)(hq:q<l.length)(hA:Below w.heap.size w w1)
  (own:w'.ownsRow base T 1 (.slice (some ⟨g,0,none⟩) ((fl f false l q).length+1) cap) ((fl f false l q).length+1) (vK kk (fl f false l q)++[.int kk (p:Int)]))
  (hblk:∀k,k<w1.heap.size->vo.ownBlock≠some k->w'.heap[k]?=w1.heap[k]?) (hloc:vo.ownBlock=some g\/g=w1.heap.size) (hp:p=gt l q) (hB:f p=false):PE T kk w' base f l (q+1) (.slice (some ⟨g,0,none⟩) ((fl f false l q).length+1) cap) vn:=by
 subst hp;have e1:=wT (b:=false) hq hB;have e2:=wR (f:=f) (b:=true) hq (by rw[hB];decide);refine⟨?_,?_,fun k hk hk2=>?_⟩
 .rw[e1,sS,List.length_append];exact own
 .rw[e2];refine Ag.owns_of h.o2 fun k hk=>?_;have lk:=(h.o2.lt k hk).2;exact(hblk k (Nat.lt_of_lt_of_le lk hA.size) (fun g'=>h.ne k g' hk)).trans (hA.block k lk)
 .simp only[Value.ownBlock,Option.some.injEq]at hk;subst hk;rcases hloc with e | e
  .exact h.ne _ e hk2
  .have:=(h.o2.lt _ hk2).2;have:=hA.size;omega
theorem PE.onn{T:TypeId}{kk:IntKind}{w w1 w':World}{base g cap p:Nat}{f:Nat->Bool}{l:List Nat}{q:Nat}{vo vn:Value}(h:PE T kk w base f l q vo vn)(hq:q<l.length)(hA:Below w.heap.size w w1)
  (own:w'.ownsRow base T 1 (.slice (some ⟨g,0,none⟩) ((fl f true l q).length+1) cap) ((fl f true l q).length+1) (vK kk (fl f true l q)++[.int kk (p:Int)]))
  (hblk:∀k,k<w1.heap.size->vn.ownBlock≠some k->w'.heap[k]?=w1.heap[k]?) (hloc:vn.ownBlock=some g\/g=w1.heap.size) (hp:p=gt l q) (hB:f p=true):PE T kk w' base f l (q+1) vo (.slice (some ⟨g,0,none⟩) ((fl f true l q).length+1) cap):=by
 subst hp;have e1:=wT (b:=true) hq hB;have e2:=wR (f:=f) (b:=false) hq (by rw[hB];decide);refine⟨?_,?_,fun k hk hk2=>?_⟩
 .rw[e2];refine Ag.owns_of h.o1 fun k hk=>?_;have lk:=(h.o1.lt k hk).2;exact(hblk k (Nat.lt_of_lt_of_le lk hA.size) (fun g'=>h.ne k hk g')).trans (hA.block k lk)
 .rw[e1,sS,List.length_append];exact own
 .simp only[Value.ownBlock,Option.some.injEq]at hk2;subst hk2;rcases hloc with e | e
  .exact h.ne _ hk e
  .have:=(h.o1.lt _ hk).2;have:=hA.size;omega
theorem lr{w:World}{base n:Nat}{T:TypeId}{v:Value}{vs:List Value}(h:w.ownsRow base T 1 v n vs)(hn:n=vs.length):∃xa c,v=.slice xa n c/\(0<n->∃ad,xa=some ad/\∀j u,vs[j]?=some u->w.cell? (ad.add j)=some u):=by
 have h':=h;obtain⟨_,⟨e,h0⟩ | ⟨g,cap,cur,e,_⟩⟩:=h
 .have e0:n=0:=h0;exact⟨none,0,by rw[e,e0],fun h=>absurd h (by omega)⟩
 .subst e;refine⟨_,cap,rfl,fun _=>⟨_,rfl,fun j u hu=>?_⟩⟩;have:=(Ag.owns_cells h').2 j u hu;rw[<-this];unfold Addr.add;split
  .subst_vars;rfl
  .simp
theorem Dm{w:World}{base n c:Nat}{T:TypeId}{ao:Option Addr}{vs:List Value}(h:w.ownsRow base T 1 (.slice ao n c) n vs):∀a,ao=some a->base<=a.block:=fun a ha=>by
 subst ha;exact(h.lt a.block rfl).1
theorem vQ:(prog.info? 5).map (fun i=>(i.zero,i.size,i.bytes))=some (some (.int .u8 0),1,1):=by kernel_rfl
theorem El(lo:Option Addr)(l:List Nat)(lc g0:Nat)(f:Nat->Bool)(w:World)(hl:Bd w lo l)(hn:l.length<=1048576)
  (HC:Hid (∀x w0,x∈l->Below w.heap.size w w0->Qq 24 #[.int .u8 (x:Nat),.pointer (some ⟨g0,0,none⟩)] w0 (.bool (f x)))):
  Calls prog 28 #[.slice lo l.length lc,.func (.func 24) #[] #[.pointer (some ⟨g0,0,none⟩)]] w fun e w'=>∃ao n cap,e=.returned (.tuple #[.slice ao n cap,.int .i64 ((fl f false l l.length).length:Nat)])/\n=(Mx.pt f l).length/\w'.ownsRow w.heap.size 5 1 (.slice ao n cap) n (vK .u8 (Mx.pt f l))/\Below w.heap.size w w':=by
 obtain⟨i0,hi,hz0,hz1,hz2⟩:=info_parts vQ;have HN:=ag hl;clear hl;go_enter func28,ntmps28;go_wp2
 go_loopw [6,7,12] (fun vo vn vi wr=>∃q:Nat,q<=l.length/\vi=.int .i64 q/\Hid (PE 5 .u8 wr w.heap.size f l q vo vn)/\Hid (Below w.heap.size w wr)) (fun _ _ vi _=>l.length-(intOf vi).toNat)
 case atStart=>exact⟨0,Nat.zero_le _,rfl,ag ⟨World.ownsRow_nil _ _ _ _,World.ownsRow_nil _ _ _ _,fun k h=>by cases h⟩,ag (Below.refl _ _)⟩
 case round=>
  obtain⟨q,hq,rfl,HP,HB⟩:=hrel;by_cases hlt:q<l.length
  .have hltz:(q:Int)<(l.length:Int):=by omega
   obtain⟨b,off,rfl,hlb,hc⟩:=(HN.out.keep HB.out) (by omega);have a0:=hc q hlt;have hmem:gt l q∈l:=by unfold gt;rw[List.getD_eq_getElem?_getD,List.getElem?_eq_getElem hlt];exact List.getElem_mem hlt
   obtain⟨p,hp⟩:∃p,Hid (p=gt l q):=⟨_,rfl⟩;rw[<-hp.out]at a0 hmem;have H:=ag (HC.out p wr hmem HB.out);have zb:=HB.out.size;clear hc;go_wp2_with fail;refine H.out.mono ?_;rintro e w5 ⟨rfl,hb⟩
   have HP5:=ag (HP.out.keep hb);have HB5:=ag (bg HB.out hb);have z5:=hb.size;obtain⟨BB,hBB⟩:∃BB,Hid (f p=BB):=⟨_,rfl⟩;rw[hBB.out];clear hb HP HB H a0
   rcases(show BB=true\/BB=false by cases BB;exact .inr rfl;exact .inl rfl)with rfl | rfl
   .have HO:=ag HP5.out.o2
    go_wp2_with (at_builtin;refine Ag.wpList_append (by rfl) _ _ _ (by rfl) w.heap.size 5 i0 (.int .u8 0) 1 1 underlying22 hi hz0 hz1 hz2 rfl (by decide) u7 (fl f true l q).length (vK .u8 (fl f true l q)) (by rfl) (HO.out.alloc _) ⟨w5.heap.size,0,none⟩ 1 1 [.int .u8 (p:Nat)] (by rfl) rfl (by decide) ?c1 ?c2 ?c3 ?c4 ?c5 ?_)
    case c1=>
     intro j u hj;have:=(aa.new w5 [.int .u8 (p:Nat)] 5).cell j hj;match j,hj with
     | 0,_=>exact this
    case c2=>intro u hu;simp at hu;subst hu;rfl
    case c3=>have:=eQ f true l q;unfold maxLen;omega
    case c4=>have:=eQ f true l q;omega
    case c5=>simp;omega
    intro g8 cap8 w8 own8 hb8 hloc8 hlt8 hblk8 hs8;have hA:=below_alloc w5 (.cells #[.int .u8 (p:Nat)] 5);have HB8:Hid (Below w.heap.size w w8):=(bg HB5.out hA).trans (hb8.mono (by omega))
    have HP8:=ag (HP5.out.onn (g:=g8) (cap:=cap8) hlt hA own8 (fun k hk hn=>hblk8 k (by simpa using hk) hn) (by simpa using hloc8) hp.out hBB.out);clear own8 hb8 hloc8 hlt8 hblk8 hs8 hA HB5 HP5 HO hBB
    try simp only[Act.put,ah,List.set]
    go_wp2;exact⟨⟨q+1,by omega,by go_num,HP8,HB8⟩,by simp only[intOf];omega⟩
   .have HO:=ag HP5.out.o1
    go_wp2_with (at_builtin;refine Ag.wpList_append (by rfl) _ _ _ (by rfl) w.heap.size 5 i0 (.int .u8 0) 1 1 underlying22 hi hz0 hz1 hz2 rfl (by decide) u6 (fl f false l q).length (vK .u8 (fl f false l q)) (by rfl) (HO.out.alloc _) ⟨w5.heap.size,0,none⟩ 1 1 [.int .u8 (p:Nat)] (by rfl) rfl (by decide) ?c1 ?c2 ?c3 ?c4 ?c5 ?_)
    case c1=>
     intro j u hj;have:=(aa.new w5 [.int .u8 (p:Nat)] 5).cell j hj;match j,hj with
     | 0,_=>exact this
    case c2=>intro u hu;simp at hu;subst hu;rfl
    case c3=>have:=eQ f false l q;unfold maxLen;omega
    case c4=>have:=eQ f false l q;omega
    case c5=>simp;omega
    intro g8 cap8 w8 own8 hb8 hloc8 hlt8 hblk8 hs8;have hA:=below_alloc w5 (.cells #[.int .u8 (p:Nat)] 5);have HB8:Hid (Below w.heap.size w w8):=(bg HB5.out hA).trans (hb8.mono (by omega))
    have HP8:=ag (HP5.out.offf (g:=g8) (cap:=cap8) hlt hA own8 (fun k hk hn=>hblk8 k (by simpa using hk) hn) (by simpa using hloc8) hp.out hBB.out);clear own8 hb8 hloc8 hlt8 hblk8 hs8 hA HB5 HP5 HO hBB
    try simp only[Act.put,ah,List.set]
    go_wp2;exact⟨⟨q+1,by omega,by go_num,HP8,HB8⟩,by simp only[intOf];omega⟩
  .obtain rfl:q=l.length:=by omega
   have HO1:=ag HP.out.o1;have l1:=eQ f false l l.length;have l2:=eQ f true l l.length;obtain⟨xa,c,rfl,hsrc⟩:=lr HP.out.o2 (jj _ _).symm
   obtain⟨ya,yc,rfl,_⟩:=lr HP.out.o1 (jj _ _).symm;have HS:=ag hsrc;have zb:=HB.out.size;clear hsrc HP
   go_wp2_with (at_builtin;refine qz (by rfl) _ _ _ (by rfl) w.heap.size 5 i0 (.int .u8 0) 1 1 underlying22 hi hz0 hz1 hz2 rfl (by decide) _ (fl f false l l.length).length (vK .u8 (fl f false l l.length)) (by rfl) HO1.out xa (fl f true l l.length).length c (vK .u8 (fl f true l l.length)) (by rfl) (by rw[jj,Nat.mul_one]) HS.out ?c2 ?c3 ?c4 ?c5 ?_)
   case c2=>intro u hu;unfold vK at hu;obtain⟨_,_,rfl⟩:=List.mem_map.1 hu;rfl
   case c3=>unfold maxLen;omega
   case c4=>omega
   case c5=>omega
   intro ao cap w8 own8 hb8 _ _;try simp only[Act.put,ah,List.set]
   have eP:Mx.pt f l=fl f false l l.length++fl f true l l.length:=by unfold Mx.pt fl;rw[List.take_length]
   have HF:Hid ((fl f false l l.length).length+(fl f true l l.length).length=(Mx.pt f l).length/\w8.ownsRow w.heap.size 5 1 (.slice ao ((fl f false l l.length).length+(fl f true l l.length).length) cap) ((fl f false l l.length).length+(fl f true l l.length).length) (vK .u8 (Mx.pt f l))/\Below w.heap.size w w8):=by
    refine⟨by rw[eP,List.length_append],?_,HB.out.trans (hb8.mono (Nat.le_refl _))⟩;rw[eP,ia];exact own8
   clear own8 hb8 HO1 HS HB eP;go_wp2;go_ret2;exact⟨ao,_,cap,rfl,HF.out⟩
theorem KI.nou{w:World}{cs:List Value}{a:RA}(h:KI w cs a):bT cs:=by
 obtain⟨cp,cr,cf,rfl,_,h1,h2,h3⟩:=h.arg;exact nou_mk h1.nou h2.nou h3.nou
def bQ(n:Nat):List Value:=(List.replicate n zv).flatten
theorem uF:bT zv:=by
 intro v hv n e;subst e;simp[zv]at hv
theorem bT.flat{css:List (List Value)}(h:∀c∈css,bT c):bT css.flatten:=fun v hv n=>by
 obtain⟨c,hc,hv⟩:=List.mem_flatten.1 hv;exact h c hc v hv n
theorem qU(css:List (List Value))(h:∀c∈css,c.length=22):css.flatten.length=css.length*22:=by
 induction css with
 | nil=>rfl
 | cons a l ih=>
  rw[List.flatten_cons,List.length_append,ih (fun c hc=>h c (List.mem_cons_of_mem _ hc)),h a List.mem_cons_self,List.length_cons];omega
theorem wQ(css:List (List Value))(h:∀c∈css,c.length=22)(l:Nat)(c:List Value)(hl:css[l]?=some c)(post:List Value):∃p q,css.flatten++post=p++(c++q)/\p.length=l*22:=by
 induction css generalizing l with
 | nil=>simp at hl
 | cons a L ih=>
  cases l with
  | zero=>
   simp at hl;subst hl;exact⟨[],L.flatten++post,by simp,rfl⟩
  | succ l=>
   obtain⟨p,q,e1,e2⟩:=ih (fun c hc=>h c (List.mem_cons_of_mem _ hc)) l (by simpa using hl);refine⟨a++p,q,?_,?_⟩
   .rw[List.flatten_cons,List.append_assoc,e1,List.append_assoc]
   .rw[List.length_append,h a List.mem_cons_self,e2];omega
theorem oT:(prog.info? 63).map (fun i=>(i.zero,i.size,i.bytes))=some (some (.agg zv.toArray),22,320):=by kernel_rfl
theorem sD(n:Nat):Builtin.zeroCells zv.toArray n=(bQ n).toArray:=by
 have e:∀n,(List.range (n*22)).map (fun i=>zv.toArray[i%22]!)=bQ n:=by
  intro n;induction n with
  | zero=>rfl
  | succ n ih=>
   have h:bQ (n+1)=bQ n++zv:=by
    unfold bQ;rw[List.replicate_succ',List.flatten_append];simp
   rw[h,<-ih,Nat.succ_mul,List.range_add,List.map_append,List.map_map];congr 1;have g:(List.range 22).map (fun i=>zv.toArray[i]!)=zv:=by rfl
   refine Eq.trans (List.map_congr_left fun i hi=>?_) g;have hi:=List.mem_range.1 hi;simp only[Function.comp_def];rw[show(n*22+i)%22=i by omega]
 apply Array.ext';unfold Builtin.zeroCells;rw[Array.toList_map,Array.toList_range];exact e n
def kU(w:World)(v:Value)(css:List (List Value)):Prop:=
 (v=.slice none 0 0/\css=[])\/∃g cap,v=.slice (some ⟨g,0,none⟩) css.length cap/\css.length<=cap/\aa w g (css.flatten++bQ (cap-css.length)) 63
def Tn(w w':World)(v:Value)(css:List (List Value)):Prop:=
 (∃g cap,v=.slice (some ⟨g,0,none⟩) css.length cap/\aa w g (css.flatten++bQ (cap-css.length)) 63/\aB g w w')\/Below w.heap.size w w'
theorem yi{o:Oper}{a:Act}{w:World}{K:Act->World->Prop}{Q:Exit->Act->World->Prop}(s x:Operand)
  (ho:o.op=.call { callee:=.builtin .append,args:=#[s,x],argTypes:=#[24,24] })
  (v:Value) (css:List (List Value)) (hs:a.eval s=v) (h:kU w v css) (hL:∀c∈css,c.length=22) (cs:List Value) (hc:cs.length=22) (ad:Addr) (c0:Nat) (hx:a.eval x=.slice (some ad) 1 c0) (hn:∀j u,cs[j]?=some u->w.cell? (ad.add j)=some u) (h1:∀u∈cs,u.oneCell'=true) (h8:css.length<1000000)
  (k:∀v' w',kU w' v' (css++[cs])->Tn w w' v css->(∀g,v'.ownBlock=some g->v.ownBlock=some g\/g=w.heap.size)->K (a.put o.dst v') w'):o.wp prog a w K Q:=by
 obtain⟨i0,hi,hz0,hz1,hz2⟩:=info_parts oT;have hfl:=qU css hL;rcases h with⟨rfl,rfl⟩ | ⟨g,cap,rfl,hcap,hcel⟩
 .have hr:=run_append_nil (P:=prog) w 24 o.type 63 i0 (.agg zv.toArray) underlying24 hi hz0 ad 1 c0 cs (by rw[hz1,hc]) hn (by decide) (by decide) (by rw[hz2];decide)
  have hge:1<=grownCap w 1 0 63:=grownCap_ge w 1 0 63;generalize grownCap w 1 0 63=cp at *;unfold Oper.wp execOp
  simp only[ho,resolve,invoke,builtin,Sem.run_bind,Sem.run_pure,Result.andThen_ok,List.map_toArray,List.map_cons,List.map_nil,hs,hx,hr]
  refine k _ _ (.inr ⟨w.heap.size,cp,rfl,hge,?_⟩) (.inr ?_) (fun g hg=>.inr (by injection hg with e;exact e.symm))
  .have:=aa.new w.drew (cs++bQ (cp-1)) 63;simpa [Value.cells,sD]using this
  .exact(Below.refl w.heap.size w).drew.alloc (Nat.le_refl _) _
 .by_cases hroom:css.length+1<=cap
  .have hsz:(css.flatten++bQ (cap-css.length)).length=cap*22:=by
    have:(bQ (cap-css.length)).length=(cap-css.length)*22:=by
     unfold bQ;rw[qU _ (fun c h=>by rw[(List.mem_replicate.1 h).2];rfl),List.length_replicate]
    rw[List.length_append,hfl,this,<-Nat.add_mul];congr 1;omega
   have hr:=run_append_room (P:=prog) w 24 o.type 63 i0 underlying24 hi g css.length cap _ hcel ad 1 c0 cs (by rw[hz1,hc]) hn h1 hroom (by rw[hz1,hc,List.size_toArray,hsz];omega)
   have ez:bQ (cap-css.length)=zv++bQ (cap-(css.length+1)):=by rw[show cap-css.length=cap-(css.length+1)+1 by omega];rfl
   have e2:(css.flatten++bQ (cap-css.length)).take (css.length*i0.size)++cs++(css.flatten++bQ (cap-css.length)).drop (css.length*i0.size+cs.length)=css.flatten++(cs++bQ (cap-(css.length+1))):=by
    rw[hz1,hc,<-hfl,List.take_left',ez,List.append_assoc]
    .congr 2;rw[List.drop_append,List.drop_eq_nil_of_le (by omega),show css.flatten.length+22-css.flatten.length=zv.length by rw[lQ];omega,List.drop_left,List.nil_append]
    .rfl
   unfold Oper.wp execOp;simp only[ho,resolve,invoke,builtin,Sem.run_bind,Sem.run_pure,Result.andThen_ok,List.map_toArray,List.map_cons,List.map_nil,hs,hx,hr];rw[e2]
   refine k _ _ (.inr ⟨g,cap,by simp,by simp;omega,?_⟩) (.inl ⟨g,cap,rfl,hcel,aB.row g w _⟩) (fun g hg=>.inl hg);have:=setRow_heap w g _ (css.flatten++(cs++bQ (cap-(css.length+1)))).toArray _ _ hcel
   have e3:(css++[cs]).flatten++bQ (cap-(css++[cs]).length)=css.flatten++(cs++bQ (cap-(css.length+1))):=by simp
   rw[e3];exact this
  .have holds:∀j u,css.flatten[j]?=some u->w.cell? ((⟨g,0,none⟩:Addr).add j)=some u:=fun j u hj=>by
    have hlt:=(List.getElem?_eq_some_iff.1 hj).1;have:=hcel.cell j (v:=u) (by rw[List.getElem?_append_left hlt];exact hj);rw[<-this];unfold Addr.add;split
    .subst_vars;rfl
    .simp
   have hr:=run_append_grow (P:=prog) w 24 o.type 63 i0 (.agg zv.toArray) underlying24 hi hz0 ⟨g,0,none⟩ css.length cap css.flatten (by rw[hz1,hfl]) holds ad 1 c0 cs (by rw[hz1,hc]) hn (by omega) (by omega) (growslice_fits (by omega) (by rw[hz2];omega))
   have hge:css.length+1<=grownCap w (css.length+1) cap 63:=grownCap_ge w (css.length+1) cap 63;generalize grownCap w (css.length+1) cap 63=cp at *;unfold Oper.wp execOp
   simp only[ho,resolve,invoke,builtin,Sem.run_bind,Sem.run_pure,Result.andThen_ok,List.map_toArray,List.map_cons,List.map_nil,hs,hx,hr]
   refine k _ _ (.inr ⟨w.heap.size,cp,by simp,by simpa using hge,?_⟩) (.inr ((Below.refl w.heap.size w).drew.alloc (Nat.le_refl _) _)) (fun g hg=>.inr (by injection hg with e;exact e.symm))
   have:=aa.new w.drew (css.flatten++(cs++bQ (cp-(css.length+1)))) 63;have e3:(css++[cs]).flatten++bQ (cp-(css++[cs]).length)=css.flatten++(cs++bQ (cp-(css.length+1))):=by simp
   rw[e3];simpa [Value.cells,sD,List.append_assoc]using this
theorem aB.nd2{g:Nat}{w w':World}{ao:Option Addr}{l:List Int}(h:aB g w w')(hx:Nd w ao l)(hf:0<l.length->∀a,ao=some a->a.block≠g):Nd w' ao l:=by
 intro h0;obtain⟨b,off,rfl,hlt,hc⟩:=hx h0;have hne:b≠g:=hf h0 _ rfl;exact⟨b,off,rfl,by rw[h.size];exact hlt,fun i hi=>(h.cell (p:=⟨b,off+i,none⟩) hne).trans (hc i hi)⟩
def NE(g:Nat)(cs:List Value):Prop:=∀i ao n c,(i=3\/i=4\/i=12\/i=13)->cs[i]?=some (.slice ao n c)->0<n->∀a,ao=some a->a.block≠g
theorem fm.ne{base g:Nat}{cs:List Value}(h:fm base cs)(hg:g<base):NE g cs:=fun i ao n c hi e _ a ha=>by
 have:Fr base ao:=by
  rcases hi with rfl | rfl | rfl | rfl
  .exact h.1 ao n c (.inl e)
  .exact h.1 ao n c (.inr e)
  .exact h.2 ao n c (.inl e)
  .exact h.2 ao n c (.inr e)
 have:=this a ha;omega
theorem KI.ne{w:World}{cs:List Value}{a:RA}(h:KI w cs a):NE w.heap.size cs:=by
 obtain⟨cp,cr,cf,rfl,_,h1,h2,h3⟩:=h.arg;obtain⟨ao,cap,so,sc,tO,tc,rfl,g1⟩:=h1;obtain⟨bo,dap,qo,eap,uo,uc,vO,vc,rfl,g2,a1,a2,a3,a4,a5,a6,a7,a8,a9,a10⟩:=h2
 have k:∀{o:Option Addr} {l:List Int},Nd w o l->0<l.length->∀a,o=some a->a.block≠w.heap.size:=fun hN h0 a ha=>by
  obtain⟨b,off,e,hlt,_⟩:=hN h0;rw[ha]at e;cases e;show b≠_;omega
 intro i o n c hi e hn;rcases hi with rfl | rfl | rfl | rfl
 .simp at e;obtain⟨rfl,rfl,rfl⟩:=e;exact k g1.s hn
 .simp at e;obtain⟨rfl,rfl,rfl⟩:=e;exact k g1.t hn
 .simp at e;obtain⟨rfl,rfl,rfl⟩:=e;exact k a7 hn
 .simp at e;obtain⟨rfl,rfl,rfl⟩:=e;exact k a9 hn
theorem KI.only2{w w2:World}{g:Nat}{cs gs:List Value}{a:RA}{T:TypeId}(h:KI w cs a)(nf:NE g cs)(hc:aa w g gs T)(hn:bT gs)(hO:aB g w w2)(G2:GV w2):KI w2 cs a:=by
 obtain⟨⟨cp,cr,cf,rfl,k,h1,h2,h3⟩,sm,_⟩:=h;have k9:bJ w cf a.f:=⟨h3,sm.f0,sm.f1,sm.f2⟩;obtain⟨ao,cap,so,sc,tO,tc,rfl,g1⟩:=h1
 obtain⟨bo,dap,qo,eap,uo,uc,vO,vc,rfl,g2,a1,a2,a3,a4,a5,a6,a7,a8,a9,a10⟩:=h2
 refine⟨⟨_,_,cf,rfl,k,⟨ao,cap,so,sc,tO,tc,rfl,⟨g1.n,hO.wd g1.x (g1.x.apart hc hn),g1.f,g1.c,hO.nd2 g1.s (nf 3 _ _ _ (.inl rfl) rfl),g1.sf,g1.sc,hO.nd2 g1.t (nf 4 _ _ _ (.inr (.inl rfl)) rfl),g1.tf,g1.tc⟩⟩,⟨bo,dap,qo,eap,uo,uc,vO,vc,rfl,g2,hO.wd a1 (a1.apart hc hn),a2,a3,hO.wd a4 (a4.apart hc hn),a5,a6,hO.nd2 a7 (nf 12 _ _ _ (.inr (.inr (.inl rfl))) rfl),a8,hO.nd2 a9 (nf 13 _ _ _ (.inr (.inr (.inr rfl))) rfl),a10⟩,(k9.only hc hn hO).arg⟩,sm,G2⟩
structure e_ (gx:Nat) (w:World) (v:Value) (R:Nat->RA) (css:List (List Value)):Prop where
 lo:kU w v css
 row:∀l c,css[l]?=some c->KI w c (R l)/\(∀g,v.ownBlock=some g->NE g c)/\∀g0,g0<=gx->NE g0 c
theorem e_.l22{gx:Nat}{w:World}{v:Value}{R:Nat->RA}{css:List (List Value)}(h:e_ gx w v R css):∀c∈css,c.length=22:=fun c hc=>by
 obtain⟨l,hl⟩:=List.getElem?_of_mem hc;exact(h.row l c hl).1.arg.nine.symm
theorem e_.nil(gx:Nat)(w:World)(R:Nat->RA):e_ gx w (.slice none 0 0) R []:=⟨.inl ⟨rfl,rfl⟩,fun l c e=>by simp at e⟩
theorem e_.keep{gx:Nat}{w w':World}{v:Value}{R:Nat->RA}{css:List (List Value)}(h:e_ gx w v R css)(hb:Below w.heap.size w w'):e_ gx w' v R css:=by
 refine⟨?_,fun l c e=>⟨(h.row l c e).1.keep hb,(h.row l c e).2⟩⟩;rcases h.lo with e | ⟨g,cap,e1,e2,e3⟩
 .exact .inl e
 .exact .inr ⟨g,cap,e1,e2,e3.kept hb⟩
theorem uG{gx:Nat}{w:World}{v:Value}{R:Nat->RA}{css:List (List Value)}(h:e_ gx w v R css)(n:Nat):bT (css.flatten++bQ n):=by
 refine bT.app (bT.flat fun c hc=>?_) (bT.flat fun c hc=>?_)
 .obtain⟨l,hl⟩:=List.getElem?_of_mem hc;exact(h.row l c hl).1.nou
 .rw[(List.mem_replicate.1 hc).2];exact uF
theorem mo{w:World}{g:Nat}{xs bs:List Value}{T S:TypeId}(h1:aa w g xs T)(h2:aa w g bs S):T=S:=by
 unfold aa at h1 h2;rw[h1]at h2;injection h2 with e
 injection e
theorem e_.only{gx g0:Nat}{w w2:World}{v:Value}{R:Nat->RA}{css:List (List Value)}{gs:List Value}{T:TypeId}(h:e_ gx w v R css)(hg:g0<=gx)(hc:aa w g0 gs T)(hT:T≠63)(hn:bT gs)(hO:aB g0 w w2)(G2:GV w2):e_ gx w2 v R css:=by
 refine⟨?_,fun l c e=>⟨(h.row l c e).1.only2 ((h.row l c e).2.2 g0 hg) hc hn hO G2,(h.row l c e).2⟩⟩;rcases h.lo with e | ⟨g,cap,e1,e2,e3⟩
 .exact .inl e
 .exact .inr ⟨g,cap,e1,e2,hO.cel e3 (fun q=>hT (by subst q;exact mo hc e3))⟩
theorem Tn.cel{w w2:World}{v:Value}{css:List (List Value)}(h:Tn w w2 v css){b:Nat}{bs:List Value}{T:TypeId}(hc:aa w b bs T)(hT:T≠63):aa w2 b bs T:=by
 rcases h with⟨g,cap,rfl,e1,e2⟩ | hb
 .exact e2.cel hc (fun q=>hT (by subst q;exact mo hc e1))
 .exact hc.kept hb
theorem Tn.below{w w2:World}{v:Value}{css:List (List Value)}{base:Nat}(h:Tn w w2 v css)(ho:∀g,v.ownBlock=some g->base<=g)(hb:base<=w.heap.size):Below base w w2:=by
 rcases h with⟨g,cap,rfl,e1,e2⟩ | h
 .exact e2.below (ho g rfl)
 .exact h.mono hb
theorem e_.push{gx:Nat}{w w2:World}{v v2:Value}{R:Nat->RA}{css:List (List Value)}{c:List Value}(h:e_ gx w v R css)(hk:KI w c (R css.length))(hn:(∀g,v.ownBlock=some g->NE g c)/\∀g0,g0<=gx->NE g0 c)(h2:kU w2 v2 (css++[c]))(hT:Tn w w2 v css)(hv:∀g,v2.ownBlock=some g->v.ownBlock=some g\/g=w.heap.size)(G2:GV w2):e_ gx w2 v2 R (css++[c]):=by
 have st:∀d a,KI w d a->((∀g,v.ownBlock=some g->NE g d)/\∀g0,g0<=gx->NE g0 d)->KI w2 d a/\(∀g,v2.ownBlock=some g->NE g d)/\∀g0,g0<=gx->NE g0 d:=fun d a hd hN=>by
  refine⟨?_,fun g hg=>?_,hN.2⟩
  .rcases hT with⟨g,cap,rfl,e1,e2⟩ | hb
   .exact hd.only2 (hN.1 g rfl) e1 (uG h _) e2 G2
   .exact hd.keep hb
  .rcases hv g hg with e | rfl
   .exact hN.1 g e
   .exact hd.ne
 refine⟨h2,fun l d e=>?_⟩;by_cases q:l<css.length
 .rw[List.getElem?_append_left q]at e;exact st d _ (h.row l d e).1 (h.row l d e).2
 .have q2:l=css.length:=by
   have:=(List.getElem?_eq_some_iff.1 e).1;simp at this;omega
  subst q2;rw[List.getElem?_append_right (Nat.le_refl _),Nat.sub_self]at e;simp at e;subst e;exact st c _ hk hn
theorem Ho(c0 c1 c2 c3 c4 c5 c6 c7 c8 c9 c10 c11 c12 c13 c14 c15 c16 c17 c18 c19 c20 c21:Value):Instr.fill (fun i=>some (i*22,22)) ((Array.range (1*22)).map ((Value.agg zv.toArray).cells[·%(Value.agg zv.toArray).cells.size]!)) [(0,Value.agg #[c0,c1,c2,c3,c4,c5,c6,c7,c8,c9,c10,c11,c12,c13,c14,c15,c16,c17,c18,c19,c20,c21])]=some #[c0,c1,c2,c3,c4,c5,c6,c7,c8,c9,c10,c11,c12,c13,c14,c15,c16,c17,c18,c19,c20,c21]:=by kernel_rfl
theorem Hp(cs:List Value)(h:cs.length=22):Instr.fill (fun i=>some (i*22,22)) ((Array.range (1*22)).map ((Value.agg zv.toArray).cells[·%(Value.agg zv.toArray).cells.size]!)) [(0,Value.agg cs.toArray)]=some cs.toArray:=by
 match cs,h with
 | [c0,c1,c2,c3,c4,c5,c6,c7,c8,c9,c10,c11,c12,c13,c14,c15,c16,c17,c18,c19,c20,c21],_=>exact Ho c0 c1 c2 c3 c4 c5 c6 c7 c8 c9 c10 c11 c12 c13 c14 c15 c16 c17 c18 c19 c20 c21
theorem Ja{ops:Array Oper}{rest:List Oper}{d:Option Tmp}{ty:TypeId}{ps:String}{af:Array Edge}{a:Act}{w:World}{Q:Exit->Act->World->Prop}{x:Operand}(cs:List Value)(hc:cs.length=22)(hx:a.eval x=.agg cs.toArray)
  (h:wpList prog ops Q rest (a.put d (.slice (some ⟨w.heap.size,0,none⟩) 1 1)) (w.alloc (.cells cs.toArray 63))):
  wpList prog ops Q (⟨d,.buildSlice 24 1 #[(0,x)],ty,ps,af,none⟩::rest) a w:=by
 obtain⟨i0,hi,hz0,hz1,hz2⟩:=info_parts oT;refine wpList_buildSlice rfl 24 63 1 #[(0,x)] rfl cs.toArray i0 (.agg zv.toArray) underlying24 hi hz0 (by rw[hz1];decide) (by rw[hz1];decide) ?_ h;rw[hz1]
 simp only[List.map_toArray,List.map_cons,List.map_nil,hx];exact Hp cs hc
theorem yq{ops:Array Oper}{rest:List Oper}{o:Oper}{a:Act}{w:World}{Q:Exit->Act->World->Prop}(hgd:o.guard=none)(s x:Operand)
  (ho:o.op=.call { callee:=.builtin .append,args:=#[s,x],argTypes:=#[24,24] })
  (v:Value) (css:List (List Value)) (hs:a.eval s=v) (h:kU w v css) (hL:∀c∈css,c.length=22) (cs:List Value) (hc:cs.length=22) (ad:Addr) (c0:Nat) (hx:a.eval x=.slice (some ad) 1 c0) (hn:∀j u,cs[j]?=some u->w.cell? (ad.add j)=some u) (h1:∀u∈cs,u.oneCell'=true) (h8:css.length<1000000)
  (k:∀v' w',kU w' v' (css++[cs])->Tn w w' v css->(∀g,v'.ownBlock=some g->v.ownBlock=some g\/g=w.heap.size)->wpList prog ops Q rest (a.put o.dst v') w'):wpList prog ops Q (o::rest) a w:=
 wpList_plain hgd fun K hK=>yi s x ho v css hs h hL cs hc ad c0 hx hn h1 h8 fun v' w' h1 h2 h3=>hK _ _ (k v' w' h1 h2 h3)
theorem e_.lv{gx:Nat}{w:World}{v:Value}{av:List RA}{css:List (List Value)}(h:e_ gx w v (fun j=>av.getD j ra0) css)(h8:css.length=av.length):∃lo cap,v=.slice lo av.length cap/\Lv w lo av:=by
 rcases h.lo with⟨e,rfl⟩ | ⟨g,cap,e1,e2,e3⟩
 .have h0:av.length=0:=by simpa using h8.symm
  exact⟨none,0,by rw[h0];exact e,fun q=>absurd q (by omega)⟩
 .rw[h8]at e1 e2;refine⟨_,cap,e1,fun _=>⟨g,0,rfl,e3.lt,fun l hl=>?_⟩⟩;obtain⟨c,hc⟩:∃c,css[l]?=some c:=⟨_,List.getElem?_eq_getElem (by omega)⟩
  obtain⟨p,q,f1,f2⟩:=wQ css h.l22 l c hc (bQ (cap-css.length));refine⟨c,?_,(h.row l c hc).1⟩;rw[f1]at e3;have:=aa.part p c q e3;rwa [f2,<-Nat.zero_add (l*22)]at this
theorem py{w:World}{base n c:Nat}{ao:Option Addr}{l:List Bool}(h:w.ownsRow base 4 1 (.slice ao n c) n (l.map .bool))(hn:n=l.length):Bl w ao l:=by
 intro h0;obtain⟨_,⟨e,_⟩ | ⟨g,cap,cur,e,_,hh,_,_,hs,ht⟩⟩:=h
 .injection e with e1 e2 e3
  omega
 .injection e with e1 e2 e3
  subst e1;refine⟨g,0,rfl,(Array.getElem?_eq_some_iff.1 hh).1,fun i hi=>?_⟩
  have e5:cur.toList[i]?=some (.bool (bt l i)):=by
   have:(l.map Value.bool)[i]?=some (.bool (bt l i)):=by
    unfold bt;rw[List.getElem?_map,List.getD_eq_getElem?_getD,List.getElem?_eq_getElem hi];rfl
   rw[<-ht,List.getElem?_take_of_lt (by omega)]at this;exact this
  rw[Nat.zero_add];unfold World.cell?;rw[show w.heap[({ block:=g,off:=i,spot:=none }:Addr).block]?=_ from hh];simpa using e5
section
variable {P:Program} {ops:Array Oper} {Q:Exit->Act->World->Prop} {md:Region.Mode} {S:World->Prop} {ns:List Nat}
theorem aw.threeM(i j k:Nat){o p q:Oper}{f:Nat}{l:Array Bool}{a:Act}{w:World}(hr:Region.ready md ops l=[i,j,k])(ho:ops[i]?=some o)(hp:ops[j]?=some p)(hq:ops[k]?=some q)
  (h:∀K:Act->World->Prop,Shut (∀a' w',(i ∉ ns->S w')->aw P md ops Q S ns f (l.setIfInBounds i true) a' w'->K a' w')->if Region.wanted o (yielded ops a.tmps)=true then Oper.wp P o a w K Q else K (a.put o.dst undef) w)
  (h2:∀K:Act->World->Prop,Shut (∀a' w',(j ∉ ns->S w')->aw P md ops Q S ns f (l.setIfInBounds j true) a' w'->K a' w')->if Region.wanted p (yielded ops a.tmps)=true then Oper.wp P p a w K Q else K (a.put p.dst undef) w)
  (h3:∀K:Act->World->Prop,Shut (∀a' w',(k ∉ ns->S w')->aw P md ops Q S ns f (l.setIfInBounds k true) a' w'->K a' w')->if Region.wanted q (yielded ops a.tmps)=true then Oper.wp P q a w K Q else K (a.put q.dst undef) w):
  aw P md ops Q S ns (f+1) l a w:=by
 refine⟨fun h0=>absurd (hr.symm.trans h0) (by simp),fun x hx=>?_⟩;rw[hr]at hx;rcases List.mem_cons.1 hx with rfl | hx
 .exact wpOp_step ho (fun K hK=>h K (fun a' w' hS hW=>hK a' w' ⟨fun n _=>hS n,hW⟩))
 .rcases List.mem_cons.1 hx with rfl | hx
  .exact wpOp_step hp (fun K hK=>h2 K (fun a' w' hS hW=>hK a' w' ⟨fun n _=>hS n,hW⟩))
  .obtain rfl:=List.mem_singleton.1 hx;exact wpOp_step hq (fun K hK=>h3 K (fun a' w' hS hW=>hK a' w' ⟨fun n _=>hS n,hW⟩))
end
theorem iw{ops:Array Oper}{d:Option Tmp}{ty T:TypeId}{ps:String}{af:Array Edge}{a:Act}{w:World}{K:Act->World->Prop}{Q:Exit->Act->World->Prop}{E:Prop}{x y:Operand}
  (g:Nat) (old cs:List Value) (hx:a.eval x=.pointer (some ⟨g,0,none⟩)) (hy:a.eval y=.agg cs.toArray) (hc:aa w g old T) (lo:old.length=cs.length) (hi:(prog.info? T).map (·.size)=some cs.length) (h1:cs.toArray.all (·.oneCell')=true)
  (h:∀w1,aa w1 g cs T->aB g w w1->K (a.put d undef) w1):
  if Region.wanted (⟨d,.store T x y,ty,ps,af,none⟩:Oper) (yielded ops a.tmps)=true then Oper.wp prog (⟨d,.store T x y,ty,ps,af,none⟩:Oper) a w K Q else E:=by
 rw[if_pos (by simp[Region.wanted])];exact wp_store_row _ x y rfl g cs.toArray hx hy _ _ hc (by simpa using hi) (by simpa using lo) h1 (h _ (setRow_heap w g _ _ _ _ hc) (aB.row g w _))
end Go.Proofs.YtleegaihbgbcjabGreatDoor
