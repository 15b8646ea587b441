import Derived.Test.YtleegaihbgbcjabGreatDoorM22
import Derived.Laws.AppendOwn
import Derived.Great.BuildSlice
set_option linter.unusedVariables false
set_option linter.unusedSimpArgs false
set_option maxRecDepth 100000
set_option maxHeartbeats 16000000
namespace Go.Proofs.YtleegaihbgbcjabGreatDoor
open Go.RowKit Num Bit
theorem owns_shape_m{w:World}{base e size n:Nat}{v:Value}{vs:List Value}(h:w.ownsRow base e size v n vs):∃ao cap,v=.slice ao n cap:=by
 obtain⟨h1,⟨rfl,rfl⟩ | ⟨g,cap,cur,rfl,e2,hh,r,_⟩⟩:=h
 ·exact⟨none,0,rfl⟩
 ·exact⟨some ⟨g,0,none⟩,cap,rfl⟩
theorem mwp_append_g{o:Oper}{a:Act}{w:World}{K:Act→World→Prop}{Q:Exit→Act→World→Prop}(s x:Operand)(t:TypeId)
  (ho:o.op=.call { callee:=.builtin .append,args:=#[s,x],argTypes:=#[t,t] })
  (base:Nat) (e:TypeId) (i:TypeInfo) (z:Value) (size bytes:Nat) (ht:Tryz.prog.underlying t=some (.slice e)) (hi:Tryz.prog.info? e=some i) (hz:i.zero=some z)
  (hsize:i.size=size) (hby:i.bytes=bytes) (hzs:z.cells.size=size) (hsz:0<size)
  (v:Value) (n:Nat) (vs:List Value) (hs:a.eval s=v) (hown:w.ownsRow base e size v n vs)
  (xa:Option Addr) (m c:Nat) (news:List Value) (hx:a.eval x=.slice xa m c) (hl:news.length=m*size) (hsrc:0<m→∃ad,xa=some ad∧∀j u,news[j]?=some u→w.cell? (ad.add j)=some u) (h1:∀u∈news,u.oneCell'=true)
  (h63:n+m≤maxLen) (hbytes:(n+m)*bytes≤140737488355328) (hbase:base≤w.heap.size)
  (h:∀ao cap w',w'.ownsRow base e size (.slice ao (n+m) cap) (n+m) (vs++news)→Below base w w'→(∀k,k<w.heap.size→v.ownBlock≠some k→w'.heap[k]?=w.heap[k]?)→w.heap.size≤w'.heap.size→K (a.put o.dst (.slice ao (n+m) cap)) w'):
  Oper.wp Tryz.prog o a w K Q:=by
 by_cases hm:m=0
 ·subst hm;have hn:news=[]:=List.eq_nil_of_length_eq_zero (by omega);subst hn;have hr:=Ap.run_append_zero w base t o.type e i size ht hi v n vs hown xa c;obtain⟨ao,cap,rfl⟩:=owns_shape_m hown;unfold Oper.wp execOp
  simp only[ho,resolve,invoke,builtin,Sem.run_bind,Sem.run_pure,Result.andThen_ok,List.map_toArray,List.map_cons,List.map_nil,hs,hx,hr]
  refine h ao cap w (by simpa using hown) (Below.refl _ _) (fun _ _ _=>rfl) (Nat.le_refl _)
 ·obtain⟨ad,rfl,hn⟩:=hsrc (by omega);refine wp_append_lies w s x t ho base e i z size bytes ht hi hz hsize hby hzs hsz v n vs hs hown ad m c news hx hl hn h1 (by omega) h63 hbytes hbase w.heap.size rfl ?_
  intro g cap w' o1 o2 o3 o4;refine h (some ⟨g,0,none⟩) cap w' o1 ?_ ?_ o2.size
  ·exact(Below.refl _ _).grown o2 hbase (fun k hk=>(hown.lt k hk).1)
  ·intro k hk hne;exact o2.block k hk (fun q=>hne q.symm)
theorem mwpList_append_g{ops:Array Oper}{rest:List Oper}{o:Oper}{a:Act}{w:World}{Q:Exit→Act→World→Prop}(hgd:o.guard=none)(s x:Operand)(t:TypeId)
  (ho:o.op=.call { callee:=.builtin .append,args:=#[s,x],argTypes:=#[t,t] })
  (base:Nat) (e:TypeId) (i:TypeInfo) (z:Value) (size bytes:Nat) (ht:Tryz.prog.underlying t=some (.slice e)) (hi:Tryz.prog.info? e=some i) (hz:i.zero=some z)
  (hsize:i.size=size) (hby:i.bytes=bytes) (hzs:z.cells.size=size) (hsz:0<size)
  (v:Value) (n:Nat) (vs:List Value) (hs:a.eval s=v) (hown:w.ownsRow base e size v n vs)
  (xa:Option Addr) (m c:Nat) (news:List Value) (hx:a.eval x=.slice xa m c) (hl:news.length=m*size) (hsrc:0<m→∃ad,xa=some ad∧∀j u,news[j]?=some u→w.cell? (ad.add j)=some u) (h1:∀u∈news,u.oneCell'=true)
  (h63:n+m≤maxLen) (hbytes:(n+m)*bytes≤140737488355328) (hbase:base≤w.heap.size)
  (h:∀ao cap w',w'.ownsRow base e size (.slice ao (n+m) cap) (n+m) (vs++news)→Below base w w'→(∀k,k<w.heap.size→v.ownBlock≠some k→w'.heap[k]?=w.heap[k]?)→w.heap.size≤w'.heap.size→wpList Tryz.prog ops Q rest (a.put o.dst (.slice ao (n+m) cap)) w'):
  wpList Tryz.prog ops Q (o::rest) a w:=
 wpList_plain hgd fun K hK=>mwp_append_g s x t ho base e i z size bytes ht hi hz hsize hby hzs hsz v n vs hs hown xa m c news hx hl hsrc h1 h63 hbytes hbase fun ao cap w' a1 a2 a3 a4=>hK _ _ (h ao cap w' a1 a2 a3 a4)
def vK(k:IntKind)(l:List Nat):List Value:=l.map fun n:Nat=>Value.int k (n:Int)
theorem vK_push(k:IntKind)(l:List Nat)(p:Nat):vK k (l++[p])=vK k l++[.int k (p:Int)]:=by simp[vK]
theorem vK_app(k:IntKind)(a b:List Nat):vK k (a++b)=vK k a++vK k b:=by simp[vK]
theorem length_vK(k:IntKind)(l:List Nat):(vK k l).length=l.length:=by simp[vK]
def fl(f:Nat→Bool)(b:Bool)(l:List Nat)(q:Nat):List Nat:=(l.take q).filter fun x=>f x==b
theorem fl_le(f:Nat→Bool)(b:Bool)(l:List Nat)(q:Nat):(fl f b l q).length≤q:=by
 unfold fl;exact Nat.le_trans (List.length_filter_le _ _) (by rw[List.length_take];omega)
theorem fl_hit{f:Nat→Bool}{b:Bool}{l:List Nat}{q:Nat}(h:q<l.length)(hb:f (gt l q)=b):fl f b l (q+1)=fl f b l q++[gt l q]:=by
 have e:l[q]?=some (gt l q):=by unfold gt;rw[List.getD_eq_getElem?_getD,List.getElem?_eq_getElem h];rfl
 unfold fl;rw[List.take_add_one,e,List.filter_append];simp[hb]
theorem fl_miss{f:Nat→Bool}{b:Bool}{l:List Nat}{q:Nat}(h:q<l.length)(hb:f (gt l q)≠b):fl f b l (q+1)=fl f b l q:=by
 have e:l[q]?=some (gt l q):=by unfold gt;rw[List.getD_eq_getElem?_getD,List.getElem?_eq_getElem h];rfl
 unfold fl;rw[List.take_add_one,e,List.filter_append];simp[hb]
structure PE (T:TypeId) (k:IntKind) (w:World) (base:Nat) (f:Nat→Bool) (l:List Nat) (q:Nat) (vo vn:Value):Prop where
 o1:w.ownsRow base T 1 vo (fl f false l q).length (vK k (fl f false l q))
 o2:w.ownsRow base T 1 vn (fl f true l q).length (vK k (fl f true l q))
 ne:∀j,vo.ownBlock=some j→vn.ownBlock≠some j
theorem PE.keep{T:TypeId}{k:IntKind}{w w':World}{base:Nat}{f:Nat→Bool}{l:List Nat}{q:Nat}{vo vn:Value}(h:PE T k w base f l q vo vn)(hb:Below w.heap.size w w'):PE T k w' base f l q vo vn:=⟨Ag.owns_keep h.o1 hb,Ag.owns_keep h.o2 hb,h.ne⟩
theorem PE.offf{T:TypeId}{kk:IntKind}{w w1 w':World}{base g cap p:Nat}{f:Nat→Bool}{l:List Nat}{q:Nat}{vo vn:Value}(h:PE T kk w base f l q vo vn)(hq:q<l.length)(hA:Below w.heap.size w w1)
  (own:w'.ownsRow base T 1 (.slice (some ⟨g,0,none⟩) ((fl f false l q).length+1) cap) ((fl f false l q).length+1) (vK kk (fl f false l q)++[.int kk (p:Int)]))
  (hblk:∀k,k<w1.heap.size→vo.ownBlock≠some k→w'.heap[k]?=w1.heap[k]?) (hloc:vo.ownBlock=some g∨g=w1.heap.size) (hp:p=gt l q) (hB:f p=false):PE T kk w' base f l (q+1) (.slice (some ⟨g,0,none⟩) ((fl f false l q).length+1) cap) vn:=by
 subst hp;have e1:=fl_hit (b:=false) hq hB;have e2:=fl_miss (f:=f) (b:=true) hq (by rw[hB];decide);refine⟨?_,?_,fun k hk hk2=>?_⟩
 ·rw[e1,vK_push,List.length_append];exact own
 ·rw[e2];refine Ag.owns_of h.o2 fun k hk=>?_;have lk:=(h.o2.lt k hk).2;exact(hblk k (Nat.lt_of_lt_of_le lk hA.size) (fun g'=>h.ne k g' hk)).trans (hA.block k lk)
 ·simp only[Value.ownBlock,Option.some.injEq]at hk;subst hk;rcases hloc with e | e
  ·exact h.ne _ e hk2
  ·have:=(h.o2.lt _ hk2).2;have:=hA.size;omega
theorem PE.onn{T:TypeId}{kk:IntKind}{w w1 w':World}{base g cap p:Nat}{f:Nat→Bool}{l:List Nat}{q:Nat}{vo vn:Value}(h:PE T kk w base f l q vo vn)(hq:q<l.length)(hA:Below w.heap.size w w1)
  (own:w'.ownsRow base T 1 (.slice (some ⟨g,0,none⟩) ((fl f true l q).length+1) cap) ((fl f true l q).length+1) (vK kk (fl f true l q)++[.int kk (p:Int)]))
  (hblk:∀k,k<w1.heap.size→vn.ownBlock≠some k→w'.heap[k]?=w1.heap[k]?) (hloc:vn.ownBlock=some g∨g=w1.heap.size) (hp:p=gt l q) (hB:f p=true):PE T kk w' base f l (q+1) vo (.slice (some ⟨g,0,none⟩) ((fl f true l q).length+1) cap):=by
 subst hp;have e1:=fl_hit (b:=true) hq hB;have e2:=fl_miss (f:=f) (b:=false) hq (by rw[hB];decide);refine⟨?_,?_,fun k hk hk2=>?_⟩
 ·rw[e2];refine Ag.owns_of h.o1 fun k hk=>?_;have lk:=(h.o1.lt k hk).2;exact(hblk k (Nat.lt_of_lt_of_le lk hA.size) (fun g'=>h.ne k hk g')).trans (hA.block k lk)
 ·rw[e1,vK_push,List.length_append];exact own
 ·simp only[Value.ownBlock,Option.some.injEq]at hk2;subst hk2;rcases hloc with e | e
  ·exact h.ne _ hk e
  ·have:=(h.o1.lt _ hk).2;have:=hA.size;omega
theorem own_srcm{w:World}{base n:Nat}{T:TypeId}{v:Value}{vs:List Value}(h:w.ownsRow base T 1 v n vs)(hn:n=vs.length):∃xa c,v=.slice xa n c∧(0<n→∃ad,xa=some ad∧∀j u,vs[j]?=some u→w.cell? (ad.add j)=some u):=by
 have h':=h;obtain⟨_,⟨e,h0⟩ | ⟨g,cap,cur,e,_⟩⟩:=h
 ·have e0:n=0:=h0;exact⟨none,0,by rw[e,e0],fun h=>absurd h (by omega)⟩
 ·subst e;refine⟨_,cap,rfl,fun _=>⟨_,rfl,fun j u hu=>?_⟩⟩;have:=(Ag.owns_cells h').2 j u hu;rw[←this];unfold Addr.add;split
  ·subst_vars;rfl
  ·simp
theorem own_fr_m{w:World}{base n c:Nat}{T:TypeId}{ao:Option Addr}{vs:List Value}(h:w.ownsRow base T 1 (.slice ao n c) n vs):∀a,ao=some a→base≤a.block:=fun a ha=>by
 subst ha;exact(h.lt a.block rfl).1
theorem info_u8m:(Tryz.prog.info? 5).map (fun i=>(i.zero,i.size,i.bytes))=some (some (.int .u8 0),1,1):=by kernel_rfl
theorem mpart_b(lo:Option Addr)(l:List Nat)(lc g0:Nat)(f:Nat→Bool)(w:World)(hl:Bd w lo l)(hn:l.length≤1048576)
  (HC:Hid (∀x w0,x∈l→Below w.heap.size w w0→Calls Tryz.prog 24 #[.int .u8 (x:Nat),.pointer (some ⟨g0,0,none⟩)] w0 fun e w'=>e=.returned (.bool (f x))∧Below w0.heap.size w0 w')):
  Calls Tryz.prog 28 #[.slice lo l.length lc,.func (.func 24) #[] #[.pointer (some ⟨g0,0,none⟩)]] w fun e w'=>∃ao n cap,e=.returned (.tuple #[.slice ao n cap,.int .i64 ((fl f false l l.length).length:Nat)])∧n=(Mx.pt f l).length∧w'.ownsRow w.heap.size 5 1 (.slice ao n cap) n (vK .u8 (Mx.pt f l))∧Below w.heap.size w w':=by
 obtain⟨i0,hi,hz0,hz1,hz2⟩:=info_parts info_u8m;have HN:=hide hl;clear hl;go_enter Tryz.func28,Tryz.ntmps28;go_wp2
 go_loopw [6,7,12] (fun vo vn vi wr=>∃q:Nat,q≤l.length∧vi=.int .i64 q∧Hid (PE 5 .u8 wr w.heap.size f l q vo vn)∧Hid (Below w.heap.size w wr)) (fun _ _ vi _=>l.length-(intOf vi).toNat)
 case atStart=>exact⟨0,Nat.zero_le _,rfl,hide ⟨World.ownsRow_nil _ _ _ _,World.ownsRow_nil _ _ _ _,fun k h=>by cases h⟩,hide (Below.refl _ _)⟩
 case round=>
  obtain⟨q,hq,rfl,HP,HB⟩:=hrel;by_cases hlt:q<l.length
  ·have hltz:(q:Int)<(l.length:Int):=by omega
   obtain⟨b,off,rfl,hlb,hc⟩:=(HN.out.keep HB.out) (by omega);have a0:=hc q hlt;have hmem:gt l q∈l:=by unfold gt;rw[List.getD_eq_getElem?_getD,List.getElem?_eq_getElem hlt];exact List.getElem_mem hlt
   obtain⟨p,hp⟩:∃p,Hid (p=gt l q):=⟨_,rfl⟩;rw[←hp.out]at a0 hmem;have H:=hide (HC.out p wr hmem HB.out);have zb:=HB.out.size;clear hc;go_wp2_with fail;refine H.out.mono ?_;rintro e w5 ⟨rfl,hb⟩
   have HP5:=hide (HP.out.keep hb);have HB5:=hide (HB.out.trans (hb.mono HB.out.size));have z5:=hb.size;obtain⟨BB,hBB⟩:∃BB,Hid (f p=BB):=⟨_,rfl⟩;rw[hBB.out];clear hb HP HB H a0
   rcases(show BB=true∨BB=false by cases BB;exact .inr rfl;exact .inl rfl)with rfl | rfl
   ·have HO:=hide HP5.out.o2
    go_wp2_with (at_builtin;refine Ag.wpList_append (by rfl) _ _ _ (by rfl) w.heap.size 5 i0 (.int .u8 0) 1 1 Tryz.underlying22 hi hz0 hz1 hz2 rfl (by decide) u7 (fl f true l q).length (vK .u8 (fl f true l q)) (by rfl) (HO.out.alloc _) ⟨w5.heap.size,0,none⟩ 1 1 [.int .u8 (p:Nat)] (by rfl) rfl (by decide) ?c1 ?c2 ?c3 ?c4 ?c5 ?_)
    case c1=>
     intro j u hj;have:=(Cel.new w5 [.int .u8 (p:Nat)] 5).cell j hj;match j,hj with
     | 0,_=>exact this
    case c2=>intro u hu;simp at hu;subst hu;rfl
    case c3=>have:=fl_le f true l q;unfold maxLen;omega
    case c4=>have:=fl_le f true l q;omega
    case c5=>simp;omega
    intro g8 cap8 w8 own8 hb8 hloc8 hlt8 hblk8 hs8;have hA:=below_alloc w5 (.cells #[.int .u8 (p:Nat)] 5);have HB8:Hid (Below w.heap.size w w8):=(HB5.out.trans (hA.mono HB5.out.size)).trans (hb8.mono (by omega))
    have HP8:=hide (HP5.out.onn (g:=g8) (cap:=cap8) hlt hA own8 (fun k hk hn=>hblk8 k (by simpa using hk) hn) (by simpa using hloc8) hp.out hBB.out);clear own8 hb8 hloc8 hlt8 hblk8 hs8 hA HB5 HP5 HO hBB
    try simp only[Act.put,yq3,List.set]
    go_wp2;exact⟨⟨q+1,by omega,by go_num,HP8,HB8⟩,by simp only[intOf];omega⟩
   ·have HO:=hide HP5.out.o1
    go_wp2_with (at_builtin;refine Ag.wpList_append (by rfl) _ _ _ (by rfl) w.heap.size 5 i0 (.int .u8 0) 1 1 Tryz.underlying22 hi hz0 hz1 hz2 rfl (by decide) u6 (fl f false l q).length (vK .u8 (fl f false l q)) (by rfl) (HO.out.alloc _) ⟨w5.heap.size,0,none⟩ 1 1 [.int .u8 (p:Nat)] (by rfl) rfl (by decide) ?c1 ?c2 ?c3 ?c4 ?c5 ?_)
    case c1=>
     intro j u hj;have:=(Cel.new w5 [.int .u8 (p:Nat)] 5).cell j hj;match j,hj with
     | 0,_=>exact this
    case c2=>intro u hu;simp at hu;subst hu;rfl
    case c3=>have:=fl_le f false l q;unfold maxLen;omega
    case c4=>have:=fl_le f false l q;omega
    case c5=>simp;omega
    intro g8 cap8 w8 own8 hb8 hloc8 hlt8 hblk8 hs8;have hA:=below_alloc w5 (.cells #[.int .u8 (p:Nat)] 5);have HB8:Hid (Below w.heap.size w w8):=(HB5.out.trans (hA.mono HB5.out.size)).trans (hb8.mono (by omega))
    have HP8:=hide (HP5.out.offf (g:=g8) (cap:=cap8) hlt hA own8 (fun k hk hn=>hblk8 k (by simpa using hk) hn) (by simpa using hloc8) hp.out hBB.out);clear own8 hb8 hloc8 hlt8 hblk8 hs8 hA HB5 HP5 HO hBB
    try simp only[Act.put,yq3,List.set]
    go_wp2;exact⟨⟨q+1,by omega,by go_num,HP8,HB8⟩,by simp only[intOf];omega⟩
  ·obtain rfl:q=l.length:=by omega
   have HO1:=hide HP.out.o1;have l1:=fl_le f false l l.length;have l2:=fl_le f true l l.length;obtain⟨xa,c,rfl,hsrc⟩:=own_srcm HP.out.o2 (length_vK _ _).symm
   obtain⟨ya,yc,rfl,_⟩:=own_srcm HP.out.o1 (length_vK _ _).symm;have HS:=hide hsrc;have zb:=HB.out.size;clear hsrc HP
   go_wp2_with (at_builtin;refine mwpList_append_g (by rfl) _ _ _ (by rfl) w.heap.size 5 i0 (.int .u8 0) 1 1 Tryz.underlying22 hi hz0 hz1 hz2 rfl (by decide) _ (fl f false l l.length).length (vK .u8 (fl f false l l.length)) (by rfl) HO1.out xa (fl f true l l.length).length c (vK .u8 (fl f true l l.length)) (by rfl) (by rw[length_vK,Nat.mul_one]) HS.out ?c2 ?c3 ?c4 ?c5 ?_)
   case c2=>intro u hu;unfold vK at hu;obtain⟨_,_,rfl⟩:=List.mem_map.1 hu;rfl
   case c3=>unfold maxLen;omega
   case c4=>omega
   case c5=>omega
   intro ao cap w8 own8 hb8 _ _;try simp only[Act.put,yq3,List.set]
   have eP:Mx.pt f l=fl f false l l.length++fl f true l l.length:=by unfold Mx.pt fl;rw[List.take_length]
   have HF:Hid ((fl f false l l.length).length+(fl f true l l.length).length=(Mx.pt f l).length∧w8.ownsRow w.heap.size 5 1 (.slice ao ((fl f false l l.length).length+(fl f true l l.length).length) cap) ((fl f false l l.length).length+(fl f true l l.length).length) (vK .u8 (Mx.pt f l))∧Below w.heap.size w w8):=by
    refine⟨by rw[eP,List.length_append],?_,HB.out.trans (hb8.mono (Nat.le_refl _))⟩;rw[eP,vK_app];exact own8
   clear own8 hb8 HO1 HS HB eP;go_wp2;go_ret2;exact⟨ao,_,cap,rfl,HF.out⟩
theorem KI.nou{w:World}{cs:List Value}{a:RA}(h:KI w cs a):Nou cs:=by
 obtain⟨cp,cr,cf,rfl,_,h1,h2,h3⟩:=h.arg;exact nou_mk h1.nou h2.nou h3.nou
def z22(n:Nat):List Value:=(List.replicate n zv).flatten
theorem nou_zv:Nou zv:=by
 intro v hv n e;subst e;simp[zv]at hv
theorem Nou.flat{css:List (List Value)}(h:∀c∈css,Nou c):Nou css.flatten:=fun v hv n=>by
 obtain⟨c,hc,hv⟩:=List.mem_flatten.1 hv;exact h c hc v hv n
theorem len_flat(css:List (List Value))(h:∀c∈css,c.length=22):css.flatten.length=css.length*22:=by
 induction css with
 | nil=>rfl
 | cons a l ih=>
  rw[List.flatten_cons,List.length_append,ih (fun c hc=>h c (List.mem_cons_of_mem _ hc)),h a List.mem_cons_self,List.length_cons];omega
theorem flat_get(css:List (List Value))(h:∀c∈css,c.length=22)(l:Nat)(c:List Value)(hl:css[l]?=some c)(post:List Value):∃p q,css.flatten++post=p++(c++q)∧p.length=l*22:=by
 induction css generalizing l with
 | nil=>simp at hl
 | cons a L ih=>
  cases l with
  | zero=>
   simp at hl;subst hl;exact⟨[],L.flatten++post,by simp,rfl⟩
  | succ l=>
   obtain⟨p,q,e1,e2⟩:=ih (fun c hc=>h c (List.mem_cons_of_mem _ hc)) l (by simpa using hl);refine⟨a++p,q,?_,?_⟩
   ·rw[List.flatten_cons,List.append_assoc,e1,List.append_assoc]
   ·rw[List.length_append,h a List.mem_cons_self,e2];omega
theorem info_vec:(Tryz.prog.info? 63).map (fun i=>(i.zero,i.size,i.bytes))=some (some (.agg zv.toArray),22,320):=by kernel_rfl
def LOv(w:World)(v:Value)(css:List (List Value)):Prop:=
 (v=.slice none 0 0∧css=[])∨∃g cap,v=.slice (some ⟨g,0,none⟩) css.length cap∧css.length≤cap∧Cel w g (css.flatten++z22 (cap-css.length)) 63
def Tn(w w':World)(v:Value)(css:List (List Value)):Prop:=
 (∃g cap,v=.slice (some ⟨g,0,none⟩) css.length cap∧Cel w g (css.flatten++z22 (cap-css.length)) 63∧Only g w w')∨Below w.heap.size w w'
theorem Only.nd2{g:Nat}{w w':World}{ao:Option Addr}{l:List Int}(h:Only g w w')(hx:Nd w ao l)(hf:0<l.length→∀a,ao=some a→a.block≠g):Nd w' ao l:=by
 intro h0;obtain⟨b,off,rfl,hlt,hc⟩:=hx h0;have hne:b≠g:=hf h0 _ rfl;exact⟨b,off,rfl,by rw[h.size];exact hlt,fun i hi=>(h.cell (p:=⟨b,off+i,none⟩) hne).trans (hc i hi)⟩
def NE(g:Nat)(cs:List Value):Prop:=∀i ao n c,(i=3∨i=4∨i=12∨i=13)→cs[i]?=some (.slice ao n c)→0<n→∀a,ao=some a→a.block≠g
theorem NFV.ne{base g:Nat}{cs:List Value}(h:NFV base cs)(hg:g<base):NE g cs:=fun i ao n c hi e _ a ha=>by
 have:Fr base ao:=by
  rcases hi with rfl | rfl | rfl | rfl
  ·exact h.1 ao n c (.inl e)
  ·exact h.1 ao n c (.inr e)
  ·exact h.2 ao n c (.inl e)
  ·exact h.2 ao n c (.inr e)
 have:=this a ha;omega
theorem KI.only2{w w2:World}{g:Nat}{cs gs:List Value}{a:RA}{T:TypeId}(h:KI w cs a)(nf:NE g cs)(hc:Cel w g gs T)(hn:Nou gs)(hO:Only g w w2)(G2:GV w2):KI w2 cs a:=by
 obtain⟨⟨cp,cr,cf,rfl,k,h1,h2,h3⟩,sm,_⟩:=h;have k9:KI9 w cf a.f:=⟨h3,sm.f0,sm.f1,sm.f2⟩;obtain⟨ao,cap,so,sc,tO,tc,rfl,g1⟩:=h1
 obtain⟨bo,dap,qo,eap,uo,uc,vO,vc,rfl,g2,a1,a2,a3,a4,a5,a6,a7,a8,a9,a10⟩:=h2
 refine⟨⟨_,_,cf,rfl,k,⟨ao,cap,so,sc,tO,tc,rfl,⟨g1.n,hO.wd g1.x (g1.x.apart hc hn),g1.f,g1.c,hO.nd2 g1.s (nf 3 _ _ _ (.inl rfl) rfl),g1.sf,g1.sc,hO.nd2 g1.t (nf 4 _ _ _ (.inr (.inl rfl)) rfl),g1.tf,g1.tc⟩⟩,⟨bo,dap,qo,eap,uo,uc,vO,vc,rfl,g2,hO.wd a1 (a1.apart hc hn),a2,a3,hO.wd a4 (a4.apart hc hn),a5,a6,hO.nd2 a7 (nf 12 _ _ _ (.inr (.inr (.inl rfl))) rfl),a8,hO.nd2 a9 (nf 13 _ _ _ (.inr (.inr (.inr rfl))) rfl),a10⟩,(k9.only hc hn hO).arg⟩,sm,G2⟩
structure RwO (gx:Nat) (w:World) (v:Value) (R:Nat→RA) (css:List (List Value)):Prop where
 lo:LOv w v css
 row:∀l c,css[l]?=some c→KI w c (R l)∧(∀g,v.ownBlock=some g→NE g c)∧∀g0,g0≤gx→NE g0 c
section
variable {P:Program} {ops:Array Oper} {Q:Exit→Act→World→Prop} {md:Region.Mode} {S:World→Prop} {ns:List Nat}
theorem AnyG.threeM(i j k:Nat){o p q:Oper}{f:Nat}{l:Array Bool}{a:Act}{w:World}(hr:Region.ready md ops l=[i,j,k])(ho:ops[i]?=some o)(hp:ops[j]?=some p)(hq:ops[k]?=some q)
  (h:∀K:Act→World→Prop,Shut (∀a' w',(i ∉ ns→S w')→AnyG P md ops Q S ns f (l.setIfInBounds i true) a' w'→K a' w')→if Region.wanted o (yielded ops a.tmps)=true then Oper.wp P o a w K Q else K (a.put o.dst undef) w)
  (h2:∀K:Act→World→Prop,Shut (∀a' w',(j ∉ ns→S w')→AnyG P md ops Q S ns f (l.setIfInBounds j true) a' w'→K a' w')→if Region.wanted p (yielded ops a.tmps)=true then Oper.wp P p a w K Q else K (a.put p.dst undef) w)
  (h3:∀K:Act→World→Prop,Shut (∀a' w',(k ∉ ns→S w')→AnyG P md ops Q S ns f (l.setIfInBounds k true) a' w'→K a' w')→if Region.wanted q (yielded ops a.tmps)=true then Oper.wp P q a w K Q else K (a.put q.dst undef) w):
  AnyG P md ops Q S ns (f+1) l a w:=by
 refine⟨fun h0=>absurd (hr.symm.trans h0) (by simp),fun x hx=>?_⟩;rw[hr]at hx;rcases List.mem_cons.1 hx with rfl | hx
 ·exact wpOp_step ho (fun K hK=>h K (fun a' w' hS hW=>hK a' w' ⟨fun n _=>hS n,hW⟩))
 ·rcases List.mem_cons.1 hx with rfl | hx
  ·exact wpOp_step hp (fun K hK=>h2 K (fun a' w' hS hW=>hK a' w' ⟨fun n _=>hS n,hW⟩))
  ·obtain rfl:=List.mem_singleton.1 hx;exact wpOp_step hq (fun K hK=>h3 K (fun a' w' hS hW=>hK a' w' ⟨fun n _=>hS n,hW⟩))
end
theorem mstep_store{ops:Array Oper}{d:Option Tmp}{ty T:TypeId}{ps:String}{af:Array Edge}{a:Act}{w:World}{K:Act→World→Prop}{Q:Exit→Act→World→Prop}{E:Prop}{x y:Operand}
  (g:Nat) (old cs:List Value) (hx:a.eval x=.pointer (some ⟨g,0,none⟩)) (hy:a.eval y=.agg cs.toArray) (hc:Cel w g old T) (lo:old.length=cs.length) (hi:(Tryz.prog.info? T).map (·.size)=some cs.length) (h1:cs.toArray.all (·.oneCell')=true)
  (h:∀w1,Cel w1 g cs T→Only g w w1→K (a.put d undef) w1):
  if Region.wanted (⟨d,.store T x y,ty,ps,af,none⟩:Oper) (yielded ops a.tmps)=true then Oper.wp Tryz.prog (⟨d,.store T x y,ty,ps,af,none⟩:Oper) a w K Q else E:=by
 rw[if_pos (by simp[Region.wanted])];exact wp_store_row _ x y rfl g cs.toArray hx hy _ _ hc (by simpa using hi) (by simpa using lo) h1 (h _ (setRow_heap w g _ _ _ _ hc) (Only.row g w _))
end Go.Proofs.YtleegaihbgbcjabGreatDoor
