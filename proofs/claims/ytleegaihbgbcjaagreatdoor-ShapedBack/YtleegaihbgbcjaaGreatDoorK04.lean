import Derived.Test.YtleegaihbgbcjaaGreatDoorK00
import Derived.BigQuiet
import Derived.Deep.DrawnRows
import Derived.Laws.CopyOwn
import Derived.Deep.WholeRow
set_option linter.unusedVariables false
set_option linter.unusedSimpArgs false
set_option maxRecDepth 100000
set_option maxHeartbeats 16000000
open Go.Proofs.Tryz
namespace Go.Proofs.YtleegaihbgbcjaaGreatDoor.Ji
open Hm Hn Ho Hp Hu
def tgo(n:Nat)(f:Nat->T4)(S:Nat->List Nat)(k:Nat):Tg:=⟨if k<n then (f k).sy else 256+(k-n),(f k).ct,S k⟩
def lef(n:Nat)(f:Nat->T4)(S:Nat->List Nat)(s m e:Nat):List Tg:=(List.range' s (n-s)).map (tgo n f S)++(List.range' m (e-m)).map (tgo n f S)
theorem iH{n:Nat}{f:Nat->T4}{S:Nat->List Nat}{s m e:Nat}{x:Tg}:x∈lef n f S s m e↔∃k,((s<=k/\k<n)\/(m<=k/\k<e))/\x=tgo n f S k:=by
 unfold lef;rw[List.mem_append,List.mem_map,List.mem_map];constructor
 .rintro(⟨k,hk,rfl⟩ | ⟨k,hk,rfl⟩)
  .have:=List.mem_range'_1.1 hk;exact⟨k,.inl (by omega),rfl⟩
  .have:=List.mem_range'_1.1 hk;exact⟨k,.inr (by omega),rfl⟩
 .rintro⟨k,h | h,rfl⟩
  .exact .inl ⟨k,List.mem_range'_1.2 (by omega),rfl⟩
  .exact .inr ⟨k,List.mem_range'_1.2 (by omega),rfl⟩
theorem nU(n:Nat)(f:Nat->T4)(S:Nat->List Nat)(s m e:Nat):(lef n f S s m e).length=(n-s)+(e-m):=by
 unfold lef;simp
theorem Ed{n:Nat}{f:Nat->T4}{S:Nat->List Nat}{s m e:Nat}(h:s<n):lef n f S s m e=tgo n f S s::lef n f S (s+1) m e:=by
 unfold lef;rw[show n-s=(n-(s+1))+1 by omega,List.range'_succ];rfl
theorem Ef{n:Nat}{f:Nat->T4}{S:Nat->List Nat}{s m e:Nat}(h:m<e):(lef n f S s m e).Perm (tgo n f S m::lef n f S s (m+1) e):=by
 unfold lef;rw[show e-m=(e-(m+1))+1 by omega,List.range'_succ,List.map_cons];exact List.perm_middle
theorem Ee{n:Nat}{f:Nat->T4}{S:Nat->List Nat}{s m e:Nat}(h:m<=e):lef n f S s m (e+1)=lef n f S s m e++[tgo n f S e]:=by
 unfold lef;rw[show e+1-m=(e-m)+1 by omega,List.range'_concat,List.map_append,List.append_assoc];simp;rw[show m+(e-m)=e by omega]
theorem Eg{n:Nat}{f g:Nat->T4}{S R:Nat->List Nat}{s m e:Nat}(h:∀k,k<n\/k<e->tgo n f S k=tgo n g R k):lef n f S s m e=lef n g R s m e:=by
 unfold lef;congr 1
 .exact List.map_congr_left fun k hk=>h k (.inl (by have:=List.mem_range'_1.1 hk;omega))
 .exact List.map_congr_left fun k hk=>h k (.inr (by have:=List.mem_range'_1.1 hk;omega))
theorem nF{α β:Type}{f:α->β}:∀{l:List α},l.Nodup->(∀x∈l,∀y∈l,f x=f y->x=y)->(l.map f).Nodup
 | [],_,_=>List.nodup_nil
 | x::l,h,hi=>by
  have h:=List.nodup_cons.1 h;refine List.nodup_cons.2 ⟨fun hm=>?_,nF h.2 fun a ha b hb=>hi a (List.mem_cons_of_mem _ ha) b (List.mem_cons_of_mem _ hb)⟩;obtain⟨y,hy,e⟩:=List.mem_map.1 hm
  exact h.1 (by rw[<-hi y (List.mem_cons_of_mem _ hy) x List.mem_cons_self e];exact hy)
structure j5 (n:Nat) (f:Nat->T4) (s m e:Nat):Prop where
 le:s<=n/\n<=m/\m<=e
 up:Sx.Up aC 0 n f
 sy:∀k,k<n->(f k).sy<256
 mono:∀i j,n<=i->i<=j->j<e->(f i).ct<=(f j).ct
theorem uW{a b:Tg}(h:b.wt<a.wt\/(b.wt=a.wt/\b.id<=a.id)):less a b=false:=by
 refine Bool.eq_false_iff.2 fun e=>?_;have:=jl.1 e;omega
theorem nD{n:Nat}{f:Nat->T4}{S:Nat->List Nat}{s m e:Nat}(O:j5 n f s m e)(hs:∀i j,i<j->j<n->(f i).sy≠(f j).sy):dD (lef n f S s m e):=by
 unfold dD lef;rw[List.map_append,List.map_map,List.map_map,List.nodup_append];have hl:=O.le;refine⟨?_,?_,?_⟩
 .refine nF List.nodup_range' ?_;intro x hx y hy he;have hx:=List.mem_range'_1.1 hx;have hy:=List.mem_range'_1.1 hy;simp only[Function.comp,tgo]at he;rw[if_pos (by omega),if_pos (by omega)]at he
  refine Nat.le_antisymm (Nat.le_of_not_lt fun c=>?_) (Nat.le_of_not_lt fun c=>?_)
  .exact hs y x c (by omega) he.symm
  .exact hs x y c (by omega) he
 .refine nF List.nodup_range' ?_;intro x hx y hy he;have hx:=List.mem_range'_1.1 hx;have hy:=List.mem_range'_1.1 hy;simp only[Function.comp,tgo]at he;rw[if_neg (by omega),if_neg (by omega)]at he;omega
 .intro a ha b hb;obtain⟨x,hx,rfl⟩:=List.mem_map.1 ha;obtain⟨y,hy,rfl⟩:=List.mem_map.1 hb;have hx:=List.mem_range'_1.1 hx;have hy:=List.mem_range'_1.1 hy;simp only[Function.comp,tgo]
  rw[if_pos (by omega),if_neg (by omega)];have:=O.sy x (by omega);omega
theorem Eh{n:Nat}{f:Nat->T4}{S:Nat->List Nat}{s m e:Nat}(O:j5 n f s m e)(hs:∀i j,i<j->j<n->(f i).sy≠(f j).sy)(h:s<n)(hc:m=e\/(f s).ct<=(f m).ct):tgo n f S s=fstT (lef n f S s m e):=by
 have hl:=O.le;refine qR (nD O hs) (iH.2 ⟨s,.inl ⟨Nat.le_refl _,h⟩,rfl⟩) fun y hy=>?_;obtain⟨k,hk,rfl⟩:=iH.1 hy;refine uW ?_;simp only[tgo];rw[if_pos h];rcases hk with hk | hk
 .rw[if_pos hk.2];by_cases c:k=s
  .subst c;exact .inr ⟨rfl,Nat.le_refl _⟩
  .have:=O.up s k (Nat.zero_le _) (by omega) hk.2;unfold aC at this;omega
 .rw[if_neg (by omega)];have:=O.mono m k (by omega) hk.1 hk.2;have:=O.sy s h;omega
theorem Ei{n:Nat}{f:Nat->T4}{S:Nat->List Nat}{s m e:Nat}(O:j5 n f s m e)(hs:∀i j,i<j->j<n->(f i).sy≠(f j).sy)(h:m<e)(hc:¬(s<n/\(f s).ct<=(f m).ct)):tgo n f S m=fstT (lef n f S s m e):=by
 have hl:=O.le;refine qR (nD O hs) (iH.2 ⟨m,.inr ⟨Nat.le_refl _,h⟩,rfl⟩) fun y hy=>?_;obtain⟨k,hk,rfl⟩:=iH.1 hy;refine uW ?_;simp only[tgo];rw[if_neg (show ¬m<n by omega)]
 rcases hk with hk | hk
 .rw[if_pos hk.2];by_cases c:k=s
  .subst c;omega
  .have:=O.up s k (Nat.zero_le _) (by omega) hk.2;unfold aC at this;omega
 .rw[if_neg (by omega)];have h1:=O.mono m k (by omega) hk.1 hk.2;by_cases c:k=m
  .subst c;omega
  .omega
def Lf(n s m e k:Nat):Prop:=(s<=k/\k<n)\/(m<=k/\k<e)
def gB(n:Nat)(f:Nat->T4)(s m e a s' m':Nat):Prop:=(a=s/\s<n/\s'=s+1/\m'=m/\(m=e\/(f s).ct<=(f m).ct))\/(a=m/\m<e/\s'=s/\m'=m+1/\¬(s<n/\(f s).ct<=(f m).ct))
theorem kh{n:Nat}{f:Nat->T4}{S:Nat->List Nat}{s m e a s' m':Nat}(O:j5 n f s m e)(hs:∀i j,i<j->j<n->(f i).sy≠(f j).sy)(h:gB n f s m e a s' m'):
  tgo n f S a=fstT (lef n f S s m e)/\(lef n f S s m e).Perm (tgo n f S a::lef n f S s' m' e)/\j5 n f s' m' e/\(∀k,Lf n s m e k↔(k=a\/Lf n s' m' e k))/\¬Lf n s' m' e a/\Lf n s m e a:=by
 have hl:=O.le;rcases h with⟨rfl,h1,rfl,rfl,h2⟩ | ⟨rfl,h1,rfl,rfl,h2⟩
 .refine⟨Eh O hs h1 h2,by rw[Ed h1],⟨by omega,O.up,O.sy,O.mono⟩,fun k=>?_,?_,?_⟩
  .unfold Lf;omega
  .unfold Lf;omega
  .unfold Lf;omega
 .refine⟨Ei O hs h1 h2,Ef h1,⟨by omega,O.up,O.sy,O.mono⟩,fun k=>?_,?_,?_⟩
  .unfold Lf;omega
  .unfold Lf;omega
  .unfold Lf;omega
structure JS (n:Nat) (D:Nat->Nat) (f:Nat->T4) (s m e r:Nat) (S:Nat->List Nat) (hh:Nat->Nat->Nat) (d:Nat->Nat) (Y:Nat):Prop where
 O:j5 n f s m e
 er:e=n+r
 num:(n-s)+(e-m)=n-r
 rn:r<n
 n256:n<=256
 dif:∀i j,i<j->j<n->(f i).sy≠(f j).sy
 nd:((lef n f S s m e).flatMap Tg.sy).Nodup
 rn2:run (256-r) (256+r) (lef n f S s m e) d=D
 lo:∀k,Lf n s m e k->Y<=(f k).ct
 hi:∀k,n<=k->k<e->(f k).ct<=2*Y
 sum:(bL (lef n f S s m e)).sum<=268435456
 lf:∀k,k<n->S k=[(f k).sy]/\hh k (f k).sy=0
 lef_:∀k,Lf n s m e k->∀c∈S k,hh k c=d c
 par:∀k,k<e->¬Lf n s m e k->k<(f k).it/\(f k).it<e/\∀c∈S k,c∈S (f k).it/\hh (f k).it c=hh k c+1
 mke:0<r->m<e
 ln0:∀k,(f k).ln=0
def cP(f:Nat->T4)(a b e:Nat):Nat->T4:=bh (bh (bh f a { f a with it:=e }) b { bh f a { f a with it:=e } b with it:=e }) e ⟨0,(f a).ct+(f b).ct,0,0⟩
theorem ms(f:Nat->T4)(a b e:Nat):cP f a b e e=⟨0,(f a).ct+(f b).ct,0,0⟩:=iX _ _ _
theorem vv(f:Nat->T4)(a b e:Nat)(h1:a≠b)(h2:a≠e):cP f a b e a={ f a with it:=e }:=by
 unfold cP;rw[iB _ _ _ _ h2,iB _ _ _ _ h1,iX]
theorem vu(f:Nat->T4)(a b e:Nat)(h1:a≠b)(h2:b≠e):cP f a b e b={ f b with it:=e }:=by
 unfold cP;rw[iB _ _ _ _ h2,iX,iB _ _ _ _ (Ne.symm h1)]
theorem vt(f:Nat->T4)(a b e k:Nat)(h1:k≠a)(h2:k≠b)(h3:k≠e):cP f a b e k=f k:=by
 unfold cP;rw[iB _ _ _ _ h3,iB _ _ _ _ h2,iB _ _ _ _ h1]
theorem qA(f:Nat->T4)(a b e k:Nat)(h1:a≠b)(h3:k≠e):(cP f a b e k).sy=(f k).sy/\(cP f a b e k).ct=(f k).ct/\(cP f a b e k).ln=(f k).ln:=by
 by_cases c1:k=a
 .subst c1;rw[vv f k b e h1 h3];exact⟨rfl,rfl,rfl⟩
 .by_cases c2:k=b
  .subst c2;rw[vu f a k e h1 h3];exact⟨rfl,rfl,rfl⟩
  .rw[vt f a b e k c1 c2 h3];exact⟨rfl,rfl,rfl⟩
theorem wY{l:List Tg}(h0:0<l.length){x:Tg}{r:List Tg}(hx:x=fstT l)(p:l.Perm (x::r)):(cE l).Perm r:=by
 have p1:(fstT l::cE l).Perm l:=je l _ (jo h0);rw[<-hx]at p1;exact(p1.trans p).cons_inv
theorem uH{l:List Tg}{x:Tg}(hx:x=fstT l):∀y∈l,x.wt<=y.wt:=fun y hy=>by
 have h:=qW y hy;rw[<-hx]at h;have n1:¬_:=fun e=>by rw[jl.2 e]at h;cases h
 omega
theorem JS.step{n:Nat}{D:Nat->Nat}{f:Nat->T4}{s m e r:Nat}{S:Nat->List Nat}{hh:Nat->Nat->Nat}{d:Nat->Nat}{Y a s1 m1 b s2 m2:Nat}(J:JS n D f s m e r S hh d Y)(hr:r+1<n)(P1:gB n f s m e a s1 m1)(P2:gB n f s1 m1 e b s2 m2):
  ∃S' hh' d' Y',JS n D (cP f a b e) s2 m2 (e+1) (r+1) S' hh' d' Y':=by
 obtain⟨a1,a2,a3,a4,a5,a6⟩:=kh (S:=S) J.O J.dif P1;obtain⟨b1,b2,b3,b4,b5,b6⟩:=kh (S:=S) a3 J.dif P2;have hl:=J.O.le;have hl2:=b3.le;have her:=J.er;have hnum:=J.num;have hn256:=J.n256
 have P:=a2.trans (List.Perm.cons _ b2);have hlen:=nU n f S s m e;have hlen1:=nU n f S s1 m1 e;have hlen2:=nU n f S s2 m2 e
 have hl1:(lef n f S s m e).length=(lef n f S s1 m1 e).length+1:=by rw[a2.length_eq];rfl
 have hl22:(lef n f S s1 m1 e).length=(lef n f S s2 m2 e).length+1:=by rw[b2.length_eq];rfl
 have hab:a≠b:=fun c=>a5 (by rw[c];exact b6);have hae:a<e:=by rcases a6 with c | c<;>omega
 have hbe:b<e:=by rcases b6 with c | c<;>omega
 have ids:=nD (S:=S) J.O J.dif;have q1:=wY (by omega) a1 a2;have i1:dD (cE (lef n f S s m e)):=nP ids (by omega)
 have hs1:(cE (lef n f S s m e)).length=(lef n f S s1 m1 e).length:=q1.length_eq
 have e2:sndT (lef n f S s m e)=tgo n f S b:=by
  show fstT (cE _)=_;rw[oB q1 i1 (by omega),<-b1]
 have q2:(lst2 (lef n f S s m e)).Perm (lef n f S s2 m2 e):=by
  show(cE (cE _)).Perm _;exact(qi q1 i1 (by omega)).trans (wY (by omega) b1 b2)
 obtain⟨S',hS'⟩:∃S',S'=fun k=>if k=e then S a++S b else S k:=⟨_,rfl⟩
 obtain⟨d',hd'⟩:∃d',d'=eu d (S a++S b):=⟨_,rfl⟩;obtain⟨hh',hhh'⟩:∃hh':Nat->Nat->Nat,hh'=fun k c=>if k=e then d' c else hh k c:=⟨_,rfl⟩
 have Se:S' e=S a++S b:=by rw[hS'];exact if_pos rfl
 have Sk:∀k,k≠e->S' k=S k:=fun k hk=>by rw[hS'];exact if_neg hk
 have He:∀c,hh' e c=d' c:=fun c=>by rw[hhh'];exact if_pos rfl
 have Hk:∀k c,k≠e->hh' k c=hh k c:=fun k c hk=>by rw[hhh'];exact if_neg hk
 have tk:∀k,k<n\/k<e->tgo n f S k=tgo n (cP f a b e) S' k:=fun k hk=>by
  have hke:k≠e:=by omega
  obtain⟨x1,x2,_⟩:=qA f a b e k hab hke;unfold tgo;rw[x1,x2,Sk k hke]
 have te:tgo n (cP f a b e) S' e=joint (256+r) (lef n f S s m e):=by
  unfold tgo joint;rw[<-a1,e2,ms,Se,if_neg (by omega),show e-n=r by omega];rfl
 have L':lef n (cP f a b e) S' s2 m2 (e+1)=lef n f S s2 m2 e++[joint (256+r) (lef n f S s m e)]:=by
  rw[Ee hl2.2.2,te,<-Eg tk]
 have hidb:∀x∈lef n f S s m e,x.id<256+r:=fun x hx=>by
  obtain⟨k,hk,rfl⟩:=iH.1 hx;unfold tgo;by_cases c:k<n
  .have:=J.O.sy k c;simp only[if_pos c];omega
  .simp only[if_neg c];omega
 have nx:(next (256+r) (lef n f S s m e)).Perm (lef n (cP f a b e) S' s2 m2 (e+1)):=by
  rw[L'];exact q2.append_right _
 have ndP:((S a++S b)++(lef n f S s2 m2 e).flatMap Tg.sy).Nodup:=by
  have h:=(P.flatMap_right Tg.sy).nodup J.nd;simp only[List.flatMap_cons]at h;rw[<-List.append_assoc]at h;exact h
 have ndab:=(List.nodup_append.1 ndP).1;have bin:∀c∈S a++S b,d' c=d c+1:=fun c hc=>by rw[hd'];exact rB ndab hc
 have bout:∀k,Lf n s2 m2 e k->∀c∈S k,d' c=d c:=fun k hk c hc=>by
  rw[hd'];refine oO fun hab'=>(List.nodup_append.1 ndP).2.2 c hab' c ?_ rfl;exact List.mem_flatMap.2 ⟨tgo n f S k,iH.2 ⟨k,hk,rfl⟩,hc⟩
 have wab:(f a).ct<=(f b).ct:=uH a1 (tgo n f S b) (iH.2 ⟨b,(a4 b).2 (.inr b6),rfl⟩)
 have wb:∀k,Lf n s2 m2 e k->(f b).ct<=(f k).ct:=fun k hk=>uH b1 (tgo n f S k) (iH.2 ⟨k,(b4 k).2 (.inr hk),rfl⟩);have Ya:=J.lo a a6;have Yb:=J.lo b ((a4 b).2 (.inr b6))
 have left2:∀k,Lf n s2 m2 (e+1) k↔(k=e\/Lf n s2 m2 e k):=fun k=>by unfold Lf;omega
 have sub2:∀k,Lf n s2 m2 e k->k<e:=fun k hk=>by rcases hk with c | c<;>omega
 have njs:∀k,k≠e->(cP f a b e k).sy=(f k).sy/\(cP f a b e k).ct=(f k).ct/\(cP f a b e k).ln=(f k).ln:=fun k hk=>qA f a b e k hab hk
 refine⟨S',hh',d',(f b).ct,⟨⟨by omega,?_,?_,?_⟩,by omega,by omega,by omega,hn256,?_,?_,?_,?_,?_,?_,?_,?_,?_,fun _=>by omega,?_⟩⟩
 .intro i j h1 h2 h3;have x1:=njs i (by omega);have x2:=njs j (by omega);have:=J.O.up i j h1 h2 h3;unfold aC at this⊢;rw[x1.1,x1.2.1,x2.1,x2.2.1];exact this
 .intro k hk;rw[(njs k (by omega)).1];exact J.O.sy k hk
 .intro i j h1 h2 h3;by_cases c:j=e
  .subst c;by_cases c2:i=j
   .subst c2;exact Nat.le_refl _
   .rw[(njs i c2).2.1,ms];have:=J.hi i h1 (by omega);show _<=(f a).ct+(f b).ct;omega
  .rw[(njs i (by omega)).2.1,(njs j c).2.1];exact J.O.mono i j h1 h2 (by omega)
 .intro i j h1 h2;rw[(njs i (by omega)).1,(njs j (by omega)).1];exact J.dif i j h1 h2
 .rw[L',List.flatMap_append];simp only[List.flatMap_cons,List.flatMap_nil,List.append_nil]
  have:(joint (256+r) (lef n f S s m e)).sy=S a++S b:=by
   unfold joint;rw[<-a1,e2];rfl
  rw[this];exact List.perm_append_comm.nodup ndP
 .rw[<-J.rn2,show 256-r=(256-(r+1))+1 by omega];conv=>rhs;unfold run
  rw[if_neg (by omega),<-a1,e2];obtain⟨n1,n2⟩:=uv (n:=256+r) ids hidb (by omega);rw[show 256+(r+1)=256+r+1 by omega,hd'];exact(tA _ _ _ _ _ nx n1 n2).symm
 .intro k hk;rcases(left2 k).1 hk with c | c
  .subst c;rw[ms];show _<=(f a).ct+(f b).ct;omega
  .rw[(njs k (by have:=sub2 k c;omega)).2.1];exact wb k c
 .intro k h1 h2;by_cases c:k=e
  .subst c;rw[ms];show(f a).ct+(f b).ct<=_;omega
  .rw[(njs k c).2.1];have:=J.hi k h1 (by omega);omega
 .have h1:=sO (l:=lef n f S s m e) (256+r) (by omega);have h2:=(nx.map Tg.wt).sum_nat;have h3:=J.sum;unfold bL at h1 h3⊢;omega
 .intro k hk;have hke:k≠e:=by omega
  rw[Sk k hke,(njs k hke).1,Hk k _ hke];exact J.lf k hk
 .intro k hk c hc;rcases(left2 k).1 hk with h1 | h1
  .rw[h1];exact He c
  .have hke:k≠e:=by have:=sub2 k h1;omega
   rw[Sk k hke]at hc;rw[Hk k c hke,bout k h1 c hc];exact J.lef_ k ((a4 k).2 (.inr ((b4 k).2 (.inr h1)))) c hc
 .intro k hk hnl;have hke:k≠e:=fun c=>hnl ((left2 k).2 (.inl c));have hnl2:¬Lf n s2 m2 e k:=fun c=>hnl ((left2 k).2 (.inr c));by_cases ca:k=a
  .subst ca;rw[vv f k b e hab hke];refine⟨hae,by show e<e+1;omega,fun c hc=>?_⟩;show c∈S' e/\hh' e c=hh' k c+1;rw[Sk k hke]at hc;rw[Se,He,Hk k c hke,bin c (List.mem_append_left _ hc),J.lef_ k a6 c hc]
   exact⟨List.mem_append_left _ hc,rfl⟩
  .by_cases cb:k=b
   .subst cb;rw[vu f a k e hab hke];refine⟨hbe,by show e<e+1;omega,fun c hc=>?_⟩;show c∈S' e/\hh' e c=hh' k c+1;rw[Sk k hke]at hc
    rw[Se,He,Hk k c hke,bin c (List.mem_append_right _ hc),J.lef_ k ((a4 k).2 (.inr b6)) c hc];exact⟨List.mem_append_right _ hc,rfl⟩
   .rw[vt f a b e k ca cb hke]
    have hn:¬Lf n s m e k:=fun c=>by
     rcases(a4 k).1 c with c | c
     .exact ca c
     .rcases(b4 k).1 c with c | c
      .exact cb c
      .exact hnl2 c
    obtain⟨p1,p2,p3⟩:=J.par k (by omega) hn;refine⟨p1,by omega,fun c hc=>?_⟩;rw[Sk k hke]at hc;rw[Sk _ (by omega),Hk _ _ (by omega),Hk k c hke];exact p3 c hc
 .intro k;by_cases c:k=e
  .subst c;rw[ms]
  .rw[(njs k c).2.2];exact J.ln0 k
end Go.Proofs.YtleegaihbgbcjaaGreatDoor.Ji
namespace Go.Proofs.YtleegaihbgbcjaaGreatDoor.Ji
open Hm Hn Ho Hp Hu
def jI:T4:=⟨0,0,0,0⟩
def jH(cnt:Nat->Nat)(c:Nat):T4:=⟨c,cnt c,0,0⟩
def laidL(u:List Nat)(cnt:Nat->Nat)(k:Nat):T4:=if k<u.length then jH cnt (u.getD k 0)else jI
theorem Ev(cnt:Nat->Nat):laidL [] cnt=fun _=>jI:=by funext k;unfold laidL;rw[if_neg (by simp)]
theorem Eu(u:List Nat)(cnt:Nat->Nat)(q:Nat):bh (laidL u cnt) u.length (jH cnt q)=laidL (u++[q]) cnt:=by
 funext k;unfold bh laidL;rw[List.length_append];by_cases c:k=u.length
 .subst c;rw[if_pos rfl,if_pos (by simp),List.getD_eq_getElem?_getD,List.getElem?_append_right (Nat.le_refl _)];simp
 .rw[if_neg c];by_cases c2:k<u.length
  .rw[if_pos c2,if_pos (by simp;omega),List.getD_eq_getElem?_getD,List.getD_eq_getElem?_getD,List.getElem?_append_left c2]
  .rw[if_neg c2,if_neg (by simp;omega)]
theorem Gg{u:List Nat}{k:Nat}(h:k<u.length):u.getD k 0∈u:=by
 rw[List.getD_eq_getElem?_getD,List.getElem?_eq_getElem h];exact List.getElem_mem h
theorem uf:∀{l u:List Nat},l.Nodup->(∀x∈l,x∈u)->u.length<=l.length->l.Perm u
 | [],u,_,_,h=>by
  obtain rfl:u=[]:=List.eq_nil_of_length_eq_zero (by simpa using h);exact List.Perm.refl _
 | x::l,u,hn,hs,h=>by
  have hn:=List.nodup_cons.1 hn;have hx:=hs x List.mem_cons_self;have p:=List.perm_cons_erase hx;refine List.Perm.trans (List.Perm.cons x (uf hn.2 (fun y hy=>?_) ?_)) p.symm
  .have h1:=p.subset (hs y (List.mem_cons_of_mem _ hy));rcases List.mem_cons.1 h1 with e | e
   .exact absurd (by rw[<-e];exact hy) hn.1
   .exact e
  .have:=p.length_eq;simp at this h;omega
structure dQ (cnt:Nat->Nat) (n:Nat) (f:Nat->T4):Prop where
 nu:n=(used cnt 256).length
 im:Sx.Im 0 n (laidL (used cnt 256) cnt) f
 up:Sx.Up aC 0 n f
theorem dQ.at{cnt:Nat->Nat}{n:Nat}{f:Nat->T4}(h:dQ cnt n f)(k:Nat)(hk:k<n):∃c∈used cnt 256,f k=jH cnt c:=by
 obtain⟨j,_,j2,e⟩:=h.im.inn k (Nat.zero_le _) hk;have hj:j<(used cnt 256).length:=by rw[<-h.nu];exact j2
 refine⟨(used cnt 256).getD j 0,Gg hj,?_⟩;rw[e];unfold laidL;rw[if_pos hj]
theorem dQ.out{cnt:Nat->Nat}{n:Nat}{f:Nat->T4}(h:dQ cnt n f)(k:Nat)(hk:n<=k):f k=jI:=by
 rw[h.im.out k (.inr hk)];unfold laidL;rw[if_neg (by rw[<-h.nu];omega)]
theorem dQ.dif{cnt:Nat->Nat}{n:Nat}{f:Nat->T4}(h:dQ cnt n f):∀i j,i<j->j<n->(f i).sy≠(f j).sy:=by
 intro i j h1 h2 he;obtain⟨c,_,e1⟩:=h.at i (by omega);obtain⟨c2,_,e2⟩:=h.at j h2;have L:=h.up i j (Nat.zero_le _) h1 h2;rw[e1,e2]at L he;have he:c=c2:=he;subst he;unfold aC at L;omega
def mW(n:Nat)(f:Nat->T4):List Nat:=(List.range n).map fun k=>(f k).sy
theorem dQ.perm{cnt:Nat->Nat}{n:Nat}{f:Nat->T4}(h:dQ cnt n f):(mW n f).Perm (used cnt 256):=by
 refine uf ?_ ?_ (by rw[<-h.nu];simp[mW])
 .refine nF List.nodup_range ?_;intro x hx y hy he;have hx:=List.mem_range.1 hx;have hy:=List.mem_range.1 hy;refine Nat.le_antisymm (Nat.le_of_not_lt fun c=>?_) (Nat.le_of_not_lt fun c=>?_)
  .exact h.dif y x c hx he.symm
  .exact h.dif x y c hy he
 .intro x hx;obtain⟨k,hk,rfl⟩:=List.mem_map.1 hx;obtain⟨c,hc,e⟩:=h.at k (List.mem_range.1 hk);rw[e];exact hc
theorem E5{cnt:Nat->Nat}(hB:∀c,cnt c<=1048576){n:Nat}{f:Nat->T4}(h:dQ cnt n f)(h1:1<=n):
  JS n (run 256 256 (things cnt 256) (fun _=>0)) f 0 n n 0 (fun k=>[(f k).sy]) (fun _ _=>0) (fun _=>0) 0:=by
 have hO:j5 n f 0 n n:=⟨by omega,h.up,fun k hk=>by
  obtain⟨c,hc,e⟩:=h.at k hk;rw[e]
  exact(gh.1 hc).1,fun i j h1 h2 h3=>by omega⟩
 have eL:lef n f (fun k=>[(f k).sy]) 0 n n=(mW n f).map (one cnt):=by
  unfold lef mW;rw[Nat.sub_self,Nat.sub_zero,show List.range' n 0=[]from rfl,List.map_nil,List.append_nil,List.map_map,<-List.range_eq_range'];refine List.map_congr_left fun k hk=>?_;have hk:=List.mem_range.1 hk
  obtain⟨c,hc,e⟩:=h.at k hk;unfold tgo;rw[if_pos hk];simp only[Function.comp,e,one,jH]
 have P:(lef n f (fun k=>[(f k).sy]) 0 n n).Perm (things cnt 256):=by
  rw[eL];exact h.perm.map _
 have hu:=jG cnt 256
 refine⟨hO,by omega,by omega,by omega,by rw[h.nu];exact hu,h.dif,?_,?_,fun _ _=>Nat.zero_le _,fun k g1 g2=>by omega,?_,fun k hk=>⟨rfl,rfl⟩,fun _ _ _ _=>rfl,fun k hk hn=>absurd (show Lf n 0 n n k from .inl ⟨Nat.zero_le _,hk⟩) hn,fun h0=>by omega,?_⟩
 .refine(P.flatMap_right Tg.sy).symm.nodup ?_;rw[lH];exact mR cnt 256
 .refine tA 256 256 _ _ _ P (nD hO h.dif) fun x hx=>?_;obtain⟨k,hk,rfl⟩:=iH.1 hx;have hk:k<n:=by omega
  unfold tgo;rw[if_pos hk];exact hO.sy k hk
 .have e:=(P.map Tg.wt).sum_nat;unfold bL;rw[e];show(bL (things cnt 256)).sum<=_;rw[pg];have h1:=sum_le cnt 1048576 (used cnt 256) (fun c _=>hB c)
  have h2:(used cnt 256).length*1048576<=256*1048576:=Nat.mul_le_mul_right _ hu;omega
 .intro k;by_cases c:k<n
  .obtain⟨x,_,e⟩:=h.at k c;rw[e];rfl
  .rw[h.out k (by omega)];rfl
structure lj (n:Nat) (D:Nat->Nat) (f:Nat->T4) (S:Nat->List Nat) (hh:Nat->Nat->Nat):Prop where
 par:∀k,k<2*n-2->k<(f k).it/\(f k).it<=2*n-2/\∀c∈S k,c∈S (f k).it/\hh (f k).it c=hh k c+1
 root:∀c∈S (2*n-2),D c=hh (2*n-2) c
 lf:∀k,k<n->S k=[(f k).sy]/\hh k (f k).sy=0
 ln0:∀k,(f k).ln=0
theorem JS.ends{n:Nat}{D:Nat->Nat}{f:Nat->T4}{s m e r:Nat}{S:Nat->List Nat}{hh:Nat->Nat->Nat}{d:Nat->Nat}{Y:Nat}(J:JS n D f s m e r S hh d Y)(hr:r+1=n)(h2:2<=n):lj n D f S hh:=by
 have hl:=J.O.le;have her:=J.er;have hnum:=J.num;have hm:=J.mke (by omega);have hn:=J.n256
 have hD:D=d:=by
  rw[<-J.rn2,show 256-r=(256-r-1)+1 by omega];unfold run;rw[if_pos (by rw[nU];omega)]
 have left:∀k,k<e->(Lf n s m e k↔k=2*n-2):=fun k hk=>by unfold Lf;omega
 refine⟨fun k hk=>?_,fun c hc=>?_,J.lf,J.ln0⟩
 .obtain⟨p1,p2,p3⟩:=J.par k (by omega) (fun c=>by have:=(left k (by omega)).1 c;omega);exact⟨p1,by omega,p3⟩
 .rw[hD];exact(J.lef_ (2*n-2) ((left _ (by omega)).2 rfl) c hc).symm
structure Ms (n:Nat) (D:Nat->Nat) (f F:Nat->T4) (S:Nat->List Nat) (hh:Nat->Nat->Nat) (i:Nat):Prop where
 same:∀k,(F k).sy=(f k).sy/\(F k).it=(f k).it
 ln:∀k,i<=k->k<=2*n-2->(F k).ln+k<=2*n-2/\∀c∈S k,D c=(F k).ln+hh k c
theorem Ms.start{n:Nat}{D:Nat->Nat}{f:Nat->T4}{S:Nat->List Nat}{hh:Nat->Nat->Nat}(T:lj n D f S hh):Ms n D f f S hh (2*n-2):=
 ⟨fun _=>⟨rfl,rfl⟩,fun k h1 h2=>by
  obtain rfl:k=2*n-2:=by omega
  rw[T.ln0]
  exact⟨by omega,fun c hc=>by rw[T.root c hc];omega⟩⟩
theorem Ms.step{n:Nat}{D:Nat->Nat}{f F:Nat->T4}{S:Nat->List Nat}{hh:Nat->Nat->Nat}{i:Nat}(T:lj n D f S hh)(M:Ms n D f F S hh (i+1))(hi:i<2*n-2):
  (F i).it<=2*n-2/\i<(F i).it/\(F (F i).it).ln<=2*n/\Ms n D f (bh F i { F i with ln:=(F (F i).it).ln+1 }) S hh i:=by
 obtain⟨p1,p2,p3⟩:=T.par i hi;rw[<-(M.same i).2]at p1 p2 p3;obtain⟨q1,q2⟩:=M.ln _ p1 p2;refine⟨p2,p1,by omega,fun k=>?_,fun k h1 h2=>?_⟩
 .by_cases c:k=i
  .subst c;rw[iX];exact M.same k
  .rw[iB _ _ _ _ c];exact M.same k
 .by_cases c:k=i
  .subst c;rw[iX];refine⟨by show _+1+k<=_;omega,fun x hx=>?_⟩;obtain⟨r1,r2⟩:=p3 x hx;have:=q2 x r1;show D x=_+1+_;omega
  .rw[iB _ _ _ _ c];exact M.ln k (by omega) h2
structure mO (cnt:Nat->Nat) (n:Nat) (F:Nat->T4):Prop where
 nu:n=(used cnt 256).length
 sy:∀k,k<n->(F k).sy∈used cnt 256
 all:∀c∈used cnt 256,∃k,k<n/\(F k).sy=c
 ln:∀k,k<n->max (F k).ln 1=hlen cnt 256 (F k).sy/\(F k).ln<=600
theorem dQ.all{cnt:Nat->Nat}{n:Nat}{f:Nat->T4}(h:dQ cnt n f):∀c∈used cnt 256,∃k,k<n/\(f k).sy=c:=fun c hc=>by
 obtain⟨k,hk,e⟩:=List.mem_map.1 (h.perm.symm.subset hc);exact⟨k,List.mem_range.1 hk,e⟩
theorem Ms.done{cnt:Nat->Nat}(hB:∀c,cnt c<=1048576){n:Nat}{f0 f F:Nat->T4}{S:Nat->List Nat}{hh:Nat->Nat->Nat}(h:dQ cnt n f0)(h2:2<=n)(sm:∀k,k<n->(f k).sy=(f0 k).sy)(T:lj n (run 256 256 (things cnt 256) (fun _=>0)) f S hh)(M:Ms n (run 256 256 (things cnt 256) (fun _=>0)) f F S hh 0):mO cnt n F:=by
 have hu:=jG cnt 256;have hnu:=h.nu;have ex:∀k,k<n->(F k).sy=(f0 k).sy:=fun k hk=>(M.same k).1.trans (sm k hk)
 have hin:∀k,k<n->(F k).sy∈used cnt 256:=fun k hk=>by
  obtain⟨c,hc,e⟩:=h.at k hk;rw[ex k hk,e];exact hc
 refine⟨hnu,hin,fun c hc=>?_,fun k hk=>?_⟩
 .obtain⟨k,hk,e⟩:=h.all c hc;exact⟨k,hk,by rw[ex k hk];exact e⟩
 .obtain⟨q1,q2⟩:=M.ln k (Nat.zero_le _) (by omega);obtain⟨l1,l2⟩:=T.lf k hk;have e:=q2 (f k).sy (by rw[l1];simp);rw[l2,<-(M.same k).1]at e
  have eh:hlen cnt 256 (F k).sy=(F k).ln:=by
   unfold hlen;rw[if_neg (by omega),e];rfl
  have F1:=(oD cnt 256 (by omega) hB (by omega)).some _ (hin k hk);rw[eh]at F1;exact⟨by rw[eh];omega,by omega⟩
theorem DU{cnt:Nat->Nat}{n:Nat}{f:Nat->T4}(h:dQ cnt n f)(h2:n<=1):mO cnt n f:=by
 have hnu:=h.nu;refine⟨hnu,fun k hk=>?_,h.all,fun k hk=>?_⟩
 .obtain⟨c,hc,e⟩:=h.at k hk;rw[e];exact hc
 .obtain⟨c,hc,e⟩:=h.at k hk;rw[e];unfold hlen;rw[if_pos (by omega),if_pos (show(jH cnt c).sy∈_ from hc)];exact⟨rfl,by show 0<=600;omega⟩
theorem hlen_none(cnt:Nat->Nat)(c:Nat)(h:c ∉ used cnt 256):hlen cnt 256 c=0:=by
 unfold hlen;by_cases g:(used cnt 256).length=1
 .rw[if_pos g,if_neg h]
 .rw[if_neg g];refine tB 256 256 _ _ c fun x hx hc=>h ?_;rw[<-lH];exact List.mem_flatMap.2 ⟨x,hx,hc⟩
def ia(cnt:Nat->Nat)(F:Nat->T4)(q:Nat):List Nat:=(List.range 256).map fun c=>if (List.range q).any (fun k=>decide ((F k).sy=c))=true then hlen cnt 256 c else 0
theorem DV(cnt:Nat->Nat)(F:Nat->T4):ia cnt F 0=List.replicate 256 0:=by
 unfold ia;rw[List.eq_replicate_iff];refine⟨by simp,fun b hb=>?_⟩;obtain⟨c,_,rfl⟩:=List.mem_map.1 hb;simp
theorem DW{cnt:Nat->Nat}{n:Nat}{F:Nat->T4}(L:mO cnt n F)(q:Nat)(hq:q<n):(ia cnt F q).set (F q).sy (max (F q).ln 1)=ia cnt F (q+1):=by
 have hs:=(gh.1 (L.sy q hq)).1;refine List.ext_getElem? fun c=>?_;unfold ia;rw[List.getElem?_set,List.length_map,List.length_range];by_cases c2:c<256
 .rw[List.getElem?_map,List.getElem?_map,List.getElem?_range c2];by_cases e:(F q).sy=c
  .subst e;rw[if_pos rfl,if_pos hs,(L.ln q hq).1];simp only[Option.map_some];rw[if_pos];exact List.any_eq_true.2 ⟨q,List.mem_range.2 (by omega),by simp⟩
  .rw[if_neg e];simp only[Option.map_some];congr 1
   have:((List.range (q+1)).any fun k=>decide ((F k).sy=c))=((List.range q).any fun k=>decide ((F k).sy=c)):=by
    rw[List.range_succ,List.any_append];simp[e]
   rw[this]
 .rw[if_neg (by omega),List.getElem?_eq_none (by simp;omega),List.getElem?_eq_none (by simp;omega)]
theorem DX{cnt:Nat->Nat}{n:Nat}{F:Nat->T4}(L:mO cnt n F):ia cnt F n=(List.range 256).map (hlen cnt 256):=by
 unfold ia;refine List.map_congr_left fun c hc=>?_;by_cases g:c∈used cnt 256
 .obtain⟨k,hk,e⟩:=L.all c g;rw[if_pos];exact List.any_eq_true.2 ⟨k,List.mem_range.2 hk,by simp[e]⟩
 .rw[hlen_none cnt c g];split<;>rfl
end Go.Proofs.YtleegaihbgbcjaaGreatDoor.Ji
namespace Go.Proofs.YtleegaihbgbcjaaGreatDoor
open Go.RowKit Num Bit
theorem nJ(n:Int)(h0:0<=n)(h1:n<=2097152)(w:World):
  Qx 146 #[.int .i64 n] w (.int .i64 ((n+63)/64)):=by
 go_enter func146,ntmps146;go_wp2;go_ret;exact⟨congrArg (fun a=>Ending.returned (Value.int IntKind.i64 (a/64))) (by omega),rfl⟩
theorem ID(N:Int)(xs:List Nat)(h1:0<=N)(h2:N<=1048576)(h3:(xs.length:Int)=(N+63)/64)(h4:¬N%64=0)(j:Nat)(hj:j=xs.length-1)(k:Nat)(hk:k=(N%64).toNat):
  ((gt xs j:Int)/2^k==0)=ar N xs:=by
 subst hj hk;unfold ar;rw[Bool.eq_iff_iff,beq_iff_eq,decide_eq_true_eq]
 have e:((gt xs (xs.length-1):Int)/2^(N%64).toNat)=((gt xs (xs.length-1)/2^(N%64).toNat:Nat):Int):=by
  rw[Int.natCast_ediv,Int.natCast_pow];rfl
 rw[e];have hp:0<2^(N%64).toNat:=Nat.pow_pos (by decide);constructor
 .intro h;refine⟨h1,h2,h3,.inr ?_⟩;have:gt xs (xs.length-1)/2^(N%64).toNat=0:=by omega
  exact(Nat.div_eq_zero_iff_lt hp).1 this
 .rintro⟨_,_,_,h | h⟩
  .exact absurd h h4
  .rw[Nat.div_eq_of_lt h];rfl
theorem bi(N:Int)(ao:Option Addr)(xs:List Nat)(cap:Nat)(w:World)(hx:Wd w ao xs):
  Qq 147 #[.agg #[.int .i64 N,.slice ao xs.length cap]] w (.bool (ar N xs)):=by
 by_cases h1:N<0
 .have hd:decide (N<0)=true:=by simpa using h1
  have r:false=ar N xs:=by unfold ar;rw[eq_comm,decide_eq_false_iff_not];omega
  have R:Hid (false=ar N xs):=r;clear r hx;go_enter func147,ntmps147;go_wp2;go_quiet (fail);go_wp2;go_ret;exact⟨i_ R.out,below_drewN ((Below.refl _ _).alloc (Nat.le_refl _) _) _⟩
 have hd:decide (N<0)=false:=by simpa using h1
 by_cases h2:N>1048576
 .have hd2:decide (1048576<N)=true:=by simpa using h2
  have r:false=ar N xs:=by unfold ar;rw[eq_comm,decide_eq_false_iff_not];omega
  have R:Hid (false=ar N xs):=r;clear r hx;go_enter func147,ntmps147;go_wp2;go_quiet (fail);go_wp2;go_ret;exact⟨i_ R.out,below_drewN ((Below.refl _ _).alloc (Nat.le_refl _) _) _⟩
 have hd2:decide (1048576<N)=false:=by simpa using h2
 by_cases h3:(xs.length:Int)=(N+63)/64
 .have h3':((xs.length:Int) != (N+63)/64)=false:=by simpa using h3
  by_cases h4:N%64=0
  .have h4':(N%64==0)=true:=by simpa using h4
   have r:true=ar N xs:=by unfold ar;rw[eq_comm,decide_eq_true_eq];omega
   have R:Hid (true=ar N xs):=r;clear r hx h3 h4;go_enter func147,ntmps147;go_wp2;go_quiet ((go_at_call 146;exact Calls.quiet_of_same (nJ _ (by omega) (by omega) _)));go_wp2;go_ret
   exact⟨i_ R.out,below_drewN ((Below.refl _ _).alloc (Nat.le_refl _) _) _⟩
  .have h4':(N%64==0)=false:=by simpa using h4
   have hl:1<=xs.length:=by omega
   have hl2:xs.length<=16384:=by omega
   obtain⟨b,off,rfl,hb,hc⟩:=hx hl;have R:Hid (((gt xs (xs.length-1):Int)/2^(N%64).toNat==0)=ar N xs):=ID N xs (by omega) (by omega) h3 h4 _ rfl _ rfl;have hc1:=hc (xs.length-1) (by omega)
   clear hx h3 h4 hc;go_enter func147,ntmps147;go_wp2;go_quiet ((go_at_call 146;exact Calls.quiet_of_same (nJ _ (by omega) (by omega) _)));go_wp2;go_ret
   exact⟨i_ R.out,below_drewN ((Below.refl _ _).alloc (Nat.le_refl _) _) _⟩
 .have h3':((xs.length:Int) != (N+63)/64)=true:=by simpa using h3
  have r:false=ar N xs:=by unfold ar;rw[eq_comm,decide_eq_false_iff_not];omega
  have R:Hid (false=ar N xs):=r;clear r hx;go_enter func147,ntmps147;go_wp2;go_quiet ((go_at_call 146;exact Calls.quiet_of_same (nJ _ (by omega) (by omega) _)));go_wp2;go_ret
  exact⟨i_ R.out,below_drewN ((Below.refl _ _).alloc (Nat.le_refl _) _) _⟩
theorem ud(N:Int)(ao:Option Addr)(xs:List Nat)(cap:Nat)(i:Int)(w:World)(hx:Wd w ao xs):
  Qq 204 #[.agg #[.int .i64 N,.slice ao xs.length cap],.int .i64 i] w (.int .i64 (cH N xs i)):=by
 have K:∀o,Wd (w.alloc o) ao xs:=fun o=>hx.keep (below_alloc w o);cases hk:ar N xs with
 | false=>
  have R:Hid (2=cH N xs i):=by unfold cH;rw[if_pos hk];rfl
  go_enter func204,ntmps204;go_wp2_with (go_at_call 147;refine mr (bi _ _ _ _ _ (K _)) fun w' hb=>?_;obtain⟨c0,c1,hz,hw⟩:=cQ hb;clear hb);go_ret;exact⟨cD R.out,by assumption⟩
 | true=>
  by_cases h1:i<0
  .have R:Hid (3=cH N xs i):=by unfold cH;rw[if_neg (by simp[hk]),if_pos (.inl h1)];rfl
   go_enter func204,ntmps204;go_wp2_with (go_at_call 147;refine mr (bi _ _ _ _ _ (K _)) fun w' hb=>?_;obtain⟨c0,c1,hz,hw⟩:=cQ hb;clear hb);go_ret;exact⟨cD R.out,by assumption⟩
  .by_cases h2:N<=i
   .have R:Hid (3=cH N xs i):=by unfold cH;rw[if_neg (by simp[hk]),if_pos (.inr h2)];rfl
    go_enter func204,ntmps204;go_wp2_with (go_at_call 147;refine mr (bi _ _ _ _ _ (K _)) fun w' hb=>?_;obtain⟨c0,c1,hz,hw⟩:=cQ hb;clear hb);go_ret
    exact⟨cD R.out,by assumption⟩
   .have R:Hid (0=cH N xs i):=by unfold cH;rw[if_neg (by simp[hk]),if_neg (by omega)];rfl
    go_enter func204,ntmps204;go_wp2_with (go_at_call 147;refine mr (bi _ _ _ _ _ (K _)) fun w' hb=>?_;obtain⟨c0,c1,hz,hw⟩:=cQ hb;clear hb);go_ret
    exact⟨cD R.out,by assumption⟩
theorem Gf(xs:List Nat)(hg:Fit xs)(i:Nat)(j k:Nat)(hj:j=i/64)(hk:k=i%64):(bits BinOp.and IntKind.u64 ((gt xs j:Int)/2^k) 1==1)=bitAt xs i:=by
 subst hj hk;have h:=hg (i/64);rw[jz _ _ (by omega) (by omega)];unfold bitAt;rw[oT,Int.toNat_natCast,Bool.eq_iff_iff,beq_iff_eq,decide_eq_true_eq];omega
theorem wF(N:Int)(ao:Option Addr)(xs:List Nat)(cap:Nat)(i:Int)(w:World)(hx:Wd w ao xs)(hg:Fit xs):
  Qq 132 #[.agg #[.int .i64 N,.slice ao xs.length cap],.int .i64 i] w (.tuple #[.bool (dg N xs i),.int .i64 (cH N xs i)]):=by
 have K:∀o,Wd (w.alloc o) ao xs:=fun o=>hx.keep (below_alloc w o);by_cases hE:cH N xs i=0
 .have hk:ar N xs=true:=by unfold cH at hE;cases h:ar N xs with | true=>rfl | false=>simp[h]at hE
  have hi:0<=i/\i<N:=by
   unfold cH at hE;rw[if_neg (by simp[hk])]at hE;by_cases h:i<0\/N<=i
   .rw[if_pos h]at hE;omega
   .omega
  obtain⟨hc0,hc1,hc2,_⟩:=bp N xs hk;obtain⟨n,rfl⟩:=Int.eq_ofNat_of_zero_le hi.1;obtain⟨b,off,rfl,hb,hc⟩:=hx (by omega);have hE':(cH N xs n==0)=true:=by simpa using hE
  have hB:Hid (bitAt xs n=dg N xs n):=by unfold dg;rw[hk,show decide (0<=(n:Int)/\(n:Int)<N)=true by simpa using hi.2];simp[Hid]
  have hcj:=hc (n/64) (by omega);clear hx hk hc;obtain⟨h0,h1⟩:=hi;have hl:(n:Int)/64<(xs.length:Int):=by omega
  clear hc2 ;go_enter func132,ntmps132
  go_wp2_with (go_at_call 204;refine mr (ud _ _ _ _ _ _ (K _)) fun w' hb=>?_;obtain⟨c0,c1,hz,hw⟩:=cQ hb;have hcw:=(hw.cell (p:=⟨_,off+n/64,none⟩) (by assumption)).trans hcj;clear hb)
  go_ret2;exact⟨gI (congrArg Value.bool ((Gf xs hg n _ _ rfl rfl).trans hB.out)) (congrArg (Value.int IntKind.i64) hE.symm),by assumption⟩
 .have hE':(cH N xs i==0)=false:=by simpa using hE
  have hB:Hid (false=dg N xs i):=by
   unfold dg cH at *;cases h:ar N xs with
   | false=>simp[Hid]
   | true=>
    simp only[h]at hE;by_cases h2:i<0\/N<=i
    .have:decide (0<=i/\i<N)=false:=by simp;omega
     rw[this];simp[Hid]
    .simp[h2]at hE
  clear hE;go_enter func132,ntmps132;go_wp2_with (go_at_call 204;refine mr (ud _ _ _ _ _ _ (K _)) fun w' hb=>?_;obtain⟨c0,c1,hz,hw⟩:=cQ hb;clear hb);go_ret2
  exact⟨gI (congrArg Value.bool hB.out) rfl,by assumption⟩
theorem mZ(N:Int)(ao:Option Addr)(xs:List Nat)(cap:Nat)(i n:Int)(w:World)(hx:Wd w ao xs)(hg:Fit xs)(_hi: -9223372036854775808<=i)(_hi2:i<=9223372036854775807)(_hn: -9223372036854775808<=n)(_hn2:n<=9223372036854775807):
  Qq 220 #[.agg #[.int .i64 N,.slice ao xs.length cap],.int .i64 i,.int .i64 n] w (.tuple #[.int .u64 (slcX N xs i n),.int .i64 (bk N xs i n)]):=by
 have K:∀o,Wd (w.alloc o) ao xs:=fun o=>hx.keep (below_alloc w o);by_cases hE:bk N xs i n=0
 .have hk:ar N xs=true:=by unfold bk at hE;cases h:ar N xs with | true=>rfl | false=>simp[h]at hE
  have hi:0<=n/\n<=64/\0<=i/\i<=N-n:=by
   unfold bk at hE;by_cases h:ar N xs=false\/n<0\/64<n
   .rw[if_pos h]at hE;omega
   .rw[if_neg h]at hE;by_cases h2:i<0\/N-n<i
    .rw[if_pos h2]at hE;omega
    .simp[hk]at h;omega
  obtain⟨hc0,hc1,hc2,_⟩:=bp N xs hk;obtain⟨hn0,hn1,hi0,hi1⟩:=hi;by_cases hz:n=0
  .subst hz;have R:Hid (0=((slcX N xs i 0:Nat):Int)):=by unfold slcX Hid;rw[if_pos hE];rfl
   have RE:Hid (0=bk N xs i 0):=hE.symm;clear hE hx hc2;go_enter func220,ntmps220
   go_wp2_with (go_at_call 147;refine mr (bi _ _ _ _ _ (K _)) fun w' hb=>?_;obtain⟨c0,c1,hz,hw⟩:=cQ hb;clear hb);go_ret2
   exact⟨gI (congrArg (Value.int IntKind.u64) R.out) (congrArg (Value.int IntKind.i64) RE.out),by assumption⟩
  .obtain⟨m,rfl⟩:=Int.eq_ofNat_of_zero_le hi0;obtain⟨b,off,rfl,hb,hc⟩:=hx (by omega);have hz':(n==0)=false:=by simpa using hz
   have hcj:=hc (m/64) (by omega);have RE:Hid (0=bk N xs m n):=hE.symm;by_cases hl:m/64+1<xs.length
   .have hcj2:=hc (m/64+1) hl;have hl1:(m:Int)/64<(xs.length:Int):=by omega
    have hl2:(m:Int)/64+1<(xs.length:Int):=by omega
    have hl3:xs.length<=16384:=by omega
    clear hE hx hc2 hc hz;go_enter func220,ntmps220
    go_wp2_with (first | (go_at_call 147;refine mr (bi _ _ _ _ _ (K _)) fun w' hb=>?_;obtain⟨c0,c1,hz,hw⟩:=cQ hb;have hcw:=(hw.cell (p:=⟨_,off+m/64,none⟩) (by assumption)).trans hcj;have hcw2:=(hw.cell (p:=⟨_,off+(m/64+1),none⟩) (by assumption)).trans hcj2;clear hb) | (go_at_call 228;refine(me _ _).mono ?_;rintro e w' ⟨rfl,rfl⟩))
    go_ret2;refine⟨gI (congrArg (Value.int IntKind.u64) ?_) (congrArg (Value.int IntKind.i64) RE.out),by assumption⟩;rw[zu xs hg m n hn1,slcX,if_pos RE.out.symm,Int.toNat_natCast]
   .have hl2:¬(m:Int)/64+1<(xs.length:Int):=by omega
    have hl1:(m:Int)/64<(xs.length:Int):=by omega
    have hl3:xs.length<=16384:=by omega
    clear hE hx hc2 hc hz;go_enter func220,ntmps220
    go_wp2_with (first | (go_at_call 147;refine mr (bi _ _ _ _ _ (K _)) fun w' hb=>?_;obtain⟨c0,c1,hz,hw⟩:=cQ hb;have hcw:=(hw.cell (p:=⟨_,off+m/64,none⟩) (by assumption)).trans hcj;clear hb) | (go_at_call 228;refine(me _ _).mono ?_;rintro e w' ⟨rfl,rfl⟩))
    go_ret2;refine⟨gI (congrArg (Value.int IntKind.u64) ?_) (congrArg (Value.int IntKind.i64) RE.out),by assumption⟩;rw[zx xs hg m n hn1 (by omega),slcX,if_pos RE.out.symm,Int.toNat_natCast]
 .have R:Hid (0=((slcX N xs i n:Nat):Int)):=by unfold slcX Hid;rw[if_neg hE];rfl
  cases hk:ar N xs with
  | false=>
   have RE:Hid (2=bk N xs i n):=by unfold bk Hid;rw[if_pos (.inl hk)]
   clear hE;go_enter func220,ntmps220;go_wp2_with (go_at_call 147;refine mr (bi _ _ _ _ _ (K _)) fun w' hb=>?_;obtain⟨c0,c1,hz,hw⟩:=cQ hb;clear hb);go_ret2
   exact⟨gI (congrArg (Value.int IntKind.u64) R.out) (congrArg (Value.int IntKind.i64) RE.out),by assumption⟩
  | true=>
   obtain⟨hc0,hc1,_,_⟩:=bp N xs hk;by_cases hn:n<0
   .have RE:Hid (2=bk N xs i n):=by unfold bk Hid;rw[if_pos (.inr (.inl hn))]
    clear hE;go_enter func220,ntmps220;go_wp2_with (go_at_call 147;refine mr (bi _ _ _ _ _ (K _)) fun w' hb=>?_;obtain⟨c0,c1,hz,hw⟩:=cQ hb;clear hb);go_ret2
    exact⟨gI (congrArg (Value.int IntKind.u64) R.out) (congrArg (Value.int IntKind.i64) RE.out),by assumption⟩
   .by_cases hn2:64<n
    .have RE:Hid (2=bk N xs i n):=by unfold bk Hid;rw[if_pos (.inr (.inr hn2))]
     clear hE;go_enter func220,ntmps220;go_wp2_with (go_at_call 147;refine mr (bi _ _ _ _ _ (K _)) fun w' hb=>?_;obtain⟨c0,c1,hz,hw⟩:=cQ hb;clear hb);go_ret2
     exact⟨gI (congrArg (Value.int IntKind.u64) R.out) (congrArg (Value.int IntKind.i64) RE.out),by assumption⟩
    .have hcond:i<0\/N-n<i:=by
      unfold bk at hE;rw[if_neg (by simp[hk];omega)]at hE;by_cases h2:i<0\/N-n<i
      .exact h2
      .rw[if_neg h2]at hE;exact absurd rfl hE
     have RE:Hid (3=bk N xs i n):=by unfold bk Hid;rw[if_neg (by simp[hk];omega),if_pos hcond]
     clear hE;by_cases h3:i<0
     .go_enter func220,ntmps220;go_wp2_with (go_at_call 147;refine mr (bi _ _ _ _ _ (K _)) fun w' hb=>?_;obtain⟨c0,c1,hz,hw⟩:=cQ hb;clear hb);go_ret2
      exact⟨gI (congrArg (Value.int IntKind.u64) R.out) (congrArg (Value.int IntKind.i64) RE.out),by assumption⟩
     .have h4:N-n<i:=by omega
      clear hcond;go_enter func220,ntmps220;go_wp2_with (go_at_call 147;refine mr (bi _ _ _ _ _ (K _)) fun w' hb=>?_;obtain⟨c0,c1,hz,hw⟩:=cQ hb;clear hb);go_ret2
      exact⟨gI (congrArg (Value.int IntKind.u64) R.out) (congrArg (Value.int IntKind.i64) RE.out),by assumption⟩
def bad(top n:Int):Bool:=decide (n<0)||decide (top<n)
theorem E7(x top:Int)(p:Addr)(w:World)(hc:w.cell? p=some (.int .i64 top)):
  Qx 137 #[.int .i64 x,.pointer (some p)] w (.bool (bad top x)):=by
 by_cases h1:x<0
 .have R:Hid (bad top x=true):=by show bad top x=true;unfold bad;simp[h1]
  go_enter func137,ntmps137;go_wp2;go_ret;rw[R.out];exact⟨rfl,rfl⟩
 .have h1':decide (x<0)=false:=by simpa using h1
  have R:Hid (bad top x=decide (top<x)):=by show bad top x=_;unfold bad;rw[h1'];rfl
  go_enter func137,ntmps137;go_wp2;go_ret;rw[R.out];exact⟨rfl,rfl⟩
def mP(l:List Int)(top:Int)(e:Ending):Prop:=∃k:Int,e=.returned (.int .i64 k)/\(decide (0<=k)=l.any (bad top))
theorem mP.mk{l:List Int}{top:Int}{e:Ending}(k:Int)(h:e=.returned (.int .i64 k))(h2:decide (0<=k)=l.any (bad top)):mP l top e:=⟨k,h,h2⟩
theorem Gb{l:List Int}{i:Nat}(h:i<l.length):gi l i∈l:=by
 unfold gi;rw[List.getD_eq_getElem?_getD,List.getElem?_eq_getElem h];exact List.getElem_mem h
theorem xG{l:List Int}{top:Int}{i:Nat}(h:i<l.length)(hb:bad top (gi l i)=true):l.any (bad top)=true:=List.any_eq_true.2 ⟨_,Gb h,hb⟩
theorem xH{l:List Int}{top:Int}(h:∀i,i<l.length->bad top (gi l i)=false):l.any (bad top)=false:=by
 refine Bool.eq_false_iff.2 fun e=>?_;obtain⟨x,hx,hb⟩:=List.any_eq_true.1 e;obtain⟨i,hi,rfl⟩:=List.mem_iff_getElem.1 hx;have:=h i hi;unfold gi at this
 rw[List.getD_eq_getElem?_getD,List.getElem?_eq_getElem hi]at this;rw[show(some l[i]).getD 0=l[i]from rfl,hb]at this;cases this
theorem Fc(ao:Option Addr)(l:List Int)(cap:Nat)(top:Int)(p:Addr)(w:World)(hx:Nd w ao l)(hc:w.cell? p=some (.int .i64 top))(hp:p.block<w.heap.size)(hl:l.length<=1048576):
  Calls prog 205 #[.slice ao l.length cap,.func (.func 137) #[] #[.pointer (some p)]] w fun e w'=>mP l top e/\Below w.heap.size w w':=by
 have C:Hid (∀(x:Int) (w0:World),Below w.heap.size w w0->Qx 137 #[.int .i64 x,.pointer (some p)] w0 (.bool (bad top x))):=fun x w0 hb=>E7 x top p w0 ((hb.cell hp).trans hc)
 clear hc;go_enter func205,ntmps205;go_wp2
 go_loopw [8] (fun i wr=>∃k:Nat,k<=l.length/\i=.int .i64 k/\Hid (∀j,j<k->bad top (gi l j)=false)/\Hid (Below w.heap.size w wr)) (fun i _=>l.length-(intOf i).toNat)
 case atStart=>exact⟨0,by omega,rfl,fun j hj=>absurd hj (by omega),Below.refl _ _⟩
 case round=>
  obtain⟨k,hk,rfl,H,hw⟩:=hrel;by_cases hlt:k<l.length
  .obtain⟨b,off,rfl,hb,hcc⟩:=hx (by omega);have e1:=(hw.out.cell (p:=⟨b,off+k,none⟩) hb).trans (hcc k hlt);have hlt3:(k:Int)<(l.length:Int):=by omega
   clear hcc;have C1:=ac (C.out (gi l k) wr hw.out);cases hv:bad top (gi l k)with
   | true=>
    have HA:=ac (xG hlt hv);rw[hv]at C1;go_wp2_with fail;refine(C1.out).mono ?_;rintro e w1 ⟨rfl,rfl⟩;go_wp2;go_ret;exact⟨mP.mk _ rfl (by rw[HA.out];simp),hw.out⟩
   | false=>
    rw[hv]at C1
    have HN:Hid (∀j,j<k+1->bad top (gi l j)=false):=fun j hj=>by
     by_cases e:j=k
     .subst e;exact hv
     .exact H.out j (by omega)
    clear H hv;go_wp2_with fail;refine(C1.out).mono ?_;rintro e w1 ⟨rfl,rfl⟩;go_wp2;exact⟨⟨k+1,by omega,by go_num,HN,hw⟩,by simp only[intOf];omega⟩
  .have HA:=ac (xH (l:=l) (top:=top) fun i hi=>H.out i (by omega));go_wp2;go_ret;exact⟨mP.mk _ rfl (by rw[HA.out];rfl),hw.out⟩
theorem Fe(ao:Option Addr)(l:List Int)(cap:Nat)(top:Int)(p:Addr)(w:World)(hx:Nd w ao l)(hc:w.cell? p=some (.int .i64 top))(hp:p.block<w.heap.size)(hl:l.length<=1048576):
  Qq 138 #[.slice ao l.length cap,.func (.func 137) #[] #[.pointer (some p)]] w (.bool (l.any (bad top))):=by
 have C:=ac (Fc ao l cap top p w hx hc hp hl);clear hx hc;go_enter func138,ntmps138;go_wp2_with fail;refine(C.out).mono ?_;rintro e w1 ⟨⟨k,rfl,hk⟩,hb⟩;have HK:=ac hk;clear hk;go_wp2;go_ret
 exact⟨i_ HK.out,hb⟩
def cY(l:List Int)(top:Int):Bool:=decide (l.length=256)&&!l.any (bad top)
theorem qz(ao:Option Addr)(l:List Int)(cap:Nat)(top:Int)(w:World)(hx:Nd w ao l)(hl:l.length<=1048576):
  Qq 78 #[.slice ao l.length cap,.int .i64 top] w (.bool (cY l top)):=by
 have W0:aa (w.alloc (.cells #[.int .i64 top] 3)) w.heap.size [.int .i64 top] 3:=aa.new w _ _;by_cases h:l.length=256
 .have C:=ac (Fe ao l cap top ⟨w.heap.size,0,none⟩ (w.alloc (.cells #[.int .i64 top] 3)) (hx.keep (below_alloc w _)) (W0.cell 0 rfl) W0.lt hl)
  have R:Hid (cY l top=!l.any (bad top)):=by show cY l top=_;unfold cY;simp[h]
  have h2:((l.length:Int)==256)=true:=by simp;omega
  have hb0:=ac (below_alloc w (.cells #[.int .i64 top] 3));clear h hx W0;generalize l.any (bad top)=v at *;go_enter func78,ntmps78;go_wp2_with fail;refine mr (C.out) fun w1 hb=>?_
  have HB:=ac (hb0.out.trans (hb.mono (by simp)));clear hb;go_wp2;go_ret;rw[R.out];exact⟨rfl,HB.out⟩
 .have R:Hid (cY l top=false):=by show cY l top=_;unfold cY;simp[h]
  have h2:((l.length:Int)==256)=false:=by simp;omega
  clear h hx W0;go_enter func78,ntmps78;go_wp2;go_ret;rw[R.out];exact⟨rfl,below_alloc w _⟩
open Go.RowKit Num Bit Ji Hp
theorem yk(cnt:Nat->Nat)(k:Nat):(used cnt k).Pairwise (·<·):=List.Pairwise.filter _ List.pairwise_lt_range
theorem Ew(u:List Nat)(cnt:Nat->Nat)(h:u.Pairwise (·<·)):∀p q,p<q->q<u.length->Sx.Cr cT aC (laidL u cnt p) (laidL u cnt q):=by
 intro p q h1 h2;refine Hh _ _ ?_;unfold laidL;rw[if_pos (by omega),if_pos h2];show u.getD p 0<u.getD q 0;have:=List.pairwise_iff_getElem.1 h p q (by omega) h2 h1
 rw[List.getD_eq_getElem?_getD,List.getD_eq_getElem?_getD,List.getElem?_eq_getElem (by omega),List.getElem?_eq_getElem h2];exact this
def ay(l:List Int)(c:Nat):Nat:=(gi l c).toNat
def xL(g:Nat)(w:World)(ao:Option Addr)(l:List Int):Prop:=∃b off,ao=some ⟨b,off,none⟩/\b<g/\b<w.heap.size/\∀i,i<l.length->w.cell? ⟨b,off+i,none⟩=some (.int .i64 (gi l i))
theorem E_(g:Nat)(ao:Option Addr)(l:List Int)(cap:Nat)(w:World)(hT:TH w g (fun _=>jI))(hl:l.length=256)(hb:∀i,i<l.length->0<=gi l i/\gi l i<=1048576)(hN:xL g w ao l):
  Calls prog 79 #[.pointer (some ⟨g,0,none⟩),.slice ao l.length cap] w fun e w'=>e=.returned (.int .i64 ((used (ay l) 256).length:Nat))/\SO g w (fun f'=>dQ (ay l) (used (ay l) 256).length f') w':=by
 obtain⟨cnt,hcnt⟩:∃cnt,Hid (cnt=ay l):=⟨_,rfl⟩
 have HT:Hid (TH w g (laidL (used cnt 0) cnt)):=by
  show TH w g (laidL [] cnt);rw[Ev];exact hT
 have HC:Hid (∀i,i<l.length->gi l i=(cnt i:Int)/\cnt i<=1048576):=fun i hi=>by
  have:=hb i hi;rw[hcnt.out];unfold ay;omega
 rw[<-hcnt.out];obtain⟨b,off,rfl,hbg,hbw,hcc⟩:=hN;have HCC:=ac hcc
 have CS:Hid (∀(L:Nat) (w0:World),L=(used cnt 256).length->TH w0 g (laidL (used cnt 256) cnt)->Calls prog 139 #[.slice (some ⟨g,0,none⟩) L 511,.func (.func 140) #[] #[]] w0 fun e w'=>e=.returned (.tuple #[])/\SO g w0 (fun f'=>Sx.Im 0 L (laidL (used cnt 256) cnt) f'/\Sx.Up aC 0 L f') w'):=fun L w0 e hF=>by
  subst e;exact E4 g _ 511 _ w0 hF (by have:=jG cnt 256;omega) (Ew _ cnt (yk cnt 256))
 have HL:=ac hl;have l256:l.length<=256:=by omega
 clear hT hcc hb hl hcnt;go_enter func79,ntmps79;go_wp2
 go_loopw [5,10] (fun vn vi wr=>∃(q n:Nat),q<=l.length/\n<=q/\vi=.int .i64 q/\vn=.int .i64 n/\Hid (n=(used cnt q).length)/\Hid (TH wr g (laidL (used cnt q) cnt))/\Hid (au g w wr)) (fun _ vi _=>l.length-(intOf vi).toNat)
 case atStart=>exact⟨0,0,by omega,by omega,rfl,rfl,rfl,HT,au.refl _ _⟩
 case round=>
  obtain⟨q,n,hq,hnq,rfl,rfl,Hn,HH,HB⟩:=hrel;clear HT;by_cases hlt:q<l.length
  .have hltz:(q:Int)<(l.length:Int):=by omega
   obtain⟨hv,hv2⟩:=HC.out q hlt
   have c1:wr.cell? ⟨b,off+q,none⟩=some (.int .i64 (cnt q:Nat)):=by
    rw[<-hv];exact((HB.out.below (base:=min g w.heap.size) (by omega) (by omega)).cell (p:=⟨b,off+q,none⟩) (by show b<_;omega)).trans (HCC.out q hlt)
   have n511:(n:Int)<511:=by omega
   by_cases hp:0<cnt q
   .have hpz:(0:Int)<(cnt q:Int):=by omega
    have HS:Hid (bh (laidL (used cnt q) cnt) n (jH cnt q)=laidL (used cnt (q+1)) cnt/\n+1=(used cnt (q+1)).length):=by
     have e:=Hn.out;rw[Hv.used_succ,if_pos hp,e];exact⟨Eu _ _ _,by simp⟩
    have HH0:=HH.out;clear hv;go_wp2_with (refine xV g _ n _ (jH cnt q) (by omega) ?e rfl rfl HH0 ?_)
    case e=>omega
    intro w1 hT1 hB1;rw[HS.out.1]at hT1;have HT1:=ac hT1;have HB1:=ac (HB.out.trans hB1);clear hT1 hB1 HH0 HH HB c1;go_wp2
    exact⟨⟨q+1,n+1,by omega,by omega,by go_num,by go_num,HS.out.2,HT1,HB1⟩,by simp only[intOf];omega⟩
   .have hpz:¬(0:Int)<(cnt q:Int):=by omega
    have HS:Hid (laidL (used cnt q) cnt=laidL (used cnt (q+1)) cnt/\n=(used cnt (q+1)).length):=by
     have e:=Hn.out;rw[Hv.used_succ,if_neg hp,List.append_nil,<-e];exact⟨rfl,rfl⟩
    have HH0:Hid (TH wr g (laidL (used cnt (q+1)) cnt)):=by show TH wr g _;rw[<-HS.out.1];exact HH.out
    clear hv HH;go_wp2;exact⟨⟨q+1,n,by omega,by omega,by go_num,rfl,HS.out.2,HH0,HB⟩,by simp only[intOf];omega⟩
  .obtain rfl:q=l.length:=by omega
   have HH1:Hid (TH wr g (laidL (used cnt 256) cnt)):=by rw[HL.out]at HH;exact HH
   have Hn1:Hid (n=(used cnt 256).length):=by rw[HL.out]at Hn;exact Hn
   have n511:(n:Int)<=511:=by omega
   clear HH Hn HL HCC HC hlt hq;go_wp2_with fail;refine(CS.out n _ Hn1.out HH1.out).mono ?_;rintro e w1 ⟨rfl,f',hT',hP,hB⟩;have HT1:=ac hT';have HB1:=ac (HB.out.trans hB)
   have HP:Hid (dQ cnt n f'):=⟨Hn1.out,hP.1,hP.2⟩;clear hT' hB hP;go_wp2;go_ret;rw[<-Hn1.out];exact⟨rfl,SO.mk _ HT1.out HP.out HB1.out⟩
end Go.Proofs.YtleegaihbgbcjaaGreatDoor
namespace Go.Proofs.YtleegaihbgbcjaaGreatDoor
open Go.RowKit Num Bit Ji
structure fA (g h:Nat) (w w':World):Prop where
 os:w'.os=w.os
 tape:w'.tape=w.tape
 output:w'.output=w.output
 size:w'.heap.size=w.heap.size
 block:∀k,k≠g->k≠h->w'.heap[k]?=w.heap[k]?
theorem fA.of1{g h:Nat}{w w':World}(o:aw g w w'):fA g h w w':=⟨o.os,o.tape,o.output,o.size,fun k h1 _=>o.block k h1⟩
theorem fA.of2{g h:Nat}{w w':World}(o:aw h w w'):fA g h w w':=⟨o.os,o.tape,o.output,o.size,fun k _ h2=>o.block k h2⟩
theorem fA.cel{g h b:Nat}{w w':World}{cs:List Value}{T:TypeId}(t:fA g h w w')(hc:aa w b cs T)(h1:b≠g)(h2:b≠h):aa w' b cs T:=(t.block b h1 h2).trans hc
theorem aw.drewN(g:Nat)(w:World):∀n,aw g w (w.drewN n)
 | 0=>aw.refl g w
 | n+1=>by
  have h:=aw.drewN g w n;exact⟨h.os,h.tape,h.output,h.size,h.block⟩
def LP(g gm gs n:Nat)(f:Nat->T4)(s m e:Nat)(w:World)(ret:Ending)(w':World):Prop:=
 ∃a s' m',ret=.returned (.int .i64 (a:Nat))/\gB n f s m e a s' m'/\aa w' gm [.int .i64 (m':Nat)] 3/\aa w' gs [.int .i64 (s':Nat)] 3/\fA gm gs w w'
theorem LP.mk{g gm gs n:Nat}{f:Nat->T4}{s m e:Nat}{w:World}{ret:Ending}{w':World}(a s' m':Nat)(h:ret=.returned (.int .i64 a))(h2:gB n f s m e a s' m')(h3:aa w' gm [.int .i64 m'] 3)(h4:aa w' gs [.int .i64 s'] 3)(h5:fA gm gs w w'):LP g gm gs n f s m e w ret w':=⟨a,s',m',h,h2,h3,h4,h5⟩
theorem vx(g gm ge gs gn ga n s m e:Nat)(f:Nat->T4)(w:World)(hT:TH w g f)(cm:aa w gm [.int .i64 m] 3)(ce:aa w ge [.int .i64 e] 3)(cs:aa w gs [.int .i64 s] 3)(cn:aa w gn [.int .i64 n] 3)(ca:aa w ga [.pointer (some ⟨g,0,none⟩)] 197)
  (hms:gm≠gs) (h1:s<=n) (h2:n<=m) (h3:m<=e) (h4:e<=510) (h5:s<n\/m<e):
  Calls prog 141 #[.pointer (some ⟨gm,0,none⟩),.pointer (some ⟨ge,0,none⟩),.pointer (some ⟨gs,0,none⟩),.pointer (some ⟨gn,0,none⟩),.pointer (some ⟨ga,0,none⟩)] w fun ret w'=>LP g gm gs n f s m e w ret w':=by
 have c0:=cm.cell 0 rfl;have c1:=ce.cell 0 rfl;have c2:=cs.cell 0 rfl;have c3:=cn.cell 0 rfl;have c4:=ca.cell 0 rfl;have fs:=cs.frozen 0;have fm:=cm.frozen 0;have HM:=ac cm;have HS:=ac cs;clear cm ce cs cn ca
 by_cases hme:m=e
 .have b1:((m:Int)==(e:Int))=true:=by simp[hme]
  have HP:Hid (gB n f s m e s (s+1) m):=.inl ⟨rfl,by omega,rfl,rfl,.inl hme⟩;clear hme;go_enter func141,ntmps141;go_wp2;go_quiet (fail);go_wp2;go_ret
  refine LP.mk s (s+1) m (cD (by go_num)) HP.out ?_ ?_ ?_
  .exact aa.other (w:=w.drewN _) HM.out hms _
  .exact aa.set (w:=w.drewN _) HS.out 0 _
  .exact fA.of2 ((aw.drewN gs w _).set 0 _)
 .have b1:((m:Int)==(e:Int))=false:=by simp;omega
  have m511:(m:Int)<511:=by omega
  have m511':m<511:=by omega
  have d1:=hT.c1 m (by omega);by_cases hsn:s<n
  .have b2:(s:Int)<(n:Int):=by omega
   have s511:(s:Int)<511:=by omega
   have d2:=hT.c1 s (by omega);by_cases hct:(f s).ct<=(f m).ct
   .have b3:((f s).ct:Int)<=((f m).ct:Int):=by omega
    have HP:Hid (gB n f s m e s (s+1) m):=.inl ⟨rfl,hsn,rfl,rfl,.inr hct⟩;generalize (f s).ct=X at *;generalize (f m).ct=Y at *;go_enter func141,ntmps141;go_wp2;go_quiet (fail);go_wp2;go_ret
    refine LP.mk s (s+1) m (cD (by go_num)) HP.out ?_ ?_ ?_
    .exact aa.other (w:=w.drewN _) HM.out hms _
    .exact aa.set (w:=w.drewN _) HS.out 0 _
    .exact fA.of2 ((aw.drewN gs w _).set 0 _)
   .have b3:¬((f s).ct:Int)<=((f m).ct:Int):=by omega
    have HP:Hid (gB n f s m e m s (m+1)):=.inr ⟨rfl,by omega,rfl,rfl,fun c=>hct c.2⟩;generalize (f s).ct=X at *;generalize (f m).ct=Y at *;go_enter func141,ntmps141;go_wp2;go_quiet (fail);go_wp2
    go_ret;refine LP.mk m s (m+1) (cD (by go_num)) HP.out ?_ ?_ ?_
    .exact aa.set (w:=w.drewN _) HM.out 0 _
    .exact aa.other (w:=w.drewN _) HS.out (Ne.symm hms) _
    .exact fA.of1 ((aw.drewN gm w _).set 0 _)
  .have b2:¬(s:Int)<(n:Int):=by omega
   have HP:Hid (gB n f s m e m s (m+1)):=.inr ⟨rfl,by omega,rfl,rfl,fun c=>hsn c.1⟩;go_enter func141,ntmps141;go_wp2;go_quiet (fail);go_wp2;go_ret
   refine LP.mk m s (m+1) (cD (by go_num)) HP.out ?_ ?_ ?_
   .exact aa.set (w:=w.drewN _) HM.out 0 _
   .exact aa.other (w:=w.drewN _) HS.out (Ne.symm hms) _
   .exact fA.of1 ((aw.drewN gm w _).set 0 _)
open Go.RowKit Num Bit Ji Hp Ho
section
variable {P:Program} {ops:Array Oper} {Q:Exit->Act->World->Prop} {md:Region.Mode} {S:World->Prop} {ns:List Nat}
theorem aq.three(i j k:Nat){o p q:Oper}{f:Nat}{l:Array Bool}{a:Act}{w:World}(hr:Region.ready md ops l=[i,j,k])(ho:ops[i]?=some o)(hp:ops[j]?=some p)(hq:ops[k]?=some q)
  (h:∀K:Act->World->Prop,Shut (∀a' w',(i ∉ ns->S w')->aq P md ops Q S ns f (l.setIfInBounds i true) a' w'->K a' w')->if Region.wanted o (yielded ops a.tmps)=true then Oper.wp P o a w K Q else K (a.put o.dst undef) w)
  (h2:∀K:Act->World->Prop,Shut (∀a' w',(j ∉ ns->S w')->aq P md ops Q S ns f (l.setIfInBounds j true) a' w'->K a' w')->if Region.wanted p (yielded ops a.tmps)=true then Oper.wp P p a w K Q else K (a.put p.dst undef) w)
  (h3:∀K:Act->World->Prop,Shut (∀a' w',(k ∉ ns->S w')->aq P md ops Q S ns f (l.setIfInBounds k true) a' w'->K a' w')->if Region.wanted q (yielded ops a.tmps)=true then Oper.wp P q a w K Q else K (a.put q.dst undef) w):
  aq P md ops Q S ns (f+1) l a w:=by
 refine⟨fun h0=>absurd (hr.symm.trans h0) (by simp),fun x hx=>?_⟩;rw[hr]at hx;rcases List.mem_cons.1 hx with rfl | hx
 .exact wpOp_step ho (fun K hK=>h K (fun a' w' hS hW=>hK a' w' ⟨fun n _=>hS n,hW⟩))
 .rcases List.mem_cons.1 hx with rfl | hx
  .exact wpOp_step hp (fun K hK=>h2 K (fun a' w' hS hW=>hK a' w' ⟨fun n _=>hS n,hW⟩))
  .obtain rfl:=List.mem_singleton.1 hx;exact wpOp_step hq (fun K hK=>h3 K (fun a' w' hS hW=>hK a' w' ⟨fun n _=>hS n,hW⟩))
end
def JP(n:Nat)(cnt:Nat->Nat)(f f':Nat->T4):Prop:=(n<=1/\f'=f)\/(2<=n/\(∀k,k<n->(f' k).sy=(f k).sy)/\∃S hh,lj n (run 256 256 (things cnt 256) (fun _=>0)) f' S hh)
structure JB (g gn ga gs gm ge n s m e:Nat) (F:Nat->T4) (w wx:World):Prop where
 th:TH wx g F
 cs:aa wx gs [.int .i64 s] 3
 cm:aa wx gm [.int .i64 m] 3
 ce:aa wx ge [.int .i64 e] 3
 cn:aa wx gn [.int .i64 n] 3
 ca:aa wx ga [.pointer (some ⟨g,0,none⟩)] 197
 lo:g<w.heap.size/\w.heap.size<=gn/\w.heap.size<=ga/\w.heap.size<=gs/\w.heap.size<=gm/\w.heap.size<=ge
 dif:gs≠gm/\gs≠ge/\gm≠ge/\gn≠gs/\gn≠gm/\gn≠ge/\ga≠gs/\ga≠gm/\ga≠ge/\ga≠gn
 bar:au g w wx
def QJ(g gn ga n:Nat)(F:Nat->T4)(w:World)(v4 v5 v6:Value)(wx:World):Prop:=∃gs gm ge,v4=.pointer (some ⟨gs,0,none⟩)/\v5=.pointer (some ⟨gm,0,none⟩)/\v6=.pointer (some ⟨ge,0,none⟩)/\JB g gn ga gs gm ge n 0 n n F w wx
theorem JB.two{g gn ga gs gm ge n s m e s1 m1:Nat}{F:Nat->T4}{w wx w1:World}(J:JB g gn ga gs gm ge n s m e F w wx)(cm:aa w1 gm [.int .i64 m1] 3)(cs:aa w1 gs [.int .i64 s1] 3)(t:fA gm gs wx w1):JB g gn ga gs gm ge n s1 m1 e F w w1:=by
 have hl:=J.lo;have hd:=J.dif
 exact⟨(t.block g (by omega) (by omega)).trans J.th,cs,cm,t.cel J.ce (by omega) (by omega),t.cel J.cn (by omega) (by omega),t.cel J.ca (by omega) (by omega),hl,hd,⟨t.os.trans J.bar.os,t.tape.trans J.bar.tape,t.output.trans J.bar.output,by rw[t.size];exact J.bar.size,fun k hk hne=>(t.block k (by omega) (by omega)).trans (J.bar.block k hk hne)⟩⟩
theorem JB.set{g gn ga gs gm ge n s m e:Nat}{F F':Nat->T4}{w wx w1:World}(J:JB g gn ga gs gm ge n s m e F w wx)(h:TH w1 g F')(o:au g wx w1):JB g gn ga gs gm ge n s m e F' w w1:=by
 have hl:=J.lo;exact⟨h,o.cel J.cs (by omega),o.cel J.cm (by omega),o.cel J.ce (by omega),o.cel J.cn (by omega),o.cel J.ca (by omega),hl,J.dif,J.bar.trans o⟩
theorem JB.end{g gn ga gs gm ge n s m e e':Nat}{F:Nat->T4}{w wx w1:World}(J:JB g gn ga gs gm ge n s m e F w wx)(h:aa w1 ge [.int .i64 e'] 3)(o:aw ge wx w1):JB g gn ga gs gm ge n s m e' F w w1:=by
 have hl:=J.lo;have hd:=J.dif
 exact⟨(o.block g (by omega)).trans J.th,o.cel J.cs (by omega),o.cel J.cm (by omega),h,o.cel J.cn (by omega),o.cel J.ca (by omega),hl,hd,⟨o.os.trans J.bar.os,o.tape.trans J.bar.tape,o.output.trans J.bar.output,by rw[o.size];exact J.bar.size,fun k hk hne=>(o.block k (by omega)).trans (J.bar.block k hk hne)⟩⟩
theorem ue{n:Nat}{f:Nat->T4}{s m e a s' m':Nat}(h:gB n f s m e a s' m')(h1:s<=n)(h2:n<=m)(h3:m<=e):s'<=n/\n<=m'/\m'<=e/\(n-s')+(e-m')+1=(n-s)+(e-m)/\a<=e/\(a<n\/a<e):=by
 rcases h with⟨rfl,g1,rfl,rfl,g2⟩ | ⟨rfl,g1,rfl,rfl,g2⟩<;>omega
theorem Hg{n:Nat}{D:Nat->Nat}{f:Nat->T4}{s m e r:Nat}{S:Nat->List Nat}{hh:Nat->Nat->Nat}{d:Nat->Nat}{Y a s1 m1 b s2 m2:Nat}(J:JS n D f s m e r S hh d Y)(P1:gB n f s m e a s1 m1)(P2:gB n f s1 m1 e b s2 m2):(f a).ct+(f b).ct<=268435456:=by
 obtain⟨_,a2,a3,_,_,_⟩:=kh (S:=S) J.O J.dif P1;obtain⟨_,b2,_,_,_,_⟩:=kh (S:=S) a3 J.dif P2;have P:=a2.trans (List.Perm.cons _ b2);have e:=(P.map Hn.Tg.wt).sum_nat;have:=J.sum
 unfold bL at this;rw[e]at this;simp only[List.map_cons,List.sum_cons]at this;have x1:(tgo n f S a).wt=(f a).ct:=rfl;have x2:(tgo n f S b).wt=(f b).ct:=rfl;omega
theorem mT(F:Nat->T4)(a k v:Nat):(bh F a { F a with it:=v } k).ct=(F k).ct:=by
 unfold bh;split
 .rename_i h;rw[h]
 .rfl
theorem Fa(g n:Nat)(cnt:Nat->Nat)(f:Nat->T4)(w:World)(hT:TH w g f)(hS:dQ cnt n f)(hB:∀c,cnt c<=1048576):
  Calls prog 80 #[.pointer (some ⟨g,0,none⟩),.int .i64 n] w fun e w'=>e=.returned (.tuple #[])/\SO g w (fun f'=>JP n cnt f f') w':=by
 have n256:n<=256:=by rw[hS.nu];exact jG cnt 256
 have HJ0:Hid (n=0\/∃S hh d Y,JS n (run 256 256 (things cnt 256) (fun _=>0)) f 0 n n 0 S hh d Y):=by
  by_cases c:n=0
  .exact .inl c
  .exact .inr ⟨_,_,_,_,E5 hB hS (by omega)⟩
 obtain⟨W,hW⟩:∃W,W=(w.alloc (.cells #[.pointer (some ⟨g,0,none⟩)] 197)).alloc (.cells #[.int .i64 n] 3):=⟨_,rfl⟩;have bW:=cW hW;have zW:Hid (W.heap.size=w.heap.size+2):=by show _=_;rw[hW];simp
 have B1:=eU hW;have B2:=dE hW;have hg:=hT.lt;have HT:=ac (hT.kept bW);have HB:=ac bW;clear hT bW hS;go_enter func80,ntmps80;go_upto_region 1 with fail
 rw[<-hW];go_cut [4,5,6] (fun v4 v5 v6 wx=>QJ g (w.heap.size+1) w.heap.size n f w v4 v5 v6 wx)
 case first=>
  refine aB [] (fun w'=>aa w' (w.heap.size+1) [.int .i64 n] 3) (by kernel_rfl) ?_
  have hS:aa W.drew (w.heap.size+1) [.int .i64 n] 3:=B2;have bY:Below W.heap.size W W.drew:=(Below.refl _ _).drew;have zY:Hid (W.drew.heap.size=W.heap.size):=rfl;generalize W.drew=Y at *;clear hW HJ0 hB
  refine aF 0 hS rfl (fun w0 h0=>by have k0:=h0.cell 0 rfl;go_simp;try with_reducible rfl) ?_;refine aF 1 hS rfl (fun w0 h0=>by have k0:=h0.cell 0 rfl;go_simp;try with_reducible rfl) ?_
  refine aq.three 2 3 4 (by kernel_rfl) rfl rfl rfl ?_ ?_ ?_
  .intro K hK;go_simp;refine hK.out _ _ (fun _=>hS.alloc _) ?_;clear hK K;try simp only[Act.put,ak,aj,ai,ae,ah,ag]
   have C2:aa (Y.alloc (.cells #[.int .i64 0] 3)) Y.heap.size [.int .i64 0] 3:=aa.new _ _ _;have zY1:Hid ((Y.alloc (.cells #[.int .i64 0] 3)).heap.size=Y.heap.size+1):=by show _=_;simp
   have bY1:=bY.alloc (by have e0:=zW.out;have e1:=zY.out;omega) (.cells #[.int .i64 0] 3);replace hS:=hS.alloc (.cells #[.int .i64 0] 3);generalize Y.alloc (.cells #[.int .i64 0] 3)=Y1 at *
   refine aq.two 3 4 (by kernel_rfl) rfl rfl ?_ ?_
   .intro K hK;go_simp;refine hK.out _ _ (fun _=>hS.alloc _) ?_;clear hK K;try simp only[Act.put,ak,aj,ai,ae,ah,ag]
    replace C2:=C2.alloc (.cells #[.int .i64 0] 3);have C3:aa (Y1.alloc (.cells #[.int .i64 0] 3)) Y1.heap.size [.int .i64 0] 3:=aa.new _ _ _
    have zY2:Hid ((Y1.alloc (.cells #[.int .i64 0] 3)).heap.size=Y1.heap.size+1):=by show _=_;simp
    have bY2:=bY1.alloc (by have e0:=zW.out;have e1:=zY.out;have e2:=zY1.out;omega) (.cells #[.int .i64 0] 3);replace hS:=hS.alloc (.cells #[.int .i64 0] 3);generalize Y1.alloc (.cells #[.int .i64 0] 3)=Y2 at *
    refine aO 4 ?_;intro K hK;go_simp;refine hK.out _ _ (fun _=>hS.alloc _) ?_;clear hK K;try simp only[Act.put,ak,aj,ai,ae,ah,ag]
    replace C2:=C2.alloc (.cells #[.int .i64 0] 3);replace C3:=C3.alloc (.cells #[.int .i64 0] 3);have C4:aa (Y2.alloc (.cells #[.int .i64 0] 3)) Y2.heap.size [.int .i64 0] 3:=aa.new _ _ _
    have zY3:Hid ((Y2.alloc (.cells #[.int .i64 0] 3)).heap.size=Y2.heap.size+1):=by show _=_;simp
    have bY3:=bY2.alloc (by have e0:=zW.out;have e1:=zY.out;have e2:=zY1.out;have e3:=zY2.out;omega) (.cells #[.int .i64 0] 3);replace hS:=hS.alloc (.cells #[.int .i64 0] 3)
    generalize Y2.alloc (.cells #[.int .i64 0] 3)=Y3 at *;refine aO 5 ?_;intro K hK;have n0:=C2.cell 0 rfl;have f0:=C2.frozen 0;go_simp
    refine hK.out _ _ (fun _=>hS.other (by show w.heap.size+1≠Y.heap.size;have:=zW.out;have:=zY.out;have:=zY1.out;have:=zY2.out;have:=zY3.out;omega) _) ?_;clear hK K n0 f0
    try simp only[Act.put,ak,aj,ai,ae,ah,ag]
    replace hS:=hS.other (a:=⟨Y.heap.size,0,none⟩) (by show w.heap.size+1≠Y.heap.size;have:=zW.out;have:=zY.out;have:=zY1.out;have:=zY2.out;have:=zY3.out;omega) (.int .i64 0)
    replace C3:=C3.other (a:=⟨Y.heap.size,0,none⟩) (by show Y1.heap.size≠Y.heap.size;have:=zW.out;have:=zY.out;have:=zY1.out;have:=zY2.out;have:=zY3.out;omega) (.int .i64 0)
    replace C4:=C4.other (a:=⟨Y.heap.size,0,none⟩) (by show Y2.heap.size≠Y.heap.size;have:=zW.out;have:=zY.out;have:=zY1.out;have:=zY2.out;have:=zY3.out;omega) (.int .i64 0)
    replace C2:aa (Y3.setCell ⟨Y.heap.size,0,none⟩ (.int .i64 0)) Y.heap.size [(.int .i64 0)] 3:=C2.set 0 (.int .i64 0)
    have bY4:Below W.heap.size W (Y3.setCell ⟨Y.heap.size,0,none⟩ (.int .i64 0)):=bY3.setCell (by show W.heap.size<=Y.heap.size;have:=zW.out;have:=zY.out;have:=zY1.out;have:=zY2.out;have:=zY3.out;omega) (.int .i64 0)
    generalize (Y3.setCell ⟨Y.heap.size,0,none⟩ (.int .i64 0))=Y4 at *;refine aO 6 ?_;intro K hK;have n0:=C3.cell 0 rfl;have f0:=C3.frozen 0;go_simp
    refine hK.out _ _ (fun _=>hS.other (by show w.heap.size+1≠Y1.heap.size;have:=zW.out;have:=zY.out;have:=zY1.out;have:=zY2.out;have:=zY3.out;omega) _) ?_;clear hK K n0 f0
    try simp only[Act.put,ak,aj,ai,ae,ah,ag]
    replace hS:=hS.other (a:=⟨Y1.heap.size,0,none⟩) (by show w.heap.size+1≠Y1.heap.size;have:=zW.out;have:=zY.out;have:=zY1.out;have:=zY2.out;have:=zY3.out;omega) (.int .i64 n)
    replace C2:=C2.other (a:=⟨Y1.heap.size,0,none⟩) (by show Y.heap.size≠Y1.heap.size;have:=zW.out;have:=zY.out;have:=zY1.out;have:=zY2.out;have:=zY3.out;omega) (.int .i64 n)
    replace C4:=C4.other (a:=⟨Y1.heap.size,0,none⟩) (by show Y2.heap.size≠Y1.heap.size;have:=zW.out;have:=zY.out;have:=zY1.out;have:=zY2.out;have:=zY3.out;omega) (.int .i64 n)
    replace C3:aa (Y4.setCell ⟨Y1.heap.size,0,none⟩ (.int .i64 n)) Y1.heap.size [(.int .i64 n)] 3:=C3.set 0 (.int .i64 n)
    have bY5:Below W.heap.size W (Y4.setCell ⟨Y1.heap.size,0,none⟩ (.int .i64 n)):=bY4.setCell (by show W.heap.size<=Y1.heap.size;have:=zW.out;have:=zY.out;have:=zY1.out;have:=zY2.out;have:=zY3.out;omega) (.int .i64 n)
    generalize (Y4.setCell ⟨Y1.heap.size,0,none⟩ (.int .i64 n))=Y5 at *;refine aO 7 ?_;intro K hK;have n0:=C4.cell 0 rfl;have f0:=C4.frozen 0;go_simp
    refine hK.out _ _ (fun _=>hS.other (by show w.heap.size+1≠Y2.heap.size;have:=zW.out;have:=zY.out;have:=zY1.out;have:=zY2.out;have:=zY3.out;omega) _) ?_;clear hK K n0 f0
    try simp only[Act.put,ak,aj,ai,ae,ah,ag]
    replace hS:=hS.other (a:=⟨Y2.heap.size,0,none⟩) (by show w.heap.size+1≠Y2.heap.size;have:=zW.out;have:=zY.out;have:=zY1.out;have:=zY2.out;have:=zY3.out;omega) (.int .i64 n)
    replace C2:=C2.other (a:=⟨Y2.heap.size,0,none⟩) (by show Y.heap.size≠Y2.heap.size;have:=zW.out;have:=zY.out;have:=zY1.out;have:=zY2.out;have:=zY3.out;omega) (.int .i64 n)
    replace C3:=C3.other (a:=⟨Y2.heap.size,0,none⟩) (by show Y1.heap.size≠Y2.heap.size;have:=zW.out;have:=zY.out;have:=zY1.out;have:=zY2.out;have:=zY3.out;omega) (.int .i64 n)
    replace C4:aa (Y5.setCell ⟨Y2.heap.size,0,none⟩ (.int .i64 n)) Y2.heap.size [(.int .i64 n)] 3:=C4.set 0 (.int .i64 n)
    have bY6:Below W.heap.size W (Y5.setCell ⟨Y2.heap.size,0,none⟩ (.int .i64 n)):=bY5.setCell (by show W.heap.size<=Y2.heap.size;have:=zW.out;have:=zY.out;have:=zY1.out;have:=zY2.out;have:=zY3.out;omega) (.int .i64 n)
    generalize (Y5.setCell ⟨Y2.heap.size,0,none⟩ (.int .i64 n))=Y6 at *;refine aq.done (by kernel_rfl) ?_ _
    have HQ:Hid (QJ g (w.heap.size+1) w.heap.size n f w (.pointer (some ⟨Y.heap.size,0,none⟩)) (.pointer (some ⟨Y1.heap.size,0,none⟩)) (.pointer (some ⟨Y2.heap.size,0,none⟩)) Y6):=⟨_,_,_,rfl,rfl,rfl,⟨HT.out.kept bY6,C2,C3,C4,B2.kept bY6,B1.kept bY6,by have:=zW.out;have:=zY.out;have:=zY1.out;have:=zY2.out;have:=zY3.out;omega,by have:=zW.out;have:=zY.out;have:=zY1.out;have:=zY2.out;have:=zY3.out;omega,au.of (HB.out.trans (bY6.mono (by have:=zW.out;have:=zY.out;have:=zY1.out;have:=zY2.out;have:=zY3.out;omega)))⟩⟩
    clear C2 C3 C4 bY bY1 bY2 bY3 bY4 bY5 bY6 hS HB HT B1 B2;go_wp2_with fail;go_meet;exact HQ.out
   .intro K hK;go_simp;refine hK.out _ _ (fun _=>hS.alloc _) ?_;clear hK K;try simp only[Act.put,ak,aj,ai,ae,ah,ag]
    replace C2:=C2.alloc (.cells #[.int .i64 0] 3);have C4:aa (Y1.alloc (.cells #[.int .i64 0] 3)) Y1.heap.size [.int .i64 0] 3:=aa.new _ _ _
    have zY2:Hid ((Y1.alloc (.cells #[.int .i64 0] 3)).heap.size=Y1.heap.size+1):=by show _=_;simp
    have bY2:=bY1.alloc (by have e0:=zW.out;have e1:=zY.out;have e2:=zY1.out;omega) (.cells #[.int .i64 0] 3);replace hS:=hS.alloc (.cells #[.int .i64 0] 3);generalize Y1.alloc (.cells #[.int .i64 0] 3)=Y2 at *
    refine aO 3 ?_;intro K hK;go_simp;refine hK.out _ _ (fun _=>hS.alloc _) ?_;clear hK K;try simp only[Act.put,ak,aj,ai,ae,ah,ag]
    replace C2:=C2.alloc (.cells #[.int .i64 0] 3);replace C4:=C4.alloc (.cells #[.int .i64 0] 3);have C3:aa (Y2.alloc (.cells #[.int .i64 0] 3)) Y2.heap.size [.int .i64 0] 3:=aa.new _ _ _
    have zY3:Hid ((Y2.alloc (.cells #[.int .i64 0] 3)).heap.size=Y2.heap.size+1):=by show _=_;simp
    have bY3:=bY2.alloc (by have e0:=zW.out;have e1:=zY.out;have e2:=zY1.out;have e3:=zY2.out;omega) (.cells #[.int .i64 0] 3);replace hS:=hS.alloc (.cells #[.int .i64 0] 3)
    generalize Y2.alloc (.cells #[.int .i64 0] 3)=Y3 at *;refine aO 5 ?_;intro K hK;have n0:=C2.cell 0 rfl;have f0:=C2.frozen 0;go_simp
    refine hK.out _ _ (fun _=>hS.other (by show w.heap.size+1≠Y.heap.size;have:=zW.out;have:=zY.out;have:=zY1.out;have:=zY2.out;have:=zY3.out;omega) _) ?_;clear hK K n0 f0
    try simp only[Act.put,ak,aj,ai,ae,ah,ag]
    replace hS:=hS.other (a:=⟨Y.heap.size,0,none⟩) (by show w.heap.size+1≠Y.heap.size;have:=zW.out;have:=zY.out;have:=zY1.out;have:=zY2.out;have:=zY3.out;omega) (.int .i64 0)
    replace C3:=C3.other (a:=⟨Y.heap.size,0,none⟩) (by show Y2.heap.size≠Y.heap.size;have:=zW.out;have:=zY.out;have:=zY1.out;have:=zY2.out;have:=zY3.out;omega) (.int .i64 0)
    replace C4:=C4.other (a:=⟨Y.heap.size,0,none⟩) (by show Y1.heap.size≠Y.heap.size;have:=zW.out;have:=zY.out;have:=zY1.out;have:=zY2.out;have:=zY3.out;omega) (.int .i64 0)
    replace C2:aa (Y3.setCell ⟨Y.heap.size,0,none⟩ (.int .i64 0)) Y.heap.size [(.int .i64 0)] 3:=C2.set 0 (.int .i64 0)
    have bY4:Below W.heap.size W (Y3.setCell ⟨Y.heap.size,0,none⟩ (.int .i64 0)):=bY3.setCell (by show W.heap.size<=Y.heap.size;have:=zW.out;have:=zY.out;have:=zY1.out;have:=zY2.out;have:=zY3.out;omega) (.int .i64 0)
    generalize (Y3.setCell ⟨Y.heap.size,0,none⟩ (.int .i64 0))=Y4 at *;refine aO 6 ?_;intro K hK;have n0:=C3.cell 0 rfl;have f0:=C3.frozen 0;go_simp
    refine hK.out _ _ (fun _=>hS.other (by show w.heap.size+1≠Y2.heap.size;have:=zW.out;have:=zY.out;have:=zY1.out;have:=zY2.out;have:=zY3.out;omega) _) ?_;clear hK K n0 f0
    try simp only[Act.put,ak,aj,ai,ae,ah,ag]
    replace hS:=hS.other (a:=⟨Y2.heap.size,0,none⟩) (by show w.heap.size+1≠Y2.heap.size;have:=zW.out;have:=zY.out;have:=zY1.out;have:=zY2.out;have:=zY3.out;omega) (.int .i64 n)
    replace C2:=C2.other (a:=⟨Y2.heap.size,0,none⟩) (by show Y.heap.size≠Y2.heap.size;have:=zW.out;have:=zY.out;have:=zY1.out;have:=zY2.out;have:=zY3.out;omega) (.int .i64 n)
    replace C4:=C4.other (a:=⟨Y2.heap.size,0,none⟩) (by show Y1.heap.size≠Y2.heap.size;have:=zW.out;have:=zY.out;have:=zY1.out;have:=zY2.out;have:=zY3.out;omega) (.int .i64 n)
    replace C3:aa (Y4.setCell ⟨Y2.heap.size,0,none⟩ (.int .i64 n)) Y2.heap.size [(.int .i64 n)] 3:=C3.set 0 (.int .i64 n)
    have bY5:Below W.heap.size W (Y4.setCell ⟨Y2.heap.size,0,none⟩ (.int .i64 n)):=bY4.setCell (by show W.heap.size<=Y2.heap.size;have:=zW.out;have:=zY.out;have:=zY1.out;have:=zY2.out;have:=zY3.out;omega) (.int .i64 n)
    generalize (Y4.setCell ⟨Y2.heap.size,0,none⟩ (.int .i64 n))=Y5 at *;refine aO 7 ?_;intro K hK;have n0:=C4.cell 0 rfl;have f0:=C4.frozen 0;go_simp
    refine hK.out _ _ (fun _=>hS.other (by show w.heap.size+1≠Y1.heap.size;have:=zW.out;have:=zY.out;have:=zY1.out;have:=zY2.out;have:=zY3.out;omega) _) ?_;clear hK K n0 f0
    try simp only[Act.put,ak,aj,ai,ae,ah,ag]
    replace hS:=hS.other (a:=⟨Y1.heap.size,0,none⟩) (by show w.heap.size+1≠Y1.heap.size;have:=zW.out;have:=zY.out;have:=zY1.out;have:=zY2.out;have:=zY3.out;omega) (.int .i64 n)
    replace C2:=C2.other (a:=⟨Y1.heap.size,0,none⟩) (by show Y.heap.size≠Y1.heap.size;have:=zW.out;have:=zY.out;have:=zY1.out;have:=zY2.out;have:=zY3.out;omega) (.int .i64 n)
    replace C3:=C3.other (a:=⟨Y1.heap.size,0,none⟩) (by show Y2.heap.size≠Y1.heap.size;have:=zW.out;have:=zY.out;have:=zY1.out;have:=zY2.out;have:=zY3.out;omega) (.int .i64 n)
    replace C4:aa (Y5.setCell ⟨Y1.heap.size,0,none⟩ (.int .i64 n)) Y1.heap.size [(.int .i64 n)] 3:=C4.set 0 (.int .i64 n)
    have bY6:Below W.heap.size W (Y5.setCell ⟨Y1.heap.size,0,none⟩ (.int .i64 n)):=bY5.setCell (by show W.heap.size<=Y1.heap.size;have:=zW.out;have:=zY.out;have:=zY1.out;have:=zY2.out;have:=zY3.out;omega) (.int .i64 n)
    generalize (Y5.setCell ⟨Y1.heap.size,0,none⟩ (.int .i64 n))=Y6 at *;refine aq.done (by kernel_rfl) ?_ _
    have HQ:Hid (QJ g (w.heap.size+1) w.heap.size n f w (.pointer (some ⟨Y.heap.size,0,none⟩)) (.pointer (some ⟨Y2.heap.size,0,none⟩)) (.pointer (some ⟨Y1.heap.size,0,none⟩)) Y6):=⟨_,_,_,rfl,rfl,rfl,⟨HT.out.kept bY6,C2,C3,C4,B2.kept bY6,B1.kept bY6,by have:=zW.out;have:=zY.out;have:=zY1.out;have:=zY2.out;have:=zY3.out;omega,by have:=zW.out;have:=zY.out;have:=zY1.out;have:=zY2.out;have:=zY3.out;omega,au.of (HB.out.trans (bY6.mono (by have:=zW.out;have:=zY.out;have:=zY1.out;have:=zY2.out;have:=zY3.out;omega)))⟩⟩
    clear C2 C3 C4 bY bY1 bY2 bY3 bY4 bY5 bY6 hS HB HT B1 B2;go_wp2_with fail;go_meet;exact HQ.out
  .intro K hK;go_simp;refine hK.out _ _ (fun _=>hS.alloc _) ?_;clear hK K;try simp only[Act.put,ak,aj,ai,ae,ah,ag]
   have C3:aa (Y.alloc (.cells #[.int .i64 0] 3)) Y.heap.size [.int .i64 0] 3:=aa.new _ _ _;have zY1:Hid ((Y.alloc (.cells #[.int .i64 0] 3)).heap.size=Y.heap.size+1):=by show _=_;simp
   have bY1:=bY.alloc (by have e0:=zW.out;have e1:=zY.out;omega) (.cells #[.int .i64 0] 3);replace hS:=hS.alloc (.cells #[.int .i64 0] 3);generalize Y.alloc (.cells #[.int .i64 0] 3)=Y1 at *
   refine aq.two 2 4 (by kernel_rfl) rfl rfl ?_ ?_
   .intro K hK;go_simp;refine hK.out _ _ (fun _=>hS.alloc _) ?_;clear hK K;try simp only[Act.put,ak,aj,ai,ae,ah,ag]
    replace C3:=C3.alloc (.cells #[.int .i64 0] 3);have C2:aa (Y1.alloc (.cells #[.int .i64 0] 3)) Y1.heap.size [.int .i64 0] 3:=aa.new _ _ _
    have zY2:Hid ((Y1.alloc (.cells #[.int .i64 0] 3)).heap.size=Y1.heap.size+1):=by show _=_;simp
    have bY2:=bY1.alloc (by have e0:=zW.out;have e1:=zY.out;have e2:=zY1.out;omega) (.cells #[.int .i64 0] 3);replace hS:=hS.alloc (.cells #[.int .i64 0] 3);generalize Y1.alloc (.cells #[.int .i64 0] 3)=Y2 at *
    refine aO 4 ?_;intro K hK;go_simp;refine hK.out _ _ (fun _=>hS.alloc _) ?_;clear hK K;try simp only[Act.put,ak,aj,ai,ae,ah,ag]
    replace C3:=C3.alloc (.cells #[.int .i64 0] 3);replace C2:=C2.alloc (.cells #[.int .i64 0] 3);have C4:aa (Y2.alloc (.cells #[.int .i64 0] 3)) Y2.heap.size [.int .i64 0] 3:=aa.new _ _ _
    have zY3:Hid ((Y2.alloc (.cells #[.int .i64 0] 3)).heap.size=Y2.heap.size+1):=by show _=_;simp
    have bY3:=bY2.alloc (by have e0:=zW.out;have e1:=zY.out;have e2:=zY1.out;have e3:=zY2.out;omega) (.cells #[.int .i64 0] 3);replace hS:=hS.alloc (.cells #[.int .i64 0] 3)
    generalize Y2.alloc (.cells #[.int .i64 0] 3)=Y3 at *;refine aO 5 ?_;intro K hK;have n0:=C2.cell 0 rfl;have f0:=C2.frozen 0;go_simp
    refine hK.out _ _ (fun _=>hS.other (by show w.heap.size+1≠Y1.heap.size;have:=zW.out;have:=zY.out;have:=zY1.out;have:=zY2.out;have:=zY3.out;omega) _) ?_;clear hK K n0 f0
    try simp only[Act.put,ak,aj,ai,ae,ah,ag]
    replace hS:=hS.other (a:=⟨Y1.heap.size,0,none⟩) (by show w.heap.size+1≠Y1.heap.size;have:=zW.out;have:=zY.out;have:=zY1.out;have:=zY2.out;have:=zY3.out;omega) (.int .i64 0)
    replace C3:=C3.other (a:=⟨Y1.heap.size,0,none⟩) (by show Y.heap.size≠Y1.heap.size;have:=zW.out;have:=zY.out;have:=zY1.out;have:=zY2.out;have:=zY3.out;omega) (.int .i64 0)
    replace C4:=C4.other (a:=⟨Y1.heap.size,0,none⟩) (by show Y2.heap.size≠Y1.heap.size;have:=zW.out;have:=zY.out;have:=zY1.out;have:=zY2.out;have:=zY3.out;omega) (.int .i64 0)
    replace C2:aa (Y3.setCell ⟨Y1.heap.size,0,none⟩ (.int .i64 0)) Y1.heap.size [(.int .i64 0)] 3:=C2.set 0 (.int .i64 0)
    have bY4:Below W.heap.size W (Y3.setCell ⟨Y1.heap.size,0,none⟩ (.int .i64 0)):=bY3.setCell (by show W.heap.size<=Y1.heap.size;have:=zW.out;have:=zY.out;have:=zY1.out;have:=zY2.out;have:=zY3.out;omega) (.int .i64 0)
    generalize (Y3.setCell ⟨Y1.heap.size,0,none⟩ (.int .i64 0))=Y4 at *;refine aO 6 ?_;intro K hK;have n0:=C3.cell 0 rfl;have f0:=C3.frozen 0;go_simp
    refine hK.out _ _ (fun _=>hS.other (by show w.heap.size+1≠Y.heap.size;have:=zW.out;have:=zY.out;have:=zY1.out;have:=zY2.out;have:=zY3.out;omega) _) ?_;clear hK K n0 f0
    try simp only[Act.put,ak,aj,ai,ae,ah,ag]
    replace hS:=hS.other (a:=⟨Y.heap.size,0,none⟩) (by show w.heap.size+1≠Y.heap.size;have:=zW.out;have:=zY.out;have:=zY1.out;have:=zY2.out;have:=zY3.out;omega) (.int .i64 n)
    replace C2:=C2.other (a:=⟨Y.heap.size,0,none⟩) (by show Y1.heap.size≠Y.heap.size;have:=zW.out;have:=zY.out;have:=zY1.out;have:=zY2.out;have:=zY3.out;omega) (.int .i64 n)
    replace C4:=C4.other (a:=⟨Y.heap.size,0,none⟩) (by show Y2.heap.size≠Y.heap.size;have:=zW.out;have:=zY.out;have:=zY1.out;have:=zY2.out;have:=zY3.out;omega) (.int .i64 n)
    replace C3:aa (Y4.setCell ⟨Y.heap.size,0,none⟩ (.int .i64 n)) Y.heap.size [(.int .i64 n)] 3:=C3.set 0 (.int .i64 n)
    have bY5:Below W.heap.size W (Y4.setCell ⟨Y.heap.size,0,none⟩ (.int .i64 n)):=bY4.setCell (by show W.heap.size<=Y.heap.size;have:=zW.out;have:=zY.out;have:=zY1.out;have:=zY2.out;have:=zY3.out;omega) (.int .i64 n)
    generalize (Y4.setCell ⟨Y.heap.size,0,none⟩ (.int .i64 n))=Y5 at *;refine aO 7 ?_;intro K hK;have n0:=C4.cell 0 rfl;have f0:=C4.frozen 0;go_simp
    refine hK.out _ _ (fun _=>hS.other (by show w.heap.size+1≠Y2.heap.size;have:=zW.out;have:=zY.out;have:=zY1.out;have:=zY2.out;have:=zY3.out;omega) _) ?_;clear hK K n0 f0
    try simp only[Act.put,ak,aj,ai,ae,ah,ag]
    replace hS:=hS.other (a:=⟨Y2.heap.size,0,none⟩) (by show w.heap.size+1≠Y2.heap.size;have:=zW.out;have:=zY.out;have:=zY1.out;have:=zY2.out;have:=zY3.out;omega) (.int .i64 n)
    replace C2:=C2.other (a:=⟨Y2.heap.size,0,none⟩) (by show Y1.heap.size≠Y2.heap.size;have:=zW.out;have:=zY.out;have:=zY1.out;have:=zY2.out;have:=zY3.out;omega) (.int .i64 n)
    replace C3:=C3.other (a:=⟨Y2.heap.size,0,none⟩) (by show Y.heap.size≠Y2.heap.size;have:=zW.out;have:=zY.out;have:=zY1.out;have:=zY2.out;have:=zY3.out;omega) (.int .i64 n)
    replace C4:aa (Y5.setCell ⟨Y2.heap.size,0,none⟩ (.int .i64 n)) Y2.heap.size [(.int .i64 n)] 3:=C4.set 0 (.int .i64 n)
    have bY6:Below W.heap.size W (Y5.setCell ⟨Y2.heap.size,0,none⟩ (.int .i64 n)):=bY5.setCell (by show W.heap.size<=Y2.heap.size;have:=zW.out;have:=zY.out;have:=zY1.out;have:=zY2.out;have:=zY3.out;omega) (.int .i64 n)
    generalize (Y5.setCell ⟨Y2.heap.size,0,none⟩ (.int .i64 n))=Y6 at *;refine aq.done (by kernel_rfl) ?_ _
    have HQ:Hid (QJ g (w.heap.size+1) w.heap.size n f w (.pointer (some ⟨Y1.heap.size,0,none⟩)) (.pointer (some ⟨Y.heap.size,0,none⟩)) (.pointer (some ⟨Y2.heap.size,0,none⟩)) Y6):=⟨_,_,_,rfl,rfl,rfl,⟨HT.out.kept bY6,C2,C3,C4,B2.kept bY6,B1.kept bY6,by have:=zW.out;have:=zY.out;have:=zY1.out;have:=zY2.out;have:=zY3.out;omega,by have:=zW.out;have:=zY.out;have:=zY1.out;have:=zY2.out;have:=zY3.out;omega,au.of (HB.out.trans (bY6.mono (by have:=zW.out;have:=zY.out;have:=zY1.out;have:=zY2.out;have:=zY3.out;omega)))⟩⟩
    clear C2 C3 C4 bY bY1 bY2 bY3 bY4 bY5 bY6 hS HB HT B1 B2;go_wp2_with fail;go_meet;exact HQ.out
   .intro K hK;go_simp;refine hK.out _ _ (fun _=>hS.alloc _) ?_;clear hK K;try simp only[Act.put,ak,aj,ai,ae,ah,ag]
    replace C3:=C3.alloc (.cells #[.int .i64 0] 3);have C4:aa (Y1.alloc (.cells #[.int .i64 0] 3)) Y1.heap.size [.int .i64 0] 3:=aa.new _ _ _
    have zY2:Hid ((Y1.alloc (.cells #[.int .i64 0] 3)).heap.size=Y1.heap.size+1):=by show _=_;simp
    have bY2:=bY1.alloc (by have e0:=zW.out;have e1:=zY.out;have e2:=zY1.out;omega) (.cells #[.int .i64 0] 3);replace hS:=hS.alloc (.cells #[.int .i64 0] 3);generalize Y1.alloc (.cells #[.int .i64 0] 3)=Y2 at *
    refine aO 2 ?_;intro K hK;go_simp;refine hK.out _ _ (fun _=>hS.alloc _) ?_;clear hK K;try simp only[Act.put,ak,aj,ai,ae,ah,ag]
    replace C3:=C3.alloc (.cells #[.int .i64 0] 3);replace C4:=C4.alloc (.cells #[.int .i64 0] 3);have C2:aa (Y2.alloc (.cells #[.int .i64 0] 3)) Y2.heap.size [.int .i64 0] 3:=aa.new _ _ _
    have zY3:Hid ((Y2.alloc (.cells #[.int .i64 0] 3)).heap.size=Y2.heap.size+1):=by show _=_;simp
    have bY3:=bY2.alloc (by have e0:=zW.out;have e1:=zY.out;have e2:=zY1.out;have e3:=zY2.out;omega) (.cells #[.int .i64 0] 3);replace hS:=hS.alloc (.cells #[.int .i64 0] 3)
    generalize Y2.alloc (.cells #[.int .i64 0] 3)=Y3 at *;refine aO 5 ?_;intro K hK;have n0:=C2.cell 0 rfl;have f0:=C2.frozen 0;go_simp
    refine hK.out _ _ (fun _=>hS.other (by show w.heap.size+1≠Y2.heap.size;have:=zW.out;have:=zY.out;have:=zY1.out;have:=zY2.out;have:=zY3.out;omega) _) ?_;clear hK K n0 f0
    try simp only[Act.put,ak,aj,ai,ae,ah,ag]
    replace hS:=hS.other (a:=⟨Y2.heap.size,0,none⟩) (by show w.heap.size+1≠Y2.heap.size;have:=zW.out;have:=zY.out;have:=zY1.out;have:=zY2.out;have:=zY3.out;omega) (.int .i64 0)
    replace C3:=C3.other (a:=⟨Y2.heap.size,0,none⟩) (by show Y.heap.size≠Y2.heap.size;have:=zW.out;have:=zY.out;have:=zY1.out;have:=zY2.out;have:=zY3.out;omega) (.int .i64 0)
    replace C4:=C4.other (a:=⟨Y2.heap.size,0,none⟩) (by show Y1.heap.size≠Y2.heap.size;have:=zW.out;have:=zY.out;have:=zY1.out;have:=zY2.out;have:=zY3.out;omega) (.int .i64 0)
    replace C2:aa (Y3.setCell ⟨Y2.heap.size,0,none⟩ (.int .i64 0)) Y2.heap.size [(.int .i64 0)] 3:=C2.set 0 (.int .i64 0)
    have bY4:Below W.heap.size W (Y3.setCell ⟨Y2.heap.size,0,none⟩ (.int .i64 0)):=bY3.setCell (by show W.heap.size<=Y2.heap.size;have:=zW.out;have:=zY.out;have:=zY1.out;have:=zY2.out;have:=zY3.out;omega) (.int .i64 0)
    generalize (Y3.setCell ⟨Y2.heap.size,0,none⟩ (.int .i64 0))=Y4 at *;refine aO 6 ?_;intro K hK;have n0:=C3.cell 0 rfl;have f0:=C3.frozen 0;go_simp
    refine hK.out _ _ (fun _=>hS.other (by show w.heap.size+1≠Y.heap.size;have:=zW.out;have:=zY.out;have:=zY1.out;have:=zY2.out;have:=zY3.out;omega) _) ?_;clear hK K n0 f0
    try simp only[Act.put,ak,aj,ai,ae,ah,ag]
    replace hS:=hS.other (a:=⟨Y.heap.size,0,none⟩) (by show w.heap.size+1≠Y.heap.size;have:=zW.out;have:=zY.out;have:=zY1.out;have:=zY2.out;have:=zY3.out;omega) (.int .i64 n)
    replace C2:=C2.other (a:=⟨Y.heap.size,0,none⟩) (by show Y2.heap.size≠Y.heap.size;have:=zW.out;have:=zY.out;have:=zY1.out;have:=zY2.out;have:=zY3.out;omega) (.int .i64 n)
    replace C4:=C4.other (a:=⟨Y.heap.size,0,none⟩) (by show Y1.heap.size≠Y.heap.size;have:=zW.out;have:=zY.out;have:=zY1.out;have:=zY2.out;have:=zY3.out;omega) (.int .i64 n)
    replace C3:aa (Y4.setCell ⟨Y.heap.size,0,none⟩ (.int .i64 n)) Y.heap.size [(.int .i64 n)] 3:=C3.set 0 (.int .i64 n)
    have bY5:Below W.heap.size W (Y4.setCell ⟨Y.heap.size,0,none⟩ (.int .i64 n)):=bY4.setCell (by show W.heap.size<=Y.heap.size;have:=zW.out;have:=zY.out;have:=zY1.out;have:=zY2.out;have:=zY3.out;omega) (.int .i64 n)
    generalize (Y4.setCell ⟨Y.heap.size,0,none⟩ (.int .i64 n))=Y5 at *;refine aO 7 ?_;intro K hK;have n0:=C4.cell 0 rfl;have f0:=C4.frozen 0;go_simp
    refine hK.out _ _ (fun _=>hS.other (by show w.heap.size+1≠Y1.heap.size;have:=zW.out;have:=zY.out;have:=zY1.out;have:=zY2.out;have:=zY3.out;omega) _) ?_;clear hK K n0 f0
    try simp only[Act.put,ak,aj,ai,ae,ah,ag]
    replace hS:=hS.other (a:=⟨Y1.heap.size,0,none⟩) (by show w.heap.size+1≠Y1.heap.size;have:=zW.out;have:=zY.out;have:=zY1.out;have:=zY2.out;have:=zY3.out;omega) (.int .i64 n)
    replace C2:=C2.other (a:=⟨Y1.heap.size,0,none⟩) (by show Y2.heap.size≠Y1.heap.size;have:=zW.out;have:=zY.out;have:=zY1.out;have:=zY2.out;have:=zY3.out;omega) (.int .i64 n)
    replace C3:=C3.other (a:=⟨Y1.heap.size,0,none⟩) (by show Y.heap.size≠Y1.heap.size;have:=zW.out;have:=zY.out;have:=zY1.out;have:=zY2.out;have:=zY3.out;omega) (.int .i64 n)
    replace C4:aa (Y5.setCell ⟨Y1.heap.size,0,none⟩ (.int .i64 n)) Y1.heap.size [(.int .i64 n)] 3:=C4.set 0 (.int .i64 n)
    have bY6:Below W.heap.size W (Y5.setCell ⟨Y1.heap.size,0,none⟩ (.int .i64 n)):=bY5.setCell (by show W.heap.size<=Y1.heap.size;have:=zW.out;have:=zY.out;have:=zY1.out;have:=zY2.out;have:=zY3.out;omega) (.int .i64 n)
    generalize (Y5.setCell ⟨Y1.heap.size,0,none⟩ (.int .i64 n))=Y6 at *;refine aq.done (by kernel_rfl) ?_ _
    have HQ:Hid (QJ g (w.heap.size+1) w.heap.size n f w (.pointer (some ⟨Y2.heap.size,0,none⟩)) (.pointer (some ⟨Y.heap.size,0,none⟩)) (.pointer (some ⟨Y1.heap.size,0,none⟩)) Y6):=⟨_,_,_,rfl,rfl,rfl,⟨HT.out.kept bY6,C2,C3,C4,B2.kept bY6,B1.kept bY6,by have:=zW.out;have:=zY.out;have:=zY1.out;have:=zY2.out;have:=zY3.out;omega,by have:=zW.out;have:=zY.out;have:=zY1.out;have:=zY2.out;have:=zY3.out;omega,au.of (HB.out.trans (bY6.mono (by have:=zW.out;have:=zY.out;have:=zY1.out;have:=zY2.out;have:=zY3.out;omega)))⟩⟩
    clear C2 C3 C4 bY bY1 bY2 bY3 bY4 bY5 bY6 hS HB HT B1 B2;go_wp2_with fail;go_meet;exact HQ.out
  .intro K hK;go_simp;refine hK.out _ _ (fun _=>hS.alloc _) ?_;clear hK K;try simp only[Act.put,ak,aj,ai,ae,ah,ag]
   have C4:aa (Y.alloc (.cells #[.int .i64 0] 3)) Y.heap.size [.int .i64 0] 3:=aa.new _ _ _;have zY1:Hid ((Y.alloc (.cells #[.int .i64 0] 3)).heap.size=Y.heap.size+1):=by show _=_;simp
   have bY1:=bY.alloc (by have e0:=zW.out;have e1:=zY.out;omega) (.cells #[.int .i64 0] 3);replace hS:=hS.alloc (.cells #[.int .i64 0] 3);generalize Y.alloc (.cells #[.int .i64 0] 3)=Y1 at *
   refine aq.two 2 3 (by kernel_rfl) rfl rfl ?_ ?_
   .intro K hK;go_simp;refine hK.out _ _ (fun _=>hS.alloc _) ?_;clear hK K;try simp only[Act.put,ak,aj,ai,ae,ah,ag]
    replace C4:=C4.alloc (.cells #[.int .i64 0] 3);have C2:aa (Y1.alloc (.cells #[.int .i64 0] 3)) Y1.heap.size [.int .i64 0] 3:=aa.new _ _ _
    have zY2:Hid ((Y1.alloc (.cells #[.int .i64 0] 3)).heap.size=Y1.heap.size+1):=by show _=_;simp
    have bY2:=bY1.alloc (by have e0:=zW.out;have e1:=zY.out;have e2:=zY1.out;omega) (.cells #[.int .i64 0] 3);replace hS:=hS.alloc (.cells #[.int .i64 0] 3);generalize Y1.alloc (.cells #[.int .i64 0] 3)=Y2 at *
    refine aO 3 ?_;intro K hK;go_simp;refine hK.out _ _ (fun _=>hS.alloc _) ?_;clear hK K;try simp only[Act.put,ak,aj,ai,ae,ah,ag]
    replace C4:=C4.alloc (.cells #[.int .i64 0] 3);replace C2:=C2.alloc (.cells #[.int .i64 0] 3);have C3:aa (Y2.alloc (.cells #[.int .i64 0] 3)) Y2.heap.size [.int .i64 0] 3:=aa.new _ _ _
    have zY3:Hid ((Y2.alloc (.cells #[.int .i64 0] 3)).heap.size=Y2.heap.size+1):=by show _=_;simp
    have bY3:=bY2.alloc (by have e0:=zW.out;have e1:=zY.out;have e2:=zY1.out;have e3:=zY2.out;omega) (.cells #[.int .i64 0] 3);replace hS:=hS.alloc (.cells #[.int .i64 0] 3)
    generalize Y2.alloc (.cells #[.int .i64 0] 3)=Y3 at *;refine aO 5 ?_;intro K hK;have n0:=C2.cell 0 rfl;have f0:=C2.frozen 0;go_simp
    refine hK.out _ _ (fun _=>hS.other (by show w.heap.size+1≠Y1.heap.size;have:=zW.out;have:=zY.out;have:=zY1.out;have:=zY2.out;have:=zY3.out;omega) _) ?_;clear hK K n0 f0
    try simp only[Act.put,ak,aj,ai,ae,ah,ag]
    replace hS:=hS.other (a:=⟨Y1.heap.size,0,none⟩) (by show w.heap.size+1≠Y1.heap.size;have:=zW.out;have:=zY.out;have:=zY1.out;have:=zY2.out;have:=zY3.out;omega) (.int .i64 0)
    replace C3:=C3.other (a:=⟨Y1.heap.size,0,none⟩) (by show Y2.heap.size≠Y1.heap.size;have:=zW.out;have:=zY.out;have:=zY1.out;have:=zY2.out;have:=zY3.out;omega) (.int .i64 0)
    replace C4:=C4.other (a:=⟨Y1.heap.size,0,none⟩) (by show Y.heap.size≠Y1.heap.size;have:=zW.out;have:=zY.out;have:=zY1.out;have:=zY2.out;have:=zY3.out;omega) (.int .i64 0)
    replace C2:aa (Y3.setCell ⟨Y1.heap.size,0,none⟩ (.int .i64 0)) Y1.heap.size [(.int .i64 0)] 3:=C2.set 0 (.int .i64 0)
    have bY4:Below W.heap.size W (Y3.setCell ⟨Y1.heap.size,0,none⟩ (.int .i64 0)):=bY3.setCell (by show W.heap.size<=Y1.heap.size;have:=zW.out;have:=zY.out;have:=zY1.out;have:=zY2.out;have:=zY3.out;omega) (.int .i64 0)
    generalize (Y3.setCell ⟨Y1.heap.size,0,none⟩ (.int .i64 0))=Y4 at *;refine aO 6 ?_;intro K hK;have n0:=C3.cell 0 rfl;have f0:=C3.frozen 0;go_simp
    refine hK.out _ _ (fun _=>hS.other (by show w.heap.size+1≠Y2.heap.size;have:=zW.out;have:=zY.out;have:=zY1.out;have:=zY2.out;have:=zY3.out;omega) _) ?_;clear hK K n0 f0
    try simp only[Act.put,ak,aj,ai,ae,ah,ag]
    replace hS:=hS.other (a:=⟨Y2.heap.size,0,none⟩) (by show w.heap.size+1≠Y2.heap.size;have:=zW.out;have:=zY.out;have:=zY1.out;have:=zY2.out;have:=zY3.out;omega) (.int .i64 n)
    replace C2:=C2.other (a:=⟨Y2.heap.size,0,none⟩) (by show Y1.heap.size≠Y2.heap.size;have:=zW.out;have:=zY.out;have:=zY1.out;have:=zY2.out;have:=zY3.out;omega) (.int .i64 n)
    replace C4:=C4.other (a:=⟨Y2.heap.size,0,none⟩) (by show Y.heap.size≠Y2.heap.size;have:=zW.out;have:=zY.out;have:=zY1.out;have:=zY2.out;have:=zY3.out;omega) (.int .i64 n)
    replace C3:aa (Y4.setCell ⟨Y2.heap.size,0,none⟩ (.int .i64 n)) Y2.heap.size [(.int .i64 n)] 3:=C3.set 0 (.int .i64 n)
    have bY5:Below W.heap.size W (Y4.setCell ⟨Y2.heap.size,0,none⟩ (.int .i64 n)):=bY4.setCell (by show W.heap.size<=Y2.heap.size;have:=zW.out;have:=zY.out;have:=zY1.out;have:=zY2.out;have:=zY3.out;omega) (.int .i64 n)
    generalize (Y4.setCell ⟨Y2.heap.size,0,none⟩ (.int .i64 n))=Y5 at *;refine aO 7 ?_;intro K hK;have n0:=C4.cell 0 rfl;have f0:=C4.frozen 0;go_simp
    refine hK.out _ _ (fun _=>hS.other (by show w.heap.size+1≠Y.heap.size;have:=zW.out;have:=zY.out;have:=zY1.out;have:=zY2.out;have:=zY3.out;omega) _) ?_;clear hK K n0 f0
    try simp only[Act.put,ak,aj,ai,ae,ah,ag]
    replace hS:=hS.other (a:=⟨Y.heap.size,0,none⟩) (by show w.heap.size+1≠Y.heap.size;have:=zW.out;have:=zY.out;have:=zY1.out;have:=zY2.out;have:=zY3.out;omega) (.int .i64 n)
    replace C2:=C2.other (a:=⟨Y.heap.size,0,none⟩) (by show Y1.heap.size≠Y.heap.size;have:=zW.out;have:=zY.out;have:=zY1.out;have:=zY2.out;have:=zY3.out;omega) (.int .i64 n)
    replace C3:=C3.other (a:=⟨Y.heap.size,0,none⟩) (by show Y2.heap.size≠Y.heap.size;have:=zW.out;have:=zY.out;have:=zY1.out;have:=zY2.out;have:=zY3.out;omega) (.int .i64 n)
    replace C4:aa (Y5.setCell ⟨Y.heap.size,0,none⟩ (.int .i64 n)) Y.heap.size [(.int .i64 n)] 3:=C4.set 0 (.int .i64 n)
    have bY6:Below W.heap.size W (Y5.setCell ⟨Y.heap.size,0,none⟩ (.int .i64 n)):=bY5.setCell (by show W.heap.size<=Y.heap.size;have:=zW.out;have:=zY.out;have:=zY1.out;have:=zY2.out;have:=zY3.out;omega) (.int .i64 n)
    generalize (Y5.setCell ⟨Y.heap.size,0,none⟩ (.int .i64 n))=Y6 at *;refine aq.done (by kernel_rfl) ?_ _
    have HQ:Hid (QJ g (w.heap.size+1) w.heap.size n f w (.pointer (some ⟨Y1.heap.size,0,none⟩)) (.pointer (some ⟨Y2.heap.size,0,none⟩)) (.pointer (some ⟨Y.heap.size,0,none⟩)) Y6):=⟨_,_,_,rfl,rfl,rfl,⟨HT.out.kept bY6,C2,C3,C4,B2.kept bY6,B1.kept bY6,by have:=zW.out;have:=zY.out;have:=zY1.out;have:=zY2.out;have:=zY3.out;omega,by have:=zW.out;have:=zY.out;have:=zY1.out;have:=zY2.out;have:=zY3.out;omega,au.of (HB.out.trans (bY6.mono (by have:=zW.out;have:=zY.out;have:=zY1.out;have:=zY2.out;have:=zY3.out;omega)))⟩⟩
    clear C2 C3 C4 bY bY1 bY2 bY3 bY4 bY5 bY6 hS HB HT B1 B2;go_wp2_with fail;go_meet;exact HQ.out
   .intro K hK;go_simp;refine hK.out _ _ (fun _=>hS.alloc _) ?_;clear hK K;try simp only[Act.put,ak,aj,ai,ae,ah,ag]
    replace C4:=C4.alloc (.cells #[.int .i64 0] 3);have C3:aa (Y1.alloc (.cells #[.int .i64 0] 3)) Y1.heap.size [.int .i64 0] 3:=aa.new _ _ _
    have zY2:Hid ((Y1.alloc (.cells #[.int .i64 0] 3)).heap.size=Y1.heap.size+1):=by show _=_;simp
    have bY2:=bY1.alloc (by have e0:=zW.out;have e1:=zY.out;have e2:=zY1.out;omega) (.cells #[.int .i64 0] 3);replace hS:=hS.alloc (.cells #[.int .i64 0] 3);generalize Y1.alloc (.cells #[.int .i64 0] 3)=Y2 at *
    refine aO 2 ?_;intro K hK;go_simp;refine hK.out _ _ (fun _=>hS.alloc _) ?_;clear hK K;try simp only[Act.put,ak,aj,ai,ae,ah,ag]
    replace C4:=C4.alloc (.cells #[.int .i64 0] 3);replace C3:=C3.alloc (.cells #[.int .i64 0] 3);have C2:aa (Y2.alloc (.cells #[.int .i64 0] 3)) Y2.heap.size [.int .i64 0] 3:=aa.new _ _ _
    have zY3:Hid ((Y2.alloc (.cells #[.int .i64 0] 3)).heap.size=Y2.heap.size+1):=by show _=_;simp
    have bY3:=bY2.alloc (by have e0:=zW.out;have e1:=zY.out;have e2:=zY1.out;have e3:=zY2.out;omega) (.cells #[.int .i64 0] 3);replace hS:=hS.alloc (.cells #[.int .i64 0] 3)
    generalize Y2.alloc (.cells #[.int .i64 0] 3)=Y3 at *;refine aO 5 ?_;intro K hK;have n0:=C2.cell 0 rfl;have f0:=C2.frozen 0;go_simp
    refine hK.out _ _ (fun _=>hS.other (by show w.heap.size+1≠Y2.heap.size;have:=zW.out;have:=zY.out;have:=zY1.out;have:=zY2.out;have:=zY3.out;omega) _) ?_;clear hK K n0 f0
    try simp only[Act.put,ak,aj,ai,ae,ah,ag]
    replace hS:=hS.other (a:=⟨Y2.heap.size,0,none⟩) (by show w.heap.size+1≠Y2.heap.size;have:=zW.out;have:=zY.out;have:=zY1.out;have:=zY2.out;have:=zY3.out;omega) (.int .i64 0)
    replace C3:=C3.other (a:=⟨Y2.heap.size,0,none⟩) (by show Y1.heap.size≠Y2.heap.size;have:=zW.out;have:=zY.out;have:=zY1.out;have:=zY2.out;have:=zY3.out;omega) (.int .i64 0)
    replace C4:=C4.other (a:=⟨Y2.heap.size,0,none⟩) (by show Y.heap.size≠Y2.heap.size;have:=zW.out;have:=zY.out;have:=zY1.out;have:=zY2.out;have:=zY3.out;omega) (.int .i64 0)
    replace C2:aa (Y3.setCell ⟨Y2.heap.size,0,none⟩ (.int .i64 0)) Y2.heap.size [(.int .i64 0)] 3:=C2.set 0 (.int .i64 0)
    have bY4:Below W.heap.size W (Y3.setCell ⟨Y2.heap.size,0,none⟩ (.int .i64 0)):=bY3.setCell (by show W.heap.size<=Y2.heap.size;have:=zW.out;have:=zY.out;have:=zY1.out;have:=zY2.out;have:=zY3.out;omega) (.int .i64 0)
    generalize (Y3.setCell ⟨Y2.heap.size,0,none⟩ (.int .i64 0))=Y4 at *;refine aO 6 ?_;intro K hK;have n0:=C3.cell 0 rfl;have f0:=C3.frozen 0;go_simp
    refine hK.out _ _ (fun _=>hS.other (by show w.heap.size+1≠Y1.heap.size;have:=zW.out;have:=zY.out;have:=zY1.out;have:=zY2.out;have:=zY3.out;omega) _) ?_;clear hK K n0 f0
    try simp only[Act.put,ak,aj,ai,ae,ah,ag]
    replace hS:=hS.other (a:=⟨Y1.heap.size,0,none⟩) (by show w.heap.size+1≠Y1.heap.size;have:=zW.out;have:=zY.out;have:=zY1.out;have:=zY2.out;have:=zY3.out;omega) (.int .i64 n)
    replace C2:=C2.other (a:=⟨Y1.heap.size,0,none⟩) (by show Y2.heap.size≠Y1.heap.size;have:=zW.out;have:=zY.out;have:=zY1.out;have:=zY2.out;have:=zY3.out;omega) (.int .i64 n)
    replace C4:=C4.other (a:=⟨Y1.heap.size,0,none⟩) (by show Y.heap.size≠Y1.heap.size;have:=zW.out;have:=zY.out;have:=zY1.out;have:=zY2.out;have:=zY3.out;omega) (.int .i64 n)
    replace C3:aa (Y4.setCell ⟨Y1.heap.size,0,none⟩ (.int .i64 n)) Y1.heap.size [(.int .i64 n)] 3:=C3.set 0 (.int .i64 n)
    have bY5:Below W.heap.size W (Y4.setCell ⟨Y1.heap.size,0,none⟩ (.int .i64 n)):=bY4.setCell (by show W.heap.size<=Y1.heap.size;have:=zW.out;have:=zY.out;have:=zY1.out;have:=zY2.out;have:=zY3.out;omega) (.int .i64 n)
    generalize (Y4.setCell ⟨Y1.heap.size,0,none⟩ (.int .i64 n))=Y5 at *;refine aO 7 ?_;intro K hK;have n0:=C4.cell 0 rfl;have f0:=C4.frozen 0;go_simp
    refine hK.out _ _ (fun _=>hS.other (by show w.heap.size+1≠Y.heap.size;have:=zW.out;have:=zY.out;have:=zY1.out;have:=zY2.out;have:=zY3.out;omega) _) ?_;clear hK K n0 f0
    try simp only[Act.put,ak,aj,ai,ae,ah,ag]
    replace hS:=hS.other (a:=⟨Y.heap.size,0,none⟩) (by show w.heap.size+1≠Y.heap.size;have:=zW.out;have:=zY.out;have:=zY1.out;have:=zY2.out;have:=zY3.out;omega) (.int .i64 n)
    replace C2:=C2.other (a:=⟨Y.heap.size,0,none⟩) (by show Y2.heap.size≠Y.heap.size;have:=zW.out;have:=zY.out;have:=zY1.out;have:=zY2.out;have:=zY3.out;omega) (.int .i64 n)
    replace C3:=C3.other (a:=⟨Y.heap.size,0,none⟩) (by show Y1.heap.size≠Y.heap.size;have:=zW.out;have:=zY.out;have:=zY1.out;have:=zY2.out;have:=zY3.out;omega) (.int .i64 n)
    replace C4:aa (Y5.setCell ⟨Y.heap.size,0,none⟩ (.int .i64 n)) Y.heap.size [(.int .i64 n)] 3:=C4.set 0 (.int .i64 n)
    have bY6:Below W.heap.size W (Y5.setCell ⟨Y.heap.size,0,none⟩ (.int .i64 n)):=bY5.setCell (by show W.heap.size<=Y.heap.size;have:=zW.out;have:=zY.out;have:=zY1.out;have:=zY2.out;have:=zY3.out;omega) (.int .i64 n)
    generalize (Y5.setCell ⟨Y.heap.size,0,none⟩ (.int .i64 n))=Y6 at *;refine aq.done (by kernel_rfl) ?_ _
    have HQ:Hid (QJ g (w.heap.size+1) w.heap.size n f w (.pointer (some ⟨Y2.heap.size,0,none⟩)) (.pointer (some ⟨Y1.heap.size,0,none⟩)) (.pointer (some ⟨Y.heap.size,0,none⟩)) Y6):=⟨_,_,_,rfl,rfl,rfl,⟨HT.out.kept bY6,C2,C3,C4,B2.kept bY6,B1.kept bY6,by have:=zW.out;have:=zY.out;have:=zY1.out;have:=zY2.out;have:=zY3.out;omega,by have:=zW.out;have:=zY.out;have:=zY1.out;have:=zY2.out;have:=zY3.out;omega,au.of (HB.out.trans (bY6.mono (by have:=zW.out;have:=zY.out;have:=zY1.out;have:=zY2.out;have:=zY3.out;omega)))⟩⟩
    clear C2 C3 C4 bY bY1 bY2 bY3 bY4 bY5 bY6 hS HB HT B1 B2;go_wp2_with fail;go_meet;exact HQ.out
 case rest=>
  obtain⟨gs,gm,ge,rfl,rfl,rfl,hJB⟩:=hcut;have c3:=hJB.cn.cell 0 rfl;have HJB:=ac hJB;clear hJB hW zW B1 B2 HT HB;generalize w.heap.size+1=gn at *;obtain⟨ga,hga⟩:∃ga,Hid (ga=w.heap.size):=⟨_,rfl⟩
  rw[<-hga.out]at HJB⊢;go_wp2;clear c3
  go_loopw [15] (fun vi wr=>∃(r s m e:Nat) (F:Nat->T4),(r=0\/r<n)/\vi=.int .i64 r/\Hid (JB g gn ga gs gm ge n s m e F w wr)/\Hid ((n=0/\F=f)\/((∃S hh d Y,JS n (run 256 256 (things cnt 256) (fun _=>0)) F s m e r S hh d Y)/\(∀k,k<n->(F k).sy=(f k).sy)/\(r=0->F=f)))) (fun vi _=>n-(intOf vi).toNat)
  case atStart=>exact⟨0,0,n,n,f,.inl rfl,rfl,HJB,by
   rcases HJ0.out with c | c
   .exact .inl ⟨c,rfl⟩
   .exact .inr ⟨c,fun _ _=>rfl,fun _=>rfl⟩⟩
  case round=>
   clear HJB HJ0;obtain⟨r,s,m,e,F,hr,rfl,HJB,HI⟩:=hrel;by_cases hlt:r+1<n
   .have hltz:(r:Int)<(n:Int)-1:=by omega
    obtain⟨⟨S,hh,d,Y,hJ⟩,hsy⟩:(∃S hh d Y,JS n (run 256 256 (things cnt 256) (fun _=>0)) F s m e r S hh d Y)/\(∀k,k<n->(F k).sy=(f k).sy):=by
     rcases HI.out with⟨c1,c2⟩ | ⟨c1,c2,c3⟩
     .omega
     .exact⟨c1,c2⟩
    have HJ:=ac hJ;have HSY:=ac hsy;have hl:=hJ.O.le;have her:=hJ.er;have hnum:=hJ.num;have e510:e<=510:=by omega
    clear hJ hsy HI hr;go_wp2_with fail;refine(vx g gm ge gs gn ga n s m e F _ HJB.out.th HJB.out.cm HJB.out.ce HJB.out.cs HJB.out.cn HJB.out.ca (Ne.symm HJB.out.dif.1) hl.1 hl.2.1 hl.2.2 (by omega) (by omega)).mono ?_
    rintro e1 w1 ⟨a,s1,m1,rfl,P1,cm1,cs1,tw1⟩;have hp1:=ue P1 hl.1 hl.2.1 hl.2.2;replace HJB:=ac (HJB.out.two cm1 cs1 tw1);have HP1:=ac P1;clear P1 cm1 cs1 tw1;go_wp2_with fail
    refine(vx g gm ge gs gn ga n s1 m1 e F _ HJB.out.th HJB.out.cm HJB.out.ce HJB.out.cs HJB.out.cn HJB.out.ca (Ne.symm HJB.out.dif.1) hp1.1 hp1.2.1 hp1.2.2.1 (by omega) (by omega)).mono ?_
    rintro e1 w2 ⟨b,s2,m2,rfl,P2,cm1,cs1,tw1⟩;have hp2:=ue P2 hp1.1 hp1.2.1 hp1.2.2.1;replace HJB:=ac (HJB.out.two cm1 cs1 tw1);have HP2:=ac P2;clear P2 cm1 cs1 tw1
    have HSU:=ac (Hg HJ.out HP1.out HP2.out);obtain⟨S',hh',d',Y',hJ'⟩:=HJ.out.step hlt HP1.out HP2.out
    have HJ':Hid (∃S hh d Y,JS n (run 256 256 (things cnt 256) (fun _=>0)) (cP F a b e) s2 m2 (e+1) (r+1) S hh d Y):=⟨_,_,_,_,hJ'⟩
    have hab:a≠b:=by
     obtain⟨_,_,a3,_,a5,_⟩:=kh (S:=S) HJ.out.O HJ.out.dif HP1.out;obtain⟨_,_,_,_,_,b6⟩:=kh (S:=S) a3 HJ.out.dif HP2.out;exact fun c=>a5 (by rw[c];exact b6)
    have HSY':Hid (∀k,k<n->(cP F a b e k).sy=(f k).sy):=fun k hk=>by rw[(qA F a b e k hab (by omega)).1];exact HSY.out k hk
    have a511:(a:Int)<511:=by omega
    have b511:(b:Int)<511:=by omega
    have e511:(e:Int)<511:=by omega
    have a5:a<511:=by omega
    have b5:b<511:=by omega
    have e5:e<511:=by omega
    have r5:r<256:=by omega
    clear hJ' HJ HP1 HP2 hab HSY hp1 hp2 hnum her hl S' hh' d' Y' S hh d Y;go_wp2;refine aB [] (fun w'=>aa w' ge [.int .i64 (e:Nat)] 3/\aa w' ga [.pointer (some ⟨g,0,none⟩)] 197) (by kernel_rfl) ?_
    replace HJB:Hid (JB g gn ga gs gm ge n s2 m2 e F w w2.drew):=HJB.out.set HJB.out.th.drew ((au.refl g w2).drew)
    have hS:aa w2.drew ge [.int .i64 (e:Nat)] 3/\aa w2.drew ga [.pointer (some ⟨g,0,none⟩)] 197:=⟨HJB.out.ce,HJB.out.ca⟩;have hne1:ge≠g:=by have:=HJB.out.lo;omega
    have hne2:ga≠g:=by have:=HJB.out.lo;omega
    generalize w2.drew=Y at *;refine aF 0 hS rfl (fun w0 h0=>by have k0:=h0.1.cell 0 rfl;have k1:=h0.2.cell 0 rfl;go_simp;try with_reducible rfl) ?_;refine aK 1 hS ?_
    refine aF 2 hS rfl (fun w0 h0=>by have k0:=h0.1.cell 0 rfl;have k1:=h0.2.cell 0 rfl;go_simp;try with_reducible rfl) ?_;refine aK 3 hS ?_
    refine aF 4 hS rfl (fun w0 h0=>by have k0:=h0.1.cell 0 rfl;have k1:=h0.2.cell 0 rfl;go_simp;try with_reducible rfl) ?_
    refine aF 5 hS rfl (fun w0 h0=>by have k0:=h0.1.cell 0 rfl;have k1:=h0.2.cell 0 rfl;go_simp;try with_reducible rfl) ?_
    refine aW 6 ?_;refine aW 7 ?_;refine aW 8 ?_;refine aW 10 ?_;refine aO 9 ?_;intro K hK;have n0:=HJB.out.th.c2 a a5;have f0:=HJB.out.th.frozen (a*4+2);go_simp
    refine hK.out _ _ (fun _=>⟨hS.1.other (a:=⟨g,a*4+2,none⟩) hne1 _,hS.2.other (a:=⟨g,a*4+2,none⟩) hne2 _⟩) ?_;clear hK K n0 f0;try simp only[Act.put,ak,aj,ai,ae,ah,ag]
    replace hS:=(And.intro (hS.1.other (a:=⟨g,a*4+2,none⟩) hne1 (.int .i64 (e:Nat))) (hS.2.other (a:=⟨g,a*4+2,none⟩) hne2 (.int .i64 (e:Nat))))
    replace HJB:=ac (HJB.out.set (HJB.out.th.setIt a e a5) ((au.refl g Y).set _ _));generalize Y.setCell ⟨g,a*4+2,none⟩ (.int .i64 (e:Nat))=Z at *
    refine aW 11 ?_;refine aW 12 ?_;refine aO 13 ?_;intro K hK;have n0:=HJB.out.th.c2 b b5;have f0:=HJB.out.th.frozen (b*4+2);go_simp
    refine hK.out _ _ (fun _=>⟨hS.1.other (a:=⟨g,b*4+2,none⟩) hne1 _,hS.2.other (a:=⟨g,b*4+2,none⟩) hne2 _⟩) ?_;clear hK K n0 f0;try simp only[Act.put,ak,aj,ai,ae,ah,ag]
    replace HJB:=ac (HJB.out.set (HJB.out.th.setIt b e b5) ((au.refl g Z).set _ _));generalize Z.setCell ⟨g,b*4+2,none⟩ (.int .i64 (e:Nat))=Z2 at *;clear hS;refine aq.done (by kernel_rfl) ?_ _
    obtain⟨F2,hF2⟩:∃F2,Hid (F2=bh (bh F a { F a with it:=e }) b { bh F a { F a with it:=e } b with it:=e }):=⟨_,rfl⟩;rw[<-hF2.out]at HJB
    have HC:Hid ((F2 a).ct=(F a).ct/\(F2 b).ct=(F b).ct):=by rw[hF2.out];exact⟨(mT _ _ _ _).trans (mT _ _ _ _),(mT _ _ _ _).trans (mT _ _ _ _)⟩
    have hsu:(F2 a).ct+(F2 b).ct<=268435456:=by rw[HC.out.1,HC.out.2];exact HSU.out
    have HN:Hid (bh F2 e ⟨0,(F2 a).ct+(F2 b).ct,0,0⟩=cP F a b e):=by show _=_;rw[HC.out.1,HC.out.2,hF2.out];rfl
    clear hF2 HC HSU;go_wp2;refine aB [18] (fun w'=>aa w' ge [.int .i64 (e:Nat)] 3/\aa w' ga [.pointer (some ⟨g,0,none⟩)] 197/\TH w' g F2) (by kernel_rfl) ?_
    replace HJB:Hid (JB g gn ga gs gm ge n s2 m2 e F2 w Z2.drew):=HJB.out.set HJB.out.th.drew ((au.refl g Z2).drew)
    have hS:aa Z2.drew ge [.int .i64 (e:Nat)] 3/\aa Z2.drew ga [.pointer (some ⟨g,0,none⟩)] 197/\TH Z2.drew g F2:=⟨HJB.out.ce,HJB.out.ca,HJB.out.th⟩;generalize Z2.drew=Z3 at *
    obtain⟨ca,hca⟩:∃ca:Nat,Hid (ca=(F2 a).ct):=⟨_,rfl⟩;obtain⟨cb,hcb⟩:∃cb:Nat,Hid (cb=(F2 b).ct):=⟨_,rfl⟩;rw[<-hca.out,<-hcb.out]at hsu HN
    refine aF 0 hS rfl (fun w0 h0=>by have k0:=h0.1.cell 0 rfl;have k1:=h0.2.1.cell 0 rfl;have k2:=h0.2.2.c1 a a5;have k3:=h0.2.2.c1 b b5;rw[<-hca.out]at k2;rw[<-hcb.out]at k3;go_simp;try with_reducible rfl) ?_
    refine aF 1 hS rfl (fun w0 h0=>by have k0:=h0.1.cell 0 rfl;have k1:=h0.2.1.cell 0 rfl;have k2:=h0.2.2.c1 a a5;have k3:=h0.2.2.c1 b b5;rw[<-hca.out]at k2;rw[<-hcb.out]at k3;go_simp;try with_reducible rfl) ?_
    refine aF 2 hS rfl (fun w0 h0=>by have k0:=h0.1.cell 0 rfl;have k1:=h0.2.1.cell 0 rfl;have k2:=h0.2.2.c1 a a5;have k3:=h0.2.2.c1 b b5;rw[<-hca.out]at k2;rw[<-hcb.out]at k3;go_simp;try with_reducible rfl) ?_
    refine aK 3 hS ?_;refine aK 4 hS ?_;refine aK 5 hS ?_;refine aK 6 hS ?_
    refine aF 7 hS rfl (fun w0 h0=>by have k0:=h0.1.cell 0 rfl;have k1:=h0.2.1.cell 0 rfl;have k2:=h0.2.2.c1 a a5;have k3:=h0.2.2.c1 b b5;rw[<-hca.out]at k2;rw[<-hcb.out]at k3;go_simp;try with_reducible rfl) ?_
    refine aF 8 hS rfl (fun w0 h0=>by have k0:=h0.1.cell 0 rfl;have k1:=h0.2.1.cell 0 rfl;have k2:=h0.2.2.c1 a a5;have k3:=h0.2.2.c1 b b5;rw[<-hca.out]at k2;rw[<-hcb.out]at k3;go_simp;try with_reducible rfl) ?_
    refine aK 9 hS ?_;refine aK 10 hS ?_;refine aK 11 hS ?_;refine aK 12 hS ?_
    refine aF 13 hS rfl (fun w0 h0=>by have k0:=h0.1.cell 0 rfl;have k1:=h0.2.1.cell 0 rfl;have k2:=h0.2.2.c1 a a5;have k3:=h0.2.2.c1 b b5;rw[<-hca.out]at k2;rw[<-hcb.out]at k3;go_simp;try with_reducible rfl) ?_
    have wsum:IntKind.i64.wrap ((ca:Int)+(cb:Int))=((ca+cb:Nat):Int):=by rw[IntKind.wrap_i64];omega
    refine aK 14 hS ?_;refine aK 15 hS ?_;refine aW 16 ?_;refine aW 17 ?_;clear wsum;refine aO 18 ?_;intro K hK;refine gS _ _ rfl g F2 e _ ⟨0,ca+cb,0,0⟩ (by omega) (by omega) rfl ?hyv hS.2.2 ?_
    case hyv=>rfl
    intro w4 hT4 hB4;refine hK.out _ _ (fun h=>absurd (by decide) h) ?_;clear hK K;try simp only[Act.put,ak,aj,ai,ae,ah,ag]
    refine aq.done (by kernel_rfl) ?_ _;rw[HN.out]at hT4;replace HJB:=ac (HJB.out.set hT4 hB4);clear hT4 hB4 HN hca hcb hS hsu;have n0:=HJB.out.ce.cell 0 rfl;have f0:=HJB.out.ce.frozen 0
    have HX:Hid (∀v:Nat,aa (w4.setCell ⟨ge,0,none⟩ (.int .i64 (v:Nat))) ge [.int .i64 (v:Nat)] 3):=fun v=>HJB.out.ce.set 0 _;go_wp2
    refine⟨⟨r+1,s2,m2,e+1,cP F a b e,.inr (by omega),by go_num,?_,.inr ⟨HJ'.out,HSY'.out,fun c=>by omega⟩⟩,by simp only[intOf];omega⟩;exact HJB.out.end (HX.out (e+1)) ((aw.refl ge w4).set 0 _)
   .have hltz:¬(r:Int)<(n:Int)-1:=by omega
    have HP:Hid (JP n cnt f F):=by
     rcases HI.out with⟨c1,c2⟩ | ⟨⟨S,hh,d,Y,c1⟩,c2,c3⟩
     .exact .inl ⟨by omega,c2⟩
     .by_cases g2:2<=n
      .exact .inr ⟨g2,c2,S,hh,c1.ends (by omega) g2⟩
      .exact .inl ⟨by omega,c3 (by omega)⟩
    go_wp2;refine bodyPost_end (results_none rfl _ _ _) rfl ?_;exact⟨rfl,SO.mk _ HJB.out.th HP.out HJB.out.bar⟩
end Go.Proofs.YtleegaihbgbcjaaGreatDoor
namespace Go.Proofs.YtleegaihbgbcjaaGreatDoor
open Go.RowKit Num Bit Ji
theorem E9(g n:Nat)(f:Nat->T4)(w:World)(hT:TH w g f)(hn:n<=1):
  Calls prog 81 #[.pointer (some ⟨g,0,none⟩),.int .i64 n] w fun e w'=>e=.returned (.tuple #[])/\SO g w (fun F=>F=f) w':=by
 have HT:=ac hT;have h0:¬(0:Int)<=2*(n:Int)-3:=by omega
 clear hT;go_enter func81,ntmps81;go_wp2;go_loopw [4] (fun vi wr=>vi=.int .i64 (2*(n:Int)-3)/\wr=w) (fun vi _=>0)
 case atStart=>exact⟨by go_num,rfl⟩
 case round=>
  obtain⟨rfl,hw⟩:=hrel;subst hw;go_wp2;refine bodyPost_end (results_none rfl _ _ _) rfl ?_;exact⟨rfl,SO.mk _ HT.out rfl (au.refl _ _)⟩
theorem E8(g n:Nat)(D:Nat->Nat)(f:Nat->T4)(S:Nat->List Nat)(hh:Nat->Nat->Nat)(w:World)(hT:TH w g f)(h2:2<=n)(hn:n<=256)(T:lj n D f S hh):
  Calls prog 81 #[.pointer (some ⟨g,0,none⟩),.int .i64 n] w fun e w'=>e=.returned (.tuple #[])/\SO g w (fun F=>Ms n D f F S hh 0) w':=by
 have HT:=ac hT;have HTr:=ac T;have HM:=ac (Ms.start T);clear hT T;go_enter func81,ntmps81;go_wp2
 go_loopw [4] (fun vi wr=>∃(k:Nat) (F:Nat->T4),k<=2*n-2/\vi=.int .i64 ((k:Int)-1)/\Hid (TH wr g F)/\Hid (au g w wr)/\Hid (Ms n D f F S hh k)) (fun vi _=>(intOf vi+1).toNat)
 case atStart=>exact⟨2*n-2,f,Nat.le_refl _,by congr 1;omega,HT,au.refl _ _,HM⟩
 case round=>
  clear HT HM;obtain⟨k,F,hk,rfl,HH,HB,HI⟩:=hrel;by_cases hk0:k=0
  .subst hk0;have hz:¬(0:Int)<=((0:Nat):Int)-1:=by omega
   go_wp2;refine bodyPost_end (results_none rfl _ _ _) rfl ?_;exact⟨rfl,SO.mk _ HH.out HI.out HB.out⟩
  .obtain⟨i,rfl⟩:∃i,k=i+1:=⟨k-1,by omega⟩;have zi:((i+1:Nat):Int)-1=(i:Int):=by omega
   obtain⟨m1,m2,m3,m4⟩:=HI.out.step HTr.out (by omega);obtain⟨p,hp⟩:∃p,Hid (p=(F i).it):=⟨_,rfl⟩;rw[<-hp.out]at m1 m2 m3 m4;obtain⟨q,hq⟩:∃q,Hid (q=(F p).ln):=⟨_,rfl⟩;rw[<-hq.out]at m3 m4
   have HM:=ac m4;have i511:(i:Int)<511:=by omega
   have p511:(p:Int)<511:=by omega
   have i5:i<511:=by omega
   have p5:p<511:=by omega
   have q5:q<=512:=by omega
   have i6:i+1<=2*n-2:=hk;clear m4 HI m1 m2 m3;rw[zi];clear zi hk hk0;go_wp2;refine aB [17] (fun w'=>TH w' g F) (by kernel_rfl) ?_;have hS:TH wr.drew g F:=HH.out.drew
   have HB2:Hid (au g w wr.drew):=HB.out.drew;generalize wr.drew=Y at *;refine aK 0 hS ?_;refine aK 1 hS ?_;refine aK 2 hS ?_;refine aK 3 hS ?_;refine aK 4 hS ?_;refine aK 5 hS ?_
   refine aK 6 hS ?_;refine aK 7 hS ?_;refine aF 8 hS rfl (fun w0 h0=>by have k0:=h0.c2 i i5;have k1:=h0.c3 p p5;rw[<-hp.out]at k0;rw[<-hq.out]at k1;go_simp;try with_reducible rfl) ?_
   refine aK 9 hS ?_;refine aK 10 hS ?_;refine aK 11 hS ?_
   refine aF 12 hS rfl (fun w0 h0=>by have k0:=h0.c2 i i5;have k1:=h0.c3 p p5;rw[<-hp.out]at k0;rw[<-hq.out]at k1;go_simp;try with_reducible rfl) ?_
   have wsum:IntKind.i64.wrap ((q:Int)+1)=((q+1:Nat):Int):=by rw[IntKind.wrap_i64];omega
   refine aK 13 hS ?_;refine aW 14 ?_;refine aW 15 ?_;refine aW 16 ?_;clear wsum;refine aO 17 ?_;intro K hK;have n0:=hS.c3 i i5;have f0:=hS.frozen (i*4+3);go_simp;refine hK.out _ _ (fun h=>absurd (by decide) h) ?_;clear hK K
   try simp only[Act.put,ak,aj,ai,ae,ah,ag]
   refine aq.done (by kernel_rfl) ?_ _;clear n0 f0;have HT1:=ac (hS.setLn i (q+1) i5);have HB3:=ac (HB2.out.set (i*4+3) (.int .i64 ((q+1:Nat):Int)));clear hS HB2 HH HB;go_wp2
   exact⟨⟨i,_,by omega,by go_num,HT1,HB3,HM⟩,by simp only[intOf];omega⟩
end Go.Proofs.YtleegaihbgbcjaaGreatDoor
namespace Go.Proofs.YtleegaihbgbcjaaGreatDoor
open Num
namespace Bit
def cp(xs:List Nat)(n:Nat):List Nat:=xs.take n++List.replicate (n-xs.length) 0
def dj(ys:List Nat)(p x:Nat):List Nat:=
 let a:=if x*2^(p%64)%18446744073709551616=0 then ys else ys.set (p/64) (gt ys (p/64)|||x*2^(p%64)%18446744073709551616)
 if x/2^(64-p%64)=0 then a else a.set (p/64+1) (gt a (p/64+1)|||x/2^(64-p%64))
theorem DZ(ys:List Nat)(p x:Nat):(dj ys p x).length=ys.length:=by
 unfold dj;simp only;split<;>split<;>simp
def jC(ys:List Nat)(p x:Nat):Prop:=(x*2^(p%64)%18446744073709551616≠0->p/64<ys.length)/\(x/2^(64-p%64)≠0->p/64+1<ys.length)
theorem we(ys:List Nat)(p x:Nat)(h:jC ys p x)(j:Nat):
  gt (dj ys p x) j=gt ys j|||(if j=p/64 then x*2^(p%64)%18446744073709551616 else if j=p/64+1 then x/2^(64-p%64)else 0):=by
 obtain⟨h1,h2⟩:=h;unfold dj;simp only;by_cases c1:x*2^(p%64)%18446744073709551616=0
 .rw[if_pos c1];by_cases c2:x/2^(64-p%64)=0
  .rw[if_pos c2,c1,c2];split<;>(try split)<;>simp
  .rw[if_neg c2,gt_set _ _ _ _ (h2 c2),c1];by_cases e:j=p/64
   .rw[if_pos e,if_neg (by omega)];simp
   .rw[if_neg e];by_cases e2:j=p/64+1
    .rw[if_pos e2,if_pos e2.symm,e2]
    .rw[if_neg e2,if_neg (fun q=>e2 q.symm)];simp
 .rw[if_neg c1];have hl:=h1 c1;by_cases c2:x/2^(64-p%64)=0
  .rw[if_pos c2,gt_set _ _ _ _ hl,c2];by_cases e:j=p/64
   .rw[if_pos e,if_pos e.symm,e]
   .rw[if_neg e,if_neg (fun q=>e q.symm)];split<;>simp
  .rw[if_neg c2,gt_set _ _ _ _ (by rw[List.length_set];exact h2 c2),gt_set _ _ _ _ hl,gt_set _ _ _ _ hl];by_cases e:j=p/64
   .rw[if_pos e,if_neg (by omega),if_pos e.symm,e]
   .rw[if_neg e,if_neg (show ¬p/64=j from fun q=>e q.symm),if_neg (show ¬p/64=p/64+1 by omega)];by_cases e2:j=p/64+1
    .rw[if_pos e2,if_pos e2.symm,e2]
    .rw[if_neg e2,if_neg (fun q=>e2 q.symm)];simp
theorem GF(ys:List Nat)(hf:Fit ys)(p x:Nat)(hx:x<18446744073709551616)(h:jC ys p x):Fit (dj ys p x):=by
 intro j;rw[we ys p x h j];refine lW _ _ (hf j) ?_;split
 .exact Nat.mod_lt _ (by decide)
 .split
  .exact Nat.lt_of_le_of_lt (Nat.div_le_self _ _) hx
  .decide
theorem JA(ys:List Nat)(p x:Nat)(hx:x<18446744073709551616)(h:jC ys p x)(i:Nat):bitAt (dj ys p x) i=(bitAt ys i||(decide (p<=i)&&x.testBit (i-p))):=by
 unfold bitAt;rw[we ys p x h,Nat.testBit_or];congr 1;have hm:i%64<64:=Nat.mod_lt _ (by decide);by_cases e:i/64=p/64
 .rw[if_pos e,mV _ _ _ hm];by_cases c:p<=i
  .rw[show decide (p%64<=i%64)=true by simp;omega,show decide (p<=i)=true by simpa using c,show i%64-p%64=i-p by omega]
  .rw[show decide (p%64<=i%64)=false by simp;omega,show decide (p<=i)=false by simpa using c];rfl
 .rw[if_neg e];by_cases e2:i/64=p/64+1
  .rw[if_pos e2,lI,show decide (p<=i)=true by simp;omega,show 64-p%64+i%64=i-p by omega];rfl
  .rw[if_neg e2,Nat.zero_testBit];by_cases c:p<=i
   .rw[pn x _ hx (by omega)];simp
   .simp[c]
theorem AH(ys:List Nat)(p x m:Nat)(hx:x<2^m)(hm:m<=64)(hl:p+m<=64*ys.length):jC ys p x:=by
 have hp:0<2^(64-p%64):=Nat.pow_pos (by decide);constructor
 .intro h;by_cases c:m=0
  .subst c;have:x=0:=by simpa using hx
   subst this;simp at h
  .omega
 .intro h;by_cases c:m<=64-p%64
  .have:x<2^(64-p%64):=Nat.lt_of_lt_of_le hx (Nat.pow_le_pow_right (by decide) c);exact absurd (Nat.div_eq_of_lt this) h
  .omega
end Bit
open Go.RowKit Num Bit
theorem Tryz.info81:(prog.info? 81).map (fun i=>(i.zero,i.size,i.bytes))=some (some (.int .u64 0),1,8):=by kernel_rfl
def wv(ys:List Nat):List Value:=ys.map fun y=>Value.int .u64 (y:Nat)
def Own(w:World)(g:Nat)(ys:List Nat):Prop:=w.heap[g]?=some (.cells (wv ys).toArray 81 (0,0))
theorem own_made{w:World}{base g n:Nat}(h:w.ownsRow base 81 1 (.slice (some ⟨g,0,none⟩) n n) n (madeCells #[.int .u64 0] n).toList):w.heap[g]?=some (.cells (wv (List.replicate n 0)).toArray 81 (0,0)):=by
 obtain⟨_,h | ⟨g',cap,cur,e,_,hh,_,_,hs,ht⟩⟩:=h
 .simp at h
 .simp only[Value.slice.injEq,Option.some.injEq,Addr.mk.injEq]at e;obtain⟨⟨rfl,_,_⟩,_,rfl⟩:=e;rw[hh]
  have e2:(madeCells #[.int .u64 0] n).toList=wv (List.replicate n 0):=by
   rw[toList_madeCells_one (.int .u64 0) n,wv,List.map_replicate];rfl
  rw[e2]at ht;have e3:cur.toList.take (n*1)=cur.toList:=List.take_of_length_le (by simp;omega);rw[e3]at ht;rw[<-ht]
theorem Own.set_other{w:World}{g:Nat}{ys:List Nat}(h:Own w g ys){a:Addr}(ha:g≠a.block)(v:Value):Own (w.setCell a v) g ys:=
 (Below.heap_setCell w a v g ha).trans h
theorem fJ(w:World)(a:Addr)(v:Value):(w.setCell a v).heap.size=w.heap.size:=by simp[World.setCell]
structure aL (g:Nat) (w w':World):Prop where
 os:w'.os=w.os
 tape:w'.tape=w.tape
 output:w'.output=w.output
 size:w'.heap.size=w.heap.size
 block:∀k,k≠g->w'.heap[k]?=w.heap[k]?
theorem aL.refl(g:Nat)(w:World):aL g w w:=⟨rfl,rfl,rfl,rfl,fun _ _=>rfl⟩
theorem aL.set{g:Nat}{a w:World}(h:aL g a w)(off:Nat)(v:Value):aL g a (w.setCell ⟨g,off,none⟩ v):=
 ⟨h.os,h.tape,h.output,(fJ _ _ _).trans h.size,fun k hk=>(Below.heap_setCell _ _ _ _ hk).trans (h.block k hk)⟩
theorem aL.cell{g:Nat}{w w':World}(h:aL g w w'){p:Addr}(hp:p.block≠g):w'.cell? p=w.cell? p:=World.cell?_of_block (w:=w) (h.block p.block hp)
theorem aL.frozen{g:Nat}{w w':World}(h:aL g w w'){p:Addr}(hp:p.block≠g):w'.frozen? p=w.frozen? p:=World.frozen?_of_block (w:=w) (h.block p.block hp)
theorem aL.below{g B:Nat}{w w':World}(h:aL g w w')(hB:B<=g):Below B w w':=
 ⟨h.os,h.tape,h.output,by rw[h.size];exact Nat.le_refl _,fun k hk=>h.block k (by omega)⟩
theorem length_wv(ys:List Nat):(wv ys).length=ys.length:=by simp[wv]
theorem Own.cell{w:World}{g:Nat}{ys:List Nat}(h:Own w g ys)(j:Nat)(hj:j<ys.length):w.cell? ⟨g,j,none⟩=some (.int .u64 (gt ys j)):=by
 unfold World.cell?;rw[show w.heap[({ block:=g,off:=j,spot:=none }:Addr).block]?=_ from h];show(wv ys).toArray[j]?=_;rw[List.getElem?_toArray,wv,List.getElem?_map,gt_get ys j hj];rfl
theorem Own.frozen{w:World}{g:Nat}{ys:List Nat}(h:Own w g ys)(j:Nat):w.frozen? ⟨g,j,none⟩=false:=by
 unfold World.frozen?;rw[show w.heap[({ block:=g,off:=j,spot:=none }:Addr).block]?=_ from h];simp
theorem Own.lt{w:World}{g:Nat}{ys:List Nat}(h:Own w g ys):g<w.heap.size:=(Array.getElem?_eq_some_iff.1 h).1
theorem Own.set{w:World}{g:Nat}{ys:List Nat}(h:Own w g ys)(j v:Nat):Own (w.setCell ⟨g,j,none⟩ (.int .u64 v)) g (ys.set j v):=by
 unfold Own at *;simp only[World.setCell,Array.getElem?_modify];rw[if_pos trivial,h];simp[wv,List.map_set]
theorem Own.wd{w:World}{g:Nat}{ys:List Nat}(h:Own w g ys):Wd w (some ⟨g,0,none⟩) ys:=
 fun _=>⟨g,0,rfl,h.lt,fun i hi=>by rw[Nat.zero_add];exact h.cell i hi⟩
theorem Own.keep{w w':World}{g:Nat}{ys:List Nat}(h:Own w g ys)(hb:Below w.heap.size w w'):Own w' g ys:=(hb.block g h.lt).trans h
theorem jy(a:Nat):((a:Int) != 0)=decide (a≠0):=by
 rw[Bool.eq_iff_iff,bne_iff_ne,decide_eq_true_eq];omega
theorem xx{w w':World}{a b:Value}{T:TypeId}(hb:Below (w.alloc (.cells #[a,b] T)).heap.size (w.alloc (.cells #[a,b] T)) w'):
  w'.frozen? ⟨w.heap.size,0,none⟩=false/\w'.frozen? ⟨w.heap.size,1,none⟩=false:=by
 refine⟨?_,?_⟩
 .rw[hb.frozen (p:=⟨w.heap.size,0,none⟩) (by simp)];simp
 .rw[hb.frozen (p:=⟨w.heap.size,1,none⟩) (by simp)];simp
theorem lZ(n:Int)(k:Nat)(w:World)(h0:0<=n)(h1:n<=1048576)(hk:(n+63)/64=(k:Int)):
  Calls prog 90 #[.int .i64 n] w fun e w'=>∃g,e=.returned (.tuple #[.agg #[.int .i64 n,.slice (some ⟨g,0,none⟩) k k],.int .i64 0])/\w.heap.size<=g/\g<w'.heap.size/\Own w' g (List.replicate k 0)/\Below w.heap.size w w':=by
 obtain⟨i0,hi,hz0,hz1,hz2⟩:=info_parts Tryz.info81;have hk2:k<=1048576:=by omega
 go_enter func90,ntmps90
 go_wp2_with (first | (go_at_call 146;refine(nJ _ ?_ ?_ _).mono ?_;(omega);(omega);rintro e w' ⟨rfl,rfl⟩) | (at_make;refine wpList_make_full _ rfl _ _ 31 rfl (w.heap.size+1) 81 i0 (.int .u64 0) 1 underlying31 hi hz0 hz1 .i64 .i64 _ _ k rfl rfl rfl rfl ?b2 ?b3 ?b4 ?_))
 case b2=>rw[hz2];omega
 case b3=>unfold maxLen;omega
 case b4=>simp
 intro w1 hown hgr;have hb1:Below (w.alloc (.cells #[.int .i64 0,.slice none 0 0] 33)).heap.size (w.alloc (.cells #[.int .i64 0,.slice none 0 0] 33)) w1:=(Below.refl _ _).grown hgr (Nat.le_refl _) (fun k h=>by cases h)
 have hO:Own w1 (w.heap.size+1) (List.replicate k 0):=own_made hown;obtain⟨k0,k1,hz,hw⟩:=cQ hb1;obtain⟨k2,k3⟩:=xx hb1;have hlt:=hO.lt;clear hown hgr hi hz0 hz1 hz2 hb1;go_wp2
 refine bodyPost_ret (v:=.tuple #[.agg #[.int .i64 n,.slice (some ⟨w.heap.size+1,0,none⟩) k k],.int .i64 0]) (by simp[results,Tryz.results90,go_sem,k0,k1]) rfl ⟨w.heap.size+1,rfl,by omega,?_,?_,?_⟩
 .rw[fJ,fJ];exact hlt
 .exact(hO.set_other (by simp) _).set_other (by simp) _
 .exact(hw.setCell (by simp) _).setCell (by simp) _
def Kd(w w':World)(ao:Option Addr)(ys:List Nat)(cap:Nat):Prop:=Wd w' ao ys/\Fit ys/\ys.length<=cap/\Below w.heap.size w w'
theorem lM(n k:Nat)(hk:k=(n+63)/64):List.replicate k 0=rowOf n (fun _=>false):=by
 refine jW n _ _ ?_ (by simp;exact hk) ?_
 .intro i;unfold gt;rw[List.getD_eq_getElem?_getD,List.getElem?_replicate];split<;>simp
 .intro i _;unfold bitAt gt;rw[List.getD_eq_getElem?_getD,List.getElem?_replicate];split<;>simp
open Go.RowKit Num Bit Ji Hp
def aX(l:List Nat):List Value:=l.map fun n:Nat=>Value.int .i64 (n:Int)
theorem jT(l:List Nat)(i:Nat)(h:i<l.length):(aX l)[i]?=some (.int .i64 (l.getD i 0:Nat)):=by
 unfold aX;rw[List.getElem?_map,List.getElem?_eq_getElem h,List.getD_eq_getElem?_getD,List.getElem?_eq_getElem h];rfl
theorem od(l:List Nat)(i v:Nat):(aX l).set i (.int .i64 v)=aX (l.set i v):=by simp[aX,List.map_set]
theorem Fu:(prog.info? 143).map (fun i=>(i.zero,i.size))=some (some (.agg (tv (fun _=>jI)).toArray),2044):=by kernel_rfl
theorem mB:(prog.info? 3).map (fun i=>(i.zero,i.size,i.bytes))=some (some (.int .i64 0),1,8):=by kernel_rfl
theorem JU{ops:Array Oper}{rest:List Oper}{d:Option Tmp}{ty:TypeId}{ps:String}{af:Array Edge}{a:Act}{w:World}{Q:Exit->Act->World->Prop}
  (h:∀w1,TH w1 w.heap.size (fun _=>jI)->Below w.heap.size w w1->w.heap.size<w1.heap.size->wpList prog ops Q rest (a.put d (.pointer (some ⟨w.heap.size,0,none⟩))) w1):
  wpList prog ops Q (⟨d,.alloc 143,ty,ps,af,none⟩::rest) a w:=by
 refine wpList_plain rfl fun K hK=>?_;unfold Oper.wp execOp;have z:=(zero_of_info Fu).1;have nw:=h _ (aa.new w (tv (fun _=>jI)) 143) (below_alloc w _) (by simp);refine cast ?_ (hK _ _ nw)
 simp[Instr.alloc,Sem.run_bind,z,newVar,Value.cells,go_sem]
theorem oM{w:World}{base g n:Nat}(h:w.ownsRow base 3 1 (.slice (some ⟨g,0,none⟩) n n) n (madeCells #[.int .i64 0] n).toList):aa w g (aX (List.replicate n 0)) 3:=by
 obtain⟨_,h | ⟨g',cap,cur,e,_,hh,_,_,hs,ht⟩⟩:=h
 .simp at h
 .simp only[Value.slice.injEq,Option.some.injEq,Addr.mk.injEq]at e;obtain⟨⟨rfl,_,_⟩,_,rfl⟩:=e;unfold aa;rw[hh]
  have e2:(madeCells #[.int .i64 0] n).toList=aX (List.replicate n 0):=by
   rw[toList_madeCells_one (.int .i64 0) n,aX,List.map_replicate];rfl
  rw[e2]at ht;have e3:cur.toList.take (n*1)=cur.toList:=List.take_of_length_le (by simp;omega);rw[e3]at ht;rw[<-ht]
def fg(l:List Int):List Nat:=(List.range 256).map (hlen (ay l) 256)
theorem jF{l:List Int}{top:Int}(h:cY l top=true):l.length=256/\∀i,i<l.length->0<=gi l i/\gi l i<=top:=by
 unfold cY at h;simp only[Bool.and_eq_true,decide_eq_true_eq,Bool.not_eq_true']at h;refine⟨h.1,fun i hi=>?_⟩;have:=Bool.eq_false_iff.1 h.2;have hb:¬bad top (gi l i)=true:=fun e=>this (xG hi e)
 unfold bad at hb;simp only[Bool.or_eq_true,decide_eq_true_eq]at hb;omega
theorem rr{l:List Int}(h:∀i,i<l.length->0<=gi l i/\gi l i<=1048576)(c:Nat):ay l c<=1048576:=by
 unfold ay;by_cases g:c<l.length
 .have:=h c g;omega
 .have:gi l c=0:=by unfold gi;rw[List.getD_eq_getElem?_getD,List.getElem?_eq_none (by omega)];rfl
  omega
def LO(w:World)(ys:List Nat)(e:Ending)(w':World):Prop:=∃g,e=.returned (.tuple #[.slice (some ⟨g,0,none⟩) 256 256,.int .i64 0])/\aa w' g (aX ys) 3/\w.heap.size<=g/\Below w.heap.size w w'
theorem LO.mk{w:World}{ys:List Nat}{e:Ending}{w':World}(g:Nat)(h1:e=.returned (.tuple #[.slice (some ⟨g,0,none⟩) 256 256,.int .i64 0]))(h2:aa w' g (aX ys) 3)(h3:w.heap.size<=g)(h4:Below w.heap.size w w'):LO w ys e w':=⟨g,h1,h2,h3,h4⟩
theorem vw(ao:Option Addr)(l:List Int)(cap:Nat)(w:World)(hx:Nd w ao l)(hl:l.length<=1048576)(hw:cY l 1048576=true):
  Calls prog 34 #[.slice ao l.length cap] w fun e w'=>LO w (fg l) e w':=by
 obtain⟨i0,hi,hz0,hz1,hz2⟩:=info_parts mB;have C:=ac (qz ao l cap 1048576 w hx hl);rw[hw]at C;obtain⟨h256,hbd⟩:=jF hw;have HBD:=ac hbd;have HCB:Hid (∀c,ay l c<=1048576):=rr hbd
 have HX:=ac hx;have HL:=ac h256;clear hx hw hbd h256;go_enter func34,ntmps34;go_wp2_with fail;refine mr (C.out) fun w1 hb1=>?_;go_wp2_with (refine JU ?_);intro w2 hT2 hb2 hs2
 have HN:Hid (xL w1.heap.size w2 ao l):=by
  obtain⟨b,off,e,hlt,hc⟩:=HX.out (by have:=HL.out;omega);have h1:=hb1.size;refine⟨b,off,e,by omega,by omega,fun i hi=>?_⟩;have k1:=(hb1.cell (p:=⟨b,off+i,none⟩) hlt).trans (hc i hi)
  exact(hb2.cell (p:=⟨b,off+i,none⟩) (by show b<_;omega)).trans k1
 have HB2:=ac (bg hb1 hb2);have hg0:=hb1.size;have HT2:=ac hT2;have hgl:w1.heap.size<w2.heap.size:=hs2;clear hb1 hb2 hT2 hs2;generalize w1.heap.size=g at *;go_wp2_with fail
 refine(E_ g ao l cap w2 HT2.out HL.out HBD.out HN.out).mono ?_;rintro e w3 ⟨rfl,f3,hT3,hS3,hB3⟩;have HS3:=ac hS3;have HT3:=ac hT3;have HB3:=ac (HB2.out.trans (hB3.below hg0 (by omega)))
 have hn3:(used (ay l) 256).length<=256:=jG _ _;clear hT3 hS3 hB3 HB2 HT2 HN hgl;obtain⟨n,hn⟩:∃n,Hid (n=(used (ay l) 256).length):=⟨_,rfl⟩;rw[<-hn.out]at HS3 hn3⊢;go_wp2_with fail
 refine(Fa g n (ay l) f3 w3 HT3.out HS3.out HCB.out).mono ?_;rintro e w4 ⟨rfl,f4,hT4,hP4,hB4⟩;have HP4:=ac hP4;have HT4:=ac hT4;have HB4:=ac (HB3.out.trans (hB4.below hg0 (by have:=HT3.out.lt;omega)))
 clear hT4 hP4 hB4 HB3 HT3
 have CM:Hid (∀v:Int,v=(n:Nat)->Calls prog 81 #[.pointer (some ⟨g,0,none⟩),.int .i64 v] w4 fun e w'=>e=.returned (.tuple #[])/\SO g w4 (fun F=>mO (ay l) n F) w'):=by
  intro v hv;subst hv;rcases HP4.out with⟨c1,c2⟩ | ⟨c1,c2,S,hh,c3⟩
  .refine(E9 g n f4 w4 HT4.out c1).mono ?_;rintro e w' ⟨rfl,F,hT,rfl,hB⟩;exact⟨rfl,F,hT,by rw[c2];exact DU HS3.out c1,hB⟩
  .refine(E8 g n _ f4 S hh w4 HT4.out c1 hn3 c3).mono ?_;rintro e w' ⟨rfl,F,hT,hM,hB⟩;exact⟨rfl,F,hT,hM.done HCB.out HS3.out c1 c2 c3,hB⟩
 have hlt4:=HT4.out.lt;clear HP4 HT4;go_wp2_with fail;refine(CM.out _ rfl).mono ?_;rintro e w5 ⟨rfl,F,hT5,hL5,hB5⟩;have HL5:=ac hL5;have HT5:=ac hT5;have HB5:=ac (HB4.out.trans (hB5.below hg0 (by omega)))
 have hlt5:g<w5.heap.size:=hT5.lt;clear hT5 hL5 hB5 HB4 CM HS3 hlt4
 go_wp2_with (at_make;refine wpList_make_full _ rfl _ _ 24 rfl w5.heap.size 3 i0 (.int .i64 0) 1 underlying24 hi hz0 hz1 .i64 .i64 _ _ 256 rfl rfl rfl rfl ?b2 ?b3 ?b4 ?_)
 case b2=>rw[hz2];omega
 case b3=>unfold maxLen;omega
 case b4=>simp
 intro w6 hown hgr;have B6:=oM hown;have hb6:Below w5.heap.size w5 w6:=(Below.refl _ _).grown hgr (Nat.le_refl _) (fun k h=>by cases h);have HT6:=ac (HT5.out.kept hb6)
 have HB6:=ac (HB5.out.trans (hb6.mono (by omega)));rw[<-DV (ay l) F]at B6;have HC6:=ac B6;clear hown hgr hb6 hi hz0 hz1 hz2 HT5 HB5 B6;generalize w5.heap.size=gl at *;have n511:(n:Int)<=511:=by omega
 go_wp2;go_loopw [22] (fun vi wr=>∃q:Nat,q<=n/\vi=.int .i64 q/\Hid (aa wr gl (aX (ia (ay l) F q)) 3)/\Hid (TH wr g F)/\Hid (Below w.heap.size w wr)) (fun vi _=>n-(intOf vi).toNat)
 case atStart=>exact⟨0,Nat.zero_le _,rfl,HC6,HT6,HB6⟩
 case round=>
  clear HC6 HT6 HB6;obtain⟨q,hq,rfl,HC,HT,HB⟩:=hrel;by_cases hlt:q<n
  .have hltz:(q:Int)<(n:Int):=by omega
   have t0:=HT.out.c0 q (by omega);have t1:=HT.out.c1 q (by omega);have t2:=HT.out.c2 q (by omega);have t3:=HT.out.c3 q (by omega);have hsy:=(gh.1 (HL5.out.sy q hlt)).1;have hln:=(HL5.out.ln q hlt).2
   have HST:=ac (DW HL5.out q hlt);have glt:gl<wr.heap.size:=HC.out.lt;have glg:g<gl:=hlt5;have hc0:=HC.out.cell (F q).sy (jT _ _ (by simp[ia];omega));have hf0:=HC.out.frozen (F q).sy
   have HC1:Hid (∀o:Obj,aa ((wr.setCell ⟨gl,(F q).sy,none⟩ (.int .i64 ((max (F q).ln 1:Nat):Int))).alloc o) gl (aX (ia (ay l) F (q+1))) 3):=fun o=>by
    have:=HC.out.set (F q).sy (.int .i64 ((max (F q).ln 1:Nat):Int));rw[od,HST.out]at this;exact this.alloc o
   have HT1:Hid (∀(o:Obj) v,TH ((wr.setCell ⟨gl,(F q).sy,none⟩ v).alloc o) g F):=fun o v=>(aa.other (a:=⟨gl,(F q).sy,none⟩) HT.out (by show g≠gl;omega) v).alloc o
   have HB1:Hid (∀(o:Obj) v,Below w.heap.size w ((wr.setCell ⟨gl,(F q).sy,none⟩ v).alloc o)):=fun o v=>(HB.out.setCell (by show w.heap.size<=gl;omega) v).alloc (by have:=HB.out.size;simpa using this) o
   have hsyz:((F q).sy:Int)<256:=by omega
   clear HST HC HT HB;by_cases hl0:(F q).ln=0
   .rw[hl0]at t3 HC1;have e1:((max 0 1:Nat):Int)=1:=rfl;rw[e1]at HC1;clear e1;clear hln hl0;generalize (F q).sy=sy at *;generalize (F q).ct=ct at *;generalize (F q).it=it at *;go_wp2
    exact⟨⟨q+1,by omega,by go_num,HC1.out _,HT1.out _ _,HB1.out _ _⟩,by simp only[intOf];omega⟩
   .have hl1:max (F q).ln 1=(F q).ln:=by omega
    have hl2:(1:Int)<=((F q).ln:Int):=by omega
    rw[hl1]at HC1;clear hl1;generalize (F q).ln=ln at *;generalize (F q).sy=sy at *;generalize (F q).ct=ct at *;generalize (F q).it=it at *;go_wp2
    exact⟨⟨q+1,by omega,by go_num,HC1.out _,HT1.out _ _,HB1.out _ _⟩,by simp only[intOf];omega⟩
  .obtain rfl:q=n:=by omega
   have HC7:Hid (aa wr gl (aX (fg l)) 3):=by
    have:=HC.out;rw[DX HL5.out]at this;exact this
   clear HC;go_wp2;go_ret2;exact LO.mk gl rfl HC7.out (by omega) HB.out
end Go.Proofs.YtleegaihbgbcjaaGreatDoor
namespace Go.Proofs.YtleegaihbgbcjaaGreatDoor.Sh
open Num Bit
def cp(P:Nat->Bool)(t:List Nat):Nat->Nat
 | 0=>0
 | i+1=>cp P t i+(P (gt t i)).toNat
def mem(P:Nat->Bool)(t:List Nat)(n:Nat):List Nat:=(List.range n).filter fun j=>P (gt t j)
def row(P f:Nat->Bool)(t:List Nat)(n:Nat):List Bool:=(mem P t n).map fun j=>f (gt t j)
def ct(b:Bool)(l:List Bool)(i:Nat):Nat:=((l.take i).filter (·==b)).length
theorem mc(P:Nat->Bool)(t:List Nat)(n:Nat):mem P t (n+1)=mem P t n++if P (gt t n)then [n]else []:=by
 unfold mem;rw[List.range_succ,List.filter_append];cases h:P (gt t n)<;>simp[h]
theorem length_mem(P:Nat->Bool)(t:List Nat)(n:Nat):(mem P t n).length=cp P t n:=by
 induction n with
 | zero=>rfl
 | succ n ih=>
  rw[mc,List.length_append,ih,cp];cases P (gt t n)<;>rfl
theorem cp_le(P:Nat->Bool)(t:List Nat)(i:Nat):cp P t i<=i:=by
 induction i with
 | zero=>exact Nat.le_refl _
 | succ i ih=>have:=Bool.toNat_le (P (gt t i));rw[cp];omega
theorem cp_mono(P:Nat->Bool)(t:List Nat)(i d:Nat):cp P t i<=cp P t (i+d):=by
 induction d with
 | zero=>exact Nat.le_refl _
 | succ d ih=>rw[show i+(d+1)=i+d+1 by omega,cp];omega
theorem cp_congr{P Q:Nat->Bool}{t:List Nat}{i:Nat}(h:∀j,j<i->P (gt t j)=Q (gt t j)):cp P t i=cp Q t i:=by
 induction i with
 | zero=>rfl
 | succ i ih=>rw[cp,cp,ih fun j hj=>h j (by omega),h i (by omega)]
theorem cp_all(t:List Nat)(i:Nat)(P:Nat->Bool)(h:∀j,j<i->P (gt t j)=true):cp P t i=i:=by
 induction i with
 | zero=>rfl
 | succ i ih=>rw[cp,ih fun j hj=>h j (by omega),h i (by omega)];rfl
theorem uI(P:Nat->Bool)(t:List Nat)(i d:Nat):(mem P t (i+d)).take (cp P t i)=mem P t i:=by
 induction d with
 | zero=>rw[<-length_mem];exact List.take_length
 | succ d ih=>
  rw[show i+(d+1)=i+d+1 by omega,mc,List.take_append_of_le_length (by rw[length_mem];exact cp_mono _ _ _ _),ih]
theorem mem_at(P:Nat->Bool)(t:List Nat)(j n:Nat)(hj:j<n)(h:P (gt t j)=true):(mem P t n)[cp P t j]?=some j:=by
 have e:=uI P t (j+1) (n-(j+1));rw[show j+1+(n-(j+1))=n by omega]at e
 have g:(mem P t (j+1))[cp P t j]?=some j:=by
  rw[mc,h,if_pos rfl,<-length_mem,List.getElem?_append_right (Nat.le_refl _),Nat.sub_self];rfl
 rw[<-e,List.getElem?_take_of_lt (by rw[cp,h];simp)]at g;exact g
theorem length_row(P f:Nat->Bool)(t:List Nat)(n:Nat):(row P f t n).length=cp P t n:=by
 unfold row;rw[List.length_map,length_mem]
theorem AE(P f:Nat->Bool)(t:List Nat)(j n:Nat)(hj:j<n)(h:P (gt t j)=true):(row P f t n)[cp P t j]?=some (f (gt t j)):=by
 unfold row;rw[List.getElem?_map,mem_at P t j n hj h];rfl
theorem row_ct(P f:Nat->Bool)(t:List Nat)(i n:Nat)(hi:i<=n)(b:Bool):ct b (row P f t n) (cp P t i)=cp (fun c=>P c&&(f c==b)) t i:=by
 have e:=uI P t i (n-i);rw[show i+(n-i)=n by omega]at e;unfold ct row;rw[<-List.map_take,e];clear e hi;induction i with
 | zero=>rfl
 | succ i ih=>
  rw[mc,List.map_append,List.filter_append,List.length_append,ih,cp];cases h:P (gt t i)
  .rfl
  .cases h2:(f (gt t i)==b)<;>simp[h2]
section
variable (v k:Nat->Nat)
def pre(L c:Nat):Nat:=k c/2^(v c-L)
def bg(L x c:Nat):Bool:=decide (L<=v c)&&decide (pre v k L c=x)
def st(L x c:Nat):Bool:=decide (L<v c)&&decide (pre v k L c=x)
def nb(L c:Nat):Bool:=decide (pre v k (L+1) c%2=1)
def Apart:Prop:=∀c d,0<v c->0<v d->v c<=v d->pre v k (v c) d=k c->c=d
theorem tY{L c:Nat}(h:L<v c):pre v k (L+1) c/2=pre v k L c:=by
 unfold pre;rw[Nat.div_div_eq_div_mul,<-Nat.pow_succ,show(v c-(L+1)).succ=v c-L by omega]
theorem pre_succ{L c:Nat}(h:L<v c):pre v k (L+1) c=2*pre v k L c+(nb v k L c).toNat:=by
 have:=tY v k h;unfold nb;by_cases e:pre v k (L+1) c%2=1
 .rw[decide_eq_true e];simp;omega
 .rw[decide_eq_false e];simp;omega
theorem pre_all(c:Nat):pre v k (v c) c=k c:=by unfold pre;simp
theorem pre_zero{c:Nat}(h:k c<2^v c):pre v k 0 c=0:=by
 unfold pre;exact Nat.div_eq_of_lt (by simpa using h)
theorem st_step(L x c:Nat)(b:Bool):(st v k L x c&&(nb v k L c==b))=bg v k (L+1) (2*x+b.toNat) c:=by
 unfold st bg;by_cases h:L<v c
 .have e:=pre_succ v k h;rw[decide_eq_true h,decide_eq_true (show L+1<=v c by omega),Bool.true_and,Bool.true_and];by_cases g:pre v k L c=x
  .rw[decide_eq_true g,Bool.true_and,e,g];cases nb v k L c<;>cases b<;>simp<;>omega
  .rw[decide_eq_false g,Bool.false_and];refine(decide_eq_false fun z=>g ?_).symm;rw[e]at z;have:=Bool.toNat_le (nb v k L c);have:=Bool.toNat_le b;omega
 .rw[decide_eq_false h,decide_eq_false (show ¬L+1<=v c by omega)];rfl
theorem bg_st(hA:Apart v k){L c d:Nat}(hL:L<v c)(hd:0<v d):bg v k L (pre v k L c) d=st v k L (pre v k L c) d:=by
 unfold bg st;by_cases h:L<v d
 .rw[decide_eq_true h,decide_eq_true (show L<=v d by omega)]
 .by_cases e:v d=L
  .rw[decide_eq_false h,decide_eq_true (show L<=v d by omega),Bool.true_and,Bool.false_and];refine decide_eq_false fun z=>?_;subst e;rw[pre_all]at z;have:=hA d c hd (by omega) (by omega) z.symm;subst this;omega
  .rw[decide_eq_false h,decide_eq_false (show ¬L<=v d by omega)]
theorem bg_zero{c d:Nat}(hc:k c<2^v c)(hd:k d<2^v d):bg v k 0 (pre v k 0 c) d=true:=by
 unfold bg;rw[pre_zero v k hc,pre_zero v k hd];simp
theorem bg_all(hA:Apart v k){c d:Nat}(hc:0<v c)(hd:0<v d):bg v k (v c) (k c) d=decide (d=c):=by
 unfold bg;by_cases e:d=c
 .subst e;rw[pre_all];simp
 .rw[decide_eq_false e];by_cases h:v c<=v d
  .rw[decide_eq_true h,Bool.true_and];exact decide_eq_false fun z=>e (hA c d hc hd h z).symm
  .rw[decide_eq_false h,Bool.false_and]
def cc(t:List Nat)(c L i:Nat):Nat:=cp (bg v k L (pre v k L c)) t i
theorem cc_zero{t:List Nat}{c i:Nat}(hc:k c<2^v c)(h:∀j,j<i->k (gt t j)<2^v (gt t j)):cc v k t c 0 i=i:=cp_all _ _ _ fun j hj=>bg_zero v k hc (h j hj)
theorem cc_all(hA:Apart v k){t:List Nat}{c i:Nat}(hc:0<v c)(h:∀j,j<i->0<v (gt t j)):cc v k t c (v c) i=cp (fun d=>decide (d=c)) t i:=by
 unfold cc;rw[pre_all];exact cp_congr fun j hj=>bg_all v k hA hc (h j hj)
theorem cc_st(hA:Apart v k){t:List Nat}{c L i:Nat}(hL:L<v c)(h:∀j,j<i->0<v (gt t j)):cc v k t c L i=cp (st v k L (pre v k L c)) t i:=cp_congr fun j hj=>bg_st v k hA hL (h j hj)
def nrow(t:List Nat)(L x:Nat):List Bool:=row (st v k L x) (nb v k L) t t.length
theorem cc_down(hA:Apart v k){t:List Nat}{c L i:Nat}(hL:L<v c)(hi:i<=t.length)(h:∀j,j<t.length->0<v (gt t j)):ct (nb v k L c) (nrow v k t L (pre v k L c)) (cc v k t c L i)=cc v k t c (L+1) i:=by
 rw[cc_st v k hA hL fun j hj=>h j (by omega)];unfold nrow;rw[row_ct _ _ _ _ _ hi];unfold cc;rw[pre_succ v k hL];exact cp_congr fun j _=>st_step v k L _ _ _
theorem cc_bit(hA:Apart v k){t:List Nat}{j L:Nat}(hj:j<t.length)(hL:L<v (gt t j))(h:∀j,j<t.length->0<v (gt t j)):(nrow v k t L (pre v k L (gt t j)))[cc v k t (gt t j) L j]?=some (nb v k L (gt t j)):=by
 rw[cc_st v k hA hL fun i hi=>h i (by omega)];unfold nrow;exact AE _ _ _ _ _ hj (by unfold st;simp[hL])
end
end Go.Proofs.YtleegaihbgbcjaaGreatDoor.Sh
namespace Go.Proofs.YtleegaihbgbcjaaGreatDoor
open Go.RowKit Num Bit
def Bd(w:World)(ao:Option Addr)(t:List Nat):Prop:=
 0<t.length->∃b off,ao=some ⟨b,off,none⟩/\b<w.heap.size/\∀i,i<t.length->w.cell? ⟨b,off+i,none⟩=some (.int .u8 (gt t i))
theorem Bd.keep{w w':World}{ao:Option Addr}{t:List Nat}(h:Bd w ao t)(hb:Below w.heap.size w w'):Bd w' ao t:=by
 intro hi;obtain⟨b,off,e,hlt,hc⟩:=h hi;exact⟨b,off,e,Nat.lt_of_lt_of_le hlt hb.size,fun i hi=>(hb.cell (p:=⟨b,off+i,none⟩) hlt).trans (hc i hi)⟩
theorem JK(w:World)(ao:Option Addr):Bd w ao []:=fun h=>absurd h (by simp)
def cM(t:List Nat):Prop:=∀i,gt t i<256
def gV(t:List Nat)(i:Int):Int:=if i<0\/(t.length:Int)<i then 3 else 0
def iZ(t:List Nat)(c:Nat)(i:Int):Int:=if gV t i=0 then (Sh.cp (fun d=>decide (d=c)) t i.toNat:Int)else 0
theorem rp{P:Nat->Bool}{t:List Nat}:∀{n K:Nat},K<Sh.cp P t n->∃j,j<n/\P (gt t j)=true/\Sh.cp P t j=K
 | 0,K,h=>by simp[Sh.cp]at h
 | n+1,K,h=>by
  by_cases h1:K<Sh.cp P t n
  .obtain⟨j,a,b⟩:=rp h1;exact⟨j,by omega,b⟩
  .rw[Sh.cp]at h;cases hp:P (gt t n)
   .rw[hp]at h;simp at h;omega
   .rw[hp]at h;exact⟨n,by omega,hp,by simp at h;omega⟩
def fY(t:List Nat)(c:Nat)(K:Int):Prop:=0<=K/\K<(Sh.cp (fun d=>decide (d=c)) t t.length:Int)
instance (t:List Nat) (c:Nat) (K:Int):Decidable (fY t c K):=inferInstanceAs (Decidable (_/\_))
def gD(t:List Nat)(c:Nat)(K:Int):Int:=if fY t c K then 0 else 3
def fI(t:List Nat)(c:Nat)(K:Int):Int:=if fY t c K then ((Sh.mem (fun d=>decide (d=c)) t t.length).getD K.toNat 0:Nat)else 0
def gG(t:List Nat)(i:Int):Int:=if i<0\/(t.length:Int)<=i then 3 else 0
def saC(t:List Nat)(i:Int):Nat:=if gG t i=0 then gt t i.toNat else 0
theorem tt{t:List Nat}{i:Nat}(h:i<t.length):gG t (i:Int)=0/\saC t (i:Int)=gt t i:=by
 have e:gG t (i:Int)=0:=by unfold gG;rw[if_neg (by omega)]
 refine⟨e,?_⟩;unfold saC;rw[if_pos e,Int.toNat_natCast]
theorem s9{t:List Nat}{i:Nat}(c:Nat)(h:i<=t.length):gV t (i:Int)=0/\iZ t c (i:Int)=(Sh.cp (fun d=>decide (d=c)) t i:Nat):=by
 have e:gV t (i:Int)=0:=by unfold gV;rw[if_neg (by omega)]
 refine⟨e,?_⟩;unfold iZ;rw[if_pos e,Int.toNat_natCast]
theorem yS{t:List Nat}{c K:Nat}(h:K<Sh.cp (fun d=>decide (d=c)) t t.length):∃i,i<t.length/\gt t i=c/\Sh.cp (fun d=>decide (d=c)) t i=K/\gD t c (K:Int)=0/\fI t c (K:Int)=(i:Int):=by
 obtain⟨j,h1,h2,h3⟩:=rp h;have hk:fY t c (K:Int):=⟨by omega,by omega⟩;refine⟨j,h1,of_decide_eq_true h2,h3,by unfold gD;rw[if_pos hk],?_⟩;have e:=Sh.mem_at (fun d=>decide (d=c)) t j t.length h1 h2
 rw[h3]at e;unfold fI;rw[if_pos hk,Int.toNat_natCast,List.getD_eq_getElem?_getD,e];rfl
theorem yR{t:List Nat}{c:Nat}{K:Int}(h:¬(0<=K/\K<(Sh.cp (fun d=>decide (d=c)) t t.length:Int))):gD t c K=3/\fI t c K=0:=by
 unfold gD fI;exact⟨if_neg h,if_neg h⟩
theorem Hj(t:List Nat)(c i:Nat):Sh.cp (fun d=>decide (d=c)) t i<=i:=Sh.cp_le _ _ _
def gZ(t:List Nat):List Int:=t.map fun(y:Nat)=>(y:Int)
theorem conv{w:World}{ao:Option Addr}{t:List Nat}(cap:Nat)(h:Bd w ao t):(convert 22 9 (.slice ao t.length cap)).run prog w=.ok (.string (strOfNums (gZ t))) w:=by
 by_cases h0:0<t.length
 .obtain⟨b,off,rfl,_,hc⟩:=h h0;refine run_convert_bytes_arg w 22 5 underlying22 underlying5 b off t.length cap (gZ t) (by simp[gZ]) (fun i hi=>?_) 9 underlying9;rw[hc i hi]
  have:(gZ t).getD i 0=((gt t i:Nat):Int):=by
   unfold gZ gt;rw[List.getD_eq_getElem?_getD,List.getD_eq_getElem?_getD,List.getElem?_map,List.getElem?_eq_getElem hi];rfl
  rw[this]
 .obtain rfl:t=[]:=List.eq_nil_of_length_eq_zero (by omega);cases ao with
  | none=>exact run_convert_bytes_nil w 22 5 underlying22 underlying5 0 cap 9 underlying9
  | some a=>exact run_convert_bytes_back w 22 9 5 a cap [] underlying22 underlying5 underlying9 (fun j hj=>absurd hj (by simp))
def ab:List Nat:=[97,98,114,97,99,97,100,97,98,114,97]
theorem IZ:cM ab:=fun i=>by
 by_cases h:i<11
 .have:∀j:Fin 11,gt ab j.val<256:=by decide
  exact this ⟨i,h⟩
 .rw[jr _ _ (by show 11<=i;omega)];decide
theorem J7:gt ab 4=99/\Sh.cp (fun d=>decide (d=97)) ab 8=4/\gt ab 9=114/\Sh.cp (fun d=>decide (d=114)) ab 9=1/\Sh.cp (fun d=>decide (d=122)) ab 11=0:=by decide +kernel
theorem J5:strOfNums (gZ ab)=⟨#[97,98,114,97,99,97,100,97,98,114,97]⟩:=by rfl
theorem J8(w:World):Bd (w.alloc (.cells #[.int .u8 97,.int .u8 98,.int .u8 114,.int .u8 97,.int .u8 99,.int .u8 97,.int .u8 100,.int .u8 97,.int .u8 98,.int .u8 114,.int .u8 97] 5 (11,12))) (some ⟨w.heap.size,0,none⟩) ab:=by
 intro _;refine⟨w.heap.size,0,rfl,by simp,fun i hi=>?_⟩;have hi:i<11:=hi;match i,hi with
 | 0,_=>rw[World.cell?_alloc_mark];simp[ab,gt]
 | 1,_=>rw[World.cell?_alloc_mark];simp[ab,gt]
 | 2,_=>rw[World.cell?_alloc_mark];simp[ab,gt]
 | 3,_=>rw[World.cell?_alloc_mark];simp[ab,gt]
 | 4,_=>rw[World.cell?_alloc_mark];simp[ab,gt]
 | 5,_=>rw[World.cell?_alloc_mark];simp[ab,gt]
 | 6,_=>rw[World.cell?_alloc_mark];simp[ab,gt]
 | 7,_=>rw[World.cell?_alloc_mark];simp[ab,gt]
 | 8,_=>rw[World.cell?_alloc_mark];simp[ab,gt]
 | 9,_=>rw[World.cell?_alloc_mark];simp[ab,gt]
 | 10,_=>rw[World.cell?_alloc_mark];simp[ab,gt]
def ctl(t:List Nat)(i:Nat):List Nat:=(List.range 256).map fun c=>Sh.cp (fun d=>decide (d=c)) t i
theorem ii(t:List Nat)(i:Nat):(ctl t i).length=256:=by simp[ctl]
theorem kN(t:List Nat)(i c:Nat)(h:c<256):gt (ctl t i) c=Sh.cp (fun d=>decide (d=c)) t i:=by
 unfold ctl gt;rw[List.getD_eq_getElem?_getD,List.getElem?_map,List.getElem?_range h];rfl
theorem Hd(t:List Nat):ctl t 0=List.replicate 256 0:=by
 unfold ctl;rw[show(fun c=>Sh.cp (fun d=>decide (d=c)) t 0)=fun _=>0 from rfl,List.map_const'];simp
theorem Hf(t:List Nat)(i:Nat)(h:gt t i<256):(ctl t i).set (gt t i) (gt (ctl t i) (gt t i)+1)=ctl t (i+1):=by
 refine list_ext _ _ (by simp[ii]) fun c hc=>?_;rw[List.length_set,ii]at hc;rw[gt_set _ _ _ _ (by rw[ii];exact h),kN _ _ _ hc,kN _ _ _ hc,kN _ _ _ h,Sh.cp];by_cases e:gt t i=c
 .subst e;simp
 .rw[if_neg e,decide_eq_false e];rfl
theorem Ae(ao:Option Addr)(t:List Nat)(cap:Nat)(w:World)(hx:Bd w ao t)(hB:cM t)(hn:t.length<=1048576):
  Calls prog 35 #[.slice ao t.length cap] w fun e w'=>∃g,e=.returned (.slice (some ⟨g,0,none⟩) 256 256)/\aa w' g (aX (ctl t t.length)) 3/\w.heap.size<=g/\Below w.heap.size w w':=by
 obtain⟨i0,hi,hz0,hz1,hz2⟩:=info_parts mB;have HX:=ac hx;clear hx;go_enter func35,ntmps35
 go_wp2_with (at_make;refine wpList_make_full _ rfl _ _ 24 rfl w.heap.size 3 i0 (.int .i64 0) 1 underlying24 hi hz0 hz1 .i64 .i64 _ _ 256 rfl rfl rfl rfl ?b2 ?b3 ?b4 ?_)
 case b2=>rw[hz2];omega
 case b3=>unfold maxLen;omega
 case b4=>simp
 intro w1 hown hgr;have B1:=oM hown;have hb1:Below w.heap.size w w1:=(Below.refl _ _).grown hgr (Nat.le_refl _) (fun k h=>by cases h);rw[<-Hd t]at B1;have HL1:=ac B1;have HB1:=ac hb1
 clear hown hgr hb1 hi hz0 hz1 hz2 B1;obtain⟨gl,hgl⟩:∃gl,Hid (gl=w.heap.size):=⟨_,rfl⟩;rw[<-hgl.out]at HL1⊢;go_wp2
 go_loopw [9] (fun vi wr=>∃q:Nat,q<=t.length/\vi=.int .i64 q/\Hid (aa wr gl (aX (ctl t q)) 3)/\Hid (Below w.heap.size w wr)) (fun vi _=>t.length-(intOf vi).toNat)
 case atStart=>exact⟨0,Nat.zero_le _,rfl,HL1,HB1⟩
 case round=>
  clear HL1 HB1;obtain⟨q,hq,rfl,HL,HB⟩:=hrel;by_cases hlt:q<t.length
  .have hltz:(q:Int)<(t.length:Int):=by omega
   obtain⟨b,off,rfl,hlb,hc⟩:=(HX.out.keep HB.out) (by omega);have a0:=hc q hlt;have hc8:=hB q;have n0:=HL.out.cell (gt t q) (jT _ (gt t q) (by rw[ii];exact hc8))
   rw[show(ctl t q).getD (gt t q) 0=gt (ctl t q) (gt t q)from rfl]at n0;have vle:gt (ctl t q) (gt t q)<=q:=by rw[kN _ _ _ hc8];exact Sh.cp_le _ _ _
   have f0:=HL.out.frozen (gt t q);have glt:gl<wr.heap.size:=HL.out.lt
   have HL1:Hid (aa (wr.setCell ⟨gl,gt t q,none⟩ (.int .i64 ((gt (ctl t q) (gt t q)+1:Nat):Int))) gl (aX (ctl t (q+1))) 3):=by
    have:=HL.out.set (gt t q) (.int .i64 ((gt (ctl t q) (gt t q)+1:Nat):Int));rw[od,Hf t q hc8]at this;exact this
   clear hc;generalize gt (ctl t q) (gt t q)=v at *;generalize gt t q=c at *;have hgle:w.heap.size<=gl:=by have:=hgl.out;omega
   go_wp2;exact⟨⟨q+1,by omega,rfl,HL1,HB.out.setCell (by show w.heap.size<=gl;omega) _⟩,by simp only[intOf];omega⟩
  .obtain rfl:q=t.length:=by omega
   have hgle:w.heap.size<=gl:=by have:=hgl.out;omega
   go_wp2;go_ret;exact⟨gl,rfl,HL.out,by omega,HB.out⟩
def fW(n i:Nat):List Nat:=(List.range n).map fun j=>if j<i then j else 0
theorem nQ(n i:Nat):(fW n i).length=n:=by simp[fW]
theorem wg(n i j:Nat)(h:j<n):gt (fW n i) j=if j<i then j else 0:=by
 unfold fW gt;rw[List.getD_eq_getElem?_getD,List.getElem?_map,List.getElem?_range h];rfl
theorem Ca(n:Nat):fW n 0=List.replicate n 0:=by
 unfold fW;rw[show(fun j=>if j<0 then j else 0)=fun _=>0 by funext j;simp,List.map_const'];simp
theorem Cc(n:Nat):fW n n=List.range n:=by
 unfold fW;refine(List.map_congr_left fun j hj=>?_).trans (List.map_id _);rw[if_pos (List.mem_range.1 hj)];rfl
theorem Cb(n i:Nat)(h:i<n):(fW n i).set i i=fW n (i+1):=by
 refine list_ext _ _ (by simp[nQ]) fun c hc=>?_;rw[List.length_set,nQ]at hc;rw[gt_set _ _ _ _ (by rw[nQ];exact h),wg _ _ _ hc,wg _ _ _ hc];by_cases e:i=c
 .subst e;rw[if_pos rfl,if_pos (by omega)]
 .rw[if_neg e];by_cases d:c<i
  .rw[if_pos d,if_pos (by omega)]
  .rw[if_neg d,if_neg (by omega)]
theorem yY(n:Nat)(w:World)(hn:n<=1048576):
  Calls prog 64 #[.int .i64 n] w fun e w'=>∃g,e=.returned (.slice (some ⟨g,0,none⟩) n n)/\aa w' g (aX (List.range n)) 3/\w.heap.size<=g/\Below w.heap.size w w':=by
 obtain⟨i0,hi,hz0,hz1,hz2⟩:=info_parts mB;go_enter func64,ntmps64
 go_wp2_with (at_make;refine wpList_make_full _ rfl _ _ 24 rfl w.heap.size 3 i0 (.int .i64 0) 1 underlying24 hi hz0 hz1 .i64 .i64 _ _ n rfl rfl rfl rfl ?b2 ?b3 ?b4 ?_)
 case b2=>rw[hz2];omega
 case b3=>unfold maxLen;omega
 case b4=>simp
 intro w1 hown hgr;have B1:=oM hown;have hb1:Below w.heap.size w w1:=(Below.refl _ _).grown hgr (Nat.le_refl _) (fun k h=>by cases h);rw[<-Ca n]at B1;have HL1:=ac B1;have HB1:=ac hb1
 clear hown hgr hb1 hi hz0 hz1 hz2 B1;obtain⟨gl,hgl⟩:∃gl,Hid (gl=w.heap.size):=⟨_,rfl⟩;rw[<-hgl.out]at HL1⊢;go_wp2
 go_loopw [9] (fun vi wr=>∃q:Nat,q<=n/\vi=.int .i64 q/\Hid (aa wr gl (aX (fW n q)) 3)/\Hid (Below w.heap.size w wr)) (fun vi _=>n-(intOf vi).toNat)
 case atStart=>exact⟨0,Nat.zero_le _,rfl,HL1,HB1⟩
 case round=>
  clear HL1 HB1;obtain⟨q,hq,rfl,HL,HB⟩:=hrel;have hgle:w.heap.size<=gl:=by have:=hgl.out;omega
  by_cases hlt:q<n
  .have hltz:(q:Int)<(n:Int):=by omega
   have n0:=HL.out.cell q (jT _ q (by rw[nQ];exact hlt));have f0:=HL.out.frozen q;have glt:gl<wr.heap.size:=HL.out.lt
   have HL1:Hid (aa (wr.setCell ⟨gl,q,none⟩ (.int .i64 q)) gl (aX (fW n (q+1))) 3):=by
    have:=HL.out.set q (.int .i64 q);rw[od,Cb n q hlt]at this;exact this
   go_wp2;exact⟨⟨q+1,by omega,rfl,HL1,HB.out.setCell (by show w.heap.size<=gl;omega) _⟩,by simp only[intOf];omega⟩
  .obtain rfl:q=n:=by omega
   go_wp2;go_ret;exact⟨gl,rfl,by rw[<-Cc q];exact HL.out,by omega,HB.out⟩
end Go.Proofs.YtleegaihbgbcjaaGreatDoor
namespace Go.Proofs.YtleegaihbgbcjaaGreatDoor
open Go.RowKit
namespace Ap
theorem owns_below{w w':World}{base e n:Nat}{v:Value}{vs:List Value}(h:w.ownsRow base e 1 v n vs)(hb:Below w.heap.size w w'):w'.ownsRow base e 1 v n vs:=by
 obtain⟨h1,h2 | ⟨g,cap,cur,e1,e2,hh,r⟩⟩:=h
 .exact⟨h1,.inl h2⟩
 .exact⟨h1,.inr ⟨g,cap,cur,e1,e2,(hb.block g ((Array.getElem?_eq_some_iff.1 hh).1)).trans hh,r⟩⟩
theorem owns_shape{w:World}{base e n:Nat}{v:Value}{vs:List Value}(h:w.ownsRow base e 1 v n vs):∃ao cap,v=.slice ao n cap/\n<=cap/\(∀k,v.ownBlock=some k->base<=k/\k<w.heap.size):=by
 have hl:=h.lt;obtain⟨h1,⟨rfl,rfl⟩ | ⟨g,cap,cur,rfl,e2,hh,r,_⟩⟩:=h
 .exact⟨none,0,rfl,Nat.le_refl _,hl⟩
 .exact⟨some ⟨g,0,none⟩,cap,rfl,r,hl⟩
theorem AA(w:World)(base:Nat)(t ty e:TypeId)(i:TypeInfo)(size:Nat)(ht:prog.underlying t=some (.slice e))(hi:prog.info? e=some i)
  (v:Value) (n:Nat) (vs:List Value) (hown:w.ownsRow base e size v n vs) (xa:Option Addr) (c:Nat):
  (Builtin.append_ #[t,t] ty #[v,.slice xa 0 c]).run prog w=.ok v w:=by
 have hc:=fun ad:Addr=>run_firstCells_some (P:=prog) w i.size 0 ad 0 c [] (by simp) (by simp);rcases hown.2 with⟨rfl,rfl⟩ | ⟨g,cap,cur,rfl,_,_,hnc,_⟩
 .cases xa with
  | none=>simp[Builtin.append_,run_underlying ht,sizeOf,typeInfo,hi,Builtin.lenOf,Builtin.firstCells]
  | some ad=>simp[Builtin.append_,run_underlying ht,sizeOf,typeInfo,hi,Builtin.lenOf,hc]
 .cases xa with
  | none=>simp[Builtin.append_,run_underlying ht,sizeOf,typeInfo,hi,Builtin.lenOf,Builtin.firstCells,hnc,storeCells]
  | some ad=>simp[Builtin.append_,run_underlying ht,sizeOf,typeInfo,hi,Builtin.lenOf,hc,hnc,storeCells]
theorem step_append_u{ops:Array Oper}{o:Oper}{a:Act}{w:World}{K:Act->World->Prop}{Q:Exit->Act->World->Prop}{E:Prop}(hgd:o.guard=none)(s x:Operand)(t:TypeId)
  (ho:o.op=.call { callee:=.builtin .append,args:=#[s,x],argTypes:=#[t,t] })
  (base:Nat) (e:TypeId) (i:TypeInfo) (z:Value) (bytes:Nat) (ht:prog.underlying t=some (.slice e)) (hi:prog.info? e=some i) (hz:i.zero=some z)
  (hsize:i.size=1) (hby:i.bytes=bytes) (hzs:z.cells.size=1)
  (v:Value) (n:Nat) (vs:List Value) (hs:a.eval s=v) (hown:w.ownsRow base e 1 v n vs)
  (xa:Option Addr) (m c:Nat) (news:List Value) (hx:a.eval x=.slice xa m c) (hl:news.length=m) (hsrc:0<m->∃ad,xa=some ad/\∀j u,news[j]?=some u->w.cell? (ad.add j)=some u) (h1:∀u∈news,u.oneCell'=true)
  (h63:n+m<=maxLen) (hbytes:(n+m)*bytes<=140737488355328) (hbase:base<=w.heap.size)
  (h:∀ao cap w',w'.ownsRow base e 1 (.slice ao (n+m) cap) (n+m) (vs++news)->n+m<=cap->Below base w w'->(∀k,(Value.slice ao (n+m) cap).ownBlock=some k->(v.ownBlock=some k\/k=w.heap.size)/\k<w'.heap.size)->(∀k,k<w.heap.size->v.ownBlock≠some k->w'.heap[k]?=w.heap[k]?)->w.heap.size<=w'.heap.size->K (a.put o.dst (.slice ao (n+m) cap)) w'):
  if Region.wanted o (yielded ops a.tmps)=true then Oper.wp prog o a w K Q else E:=by
 have hw:Region.wanted o (yielded ops a.tmps)=true:=by simp[Region.wanted,hgd]
 rw[if_pos hw];by_cases hm:m=0
 .subst hm;have hn:news=[]:=List.eq_nil_of_length_eq_zero hl;subst hn;have hr:=AA w base t o.type e i 1 ht hi v n vs hown xa c;obtain⟨ao,cap,rfl,hc,hk⟩:=owns_shape hown;unfold Oper.wp execOp
  simp only[ho,resolve,invoke,builtin,Sem.run_bind,Sem.run_pure,Result.andThen_ok,List.map_toArray,List.map_cons,List.map_nil,hs,hx,hr]
  refine h ao cap w (by simpa using hown) hc (Below.refl _ _) (fun k e=>⟨.inl e,(hk k e).2⟩) (fun _ _ _=>rfl) (Nat.le_refl _)
 .obtain⟨ad,rfl,hn⟩:=hsrc (by omega);refine wp_append_lies w s x t ho base e i z 1 bytes ht hi hz hsize hby hzs (by decide) v n vs hs hown ad m c news hx (by omega) hn h1 (by omega) h63 hbytes hbase w.heap.size rfl ?_
  intro g cap w' o1 o2 o3 o4;refine h (some ⟨g,0,none⟩) cap w' o1 ?_ ?_ ?_ ?_ o2.size
  .obtain⟨_,h | ⟨g',cap',cur,e',_,hh,hle,_⟩⟩:=o1
   .simp at h
   .simp only[Value.slice.injEq]at e';omega
  .exact(Below.refl _ _).grown o2 hbase (fun k hk=>(hown.lt k hk).1)
  .intro k hk;simp only[Value.ownBlock,Option.some.injEq]at hk;subst hk;exact⟨o3,o4⟩
  .intro k hk hne;exact o2.block k hk (fun q=>hne q.symm)
theorem wpList_append_u{ops:Array Oper}{rest:List Oper}{o:Oper}{a:Act}{w:World}{Q:Exit->Act->World->Prop}(hgd:o.guard=none)(s x:Operand)(t:TypeId)
  (ho:o.op=.call { callee:=.builtin .append,args:=#[s,x],argTypes:=#[t,t] })
  (base:Nat) (e:TypeId) (i:TypeInfo) (z:Value) (bytes:Nat) (ht:prog.underlying t=some (.slice e)) (hi:prog.info? e=some i) (hz:i.zero=some z)
  (hsize:i.size=1) (hby:i.bytes=bytes) (hzs:z.cells.size=1)
  (v:Value) (n:Nat) (vs:List Value) (hs:a.eval s=v) (hown:w.ownsRow base e 1 v n vs)
  (xa:Option Addr) (m c:Nat) (news:List Value) (hx:a.eval x=.slice xa m c) (hl:news.length=m) (hsrc:0<m->∃ad,xa=some ad/\∀j u,news[j]?=some u->w.cell? (ad.add j)=some u) (h1:∀u∈news,u.oneCell'=true)
  (h63:n+m<=maxLen) (hbytes:(n+m)*bytes<=140737488355328) (hbase:base<=w.heap.size)
  (h:∀ao cap w',w'.ownsRow base e 1 (.slice ao (n+m) cap) (n+m) (vs++news)->n+m<=cap->Below base w w'->wpList prog ops Q rest (a.put o.dst (.slice ao (n+m) cap)) w'):wpList prog ops Q (o::rest) a w:=
 wpList_plain hgd fun K hK=>by
  have hw:Region.wanted o (yielded ops a.tmps)=true:=by simp[Region.wanted,hgd]
  have:=step_append_u (ops:=ops) (o:=o) (a:=a) (w:=w) (K:=K) (Q:=Q) (E:=True) hgd s x t ho base e i z bytes ht hi hz hsize hby hzs v n vs hs hown xa m c news hx hl hsrc h1 h63 hbytes hbase (fun ao cap w' h1 h2 h3 _ _ _=>hK _ _ (h ao cap w' h1 h2 h3))
  rw[if_pos hw]at this;exact this
def Apart(u v:Value):Prop:=∀k,u.ownBlock=some k->v.ownBlock≠some k
theorem Apart.symm{u v:Value}(h:Apart u v):Apart v u:=fun k hk hu=>h k hu hk
theorem apart_nil(v:Value):Apart v (.slice none 0 0):=fun k _ h=>by cases h
theorem owns_other{w w':World}{base e n:Nat}{v u:Value}{vs:List Value}(h:w.ownsRow base e 1 v n vs)(hkeep:∀k,k<w.heap.size->u.ownBlock≠some k->w'.heap[k]?=w.heap[k]?)(ha:Apart v u):w'.ownsRow base e 1 v n vs:=by
 have hl:=h.lt;obtain⟨h1,h2 | ⟨g,cap,cur,e1,e2,hh,r⟩⟩:=h
 .exact⟨h1,.inl h2⟩
 .subst e1;exact⟨h1,.inr ⟨g,cap,cur,rfl,e2,(hkeep g (hl g rfl).2 (ha g rfl)).trans hh,r⟩⟩
theorem apart_new{w w':World}{base e n:Nat}{v u u':Value}{vs:List Value}(h:w.ownsRow base e 1 v n vs)(hn:∀k,u'.ownBlock=some k->(u.ownBlock=some k\/k=w.heap.size)/\k<w'.heap.size)(ha:Apart v u):Apart v u':=by
 intro k hk hu;rcases(hn k hu).1 with c | c
 .exact ha k hk c
 .have:=(h.lt k hk).2;omega
theorem wpList_append_x{ops:Array Oper}{rest:List Oper}{o:Oper}{a:Act}{w:World}{Q:Exit->Act->World->Prop}(hgd:o.guard=none)(s x:Operand)(t:TypeId)
  (ho:o.op=.call { callee:=.builtin .append,args:=#[s,x],argTypes:=#[t,t] })
  (base:Nat) (e:TypeId) (i:TypeInfo) (z:Value) (bytes:Nat) (ht:prog.underlying t=some (.slice e)) (hi:prog.info? e=some i) (hz:i.zero=some z)
  (hsize:i.size=1) (hby:i.bytes=bytes) (hzs:z.cells.size=1)
  (v:Value) (n:Nat) (vs:List Value) (hs:a.eval s=v) (hown:w.ownsRow base e 1 v n vs)
  (xa:Option Addr) (m c:Nat) (news:List Value) (hx:a.eval x=.slice xa m c) (hl:news.length=m) (hsrc:0<m->∃ad,xa=some ad/\∀j u,news[j]?=some u->w.cell? (ad.add j)=some u) (h1:∀u∈news,u.oneCell'=true)
  (h63:n+m<=maxLen) (hbytes:(n+m)*bytes<=140737488355328) (hbase:base<=w.heap.size)
  (h:∀ao cap w',w'.ownsRow base e 1 (.slice ao (n+m) cap) (n+m) (vs++news)->n+m<=cap->Below base w w'->(∀k,(Value.slice ao (n+m) cap).ownBlock=some k->(v.ownBlock=some k\/k=w.heap.size)/\k<w'.heap.size)->(∀k,k<w.heap.size->v.ownBlock≠some k->w'.heap[k]?=w.heap[k]?)->w.heap.size<=w'.heap.size->wpList prog ops Q rest (a.put o.dst (.slice ao (n+m) cap)) w'):wpList prog ops Q (o::rest) a w:=
 wpList_plain hgd fun K hK=>by
  have hw:Region.wanted o (yielded ops a.tmps)=true:=by simp[Region.wanted,hgd]
  have:=step_append_u (ops:=ops) (o:=o) (a:=a) (w:=w) (K:=K) (Q:=Q) (E:=True) hgd s x t ho base e i z bytes ht hi hz hsize hby hzs v n vs hs hown xa m c news hx hl hsrc h1 h63 hbytes hbase (fun ao cap w' h1 h2 h3 h4 h5 h6=>hK _ _ (h ao cap w' h1 h2 h3 h4 h5 h6))
  rw[if_pos hw]at this;exact this
end Ap
end Go.Proofs.YtleegaihbgbcjaaGreatDoor
namespace Go.Proofs.YtleegaihbgbcjaaGreatDoor.Sh
open Num Bit
section
variable (v k:Nat->Nat)
def mz(L x:Nat):Bool:=(List.range 256).any (st v k L x)
def nM(L a:Nat):List Nat:=(List.range' a (2^L-a)).filter (mz v k L)
def nds:List (Nat×Nat):=(List.range 40).flatMap fun L=>(nM v k L 0).map fun x=>(L,x)
theorem isN_iff(L x:Nat):mz v k L x=true↔∃c,c<256/\L<v c/\pre v k L c=x:=by
 unfold mz st;simp
theorem mem_nds(L x:Nat)(hk:∀c,k c<2^v c):(L,x)∈nds v k↔L<40/\mz v k L x=true:=by
 unfold nds nM;rw[List.mem_flatMap];constructor
 .rintro⟨M,hM,h⟩;obtain⟨y,hy,e⟩:=List.mem_map.1 h;obtain⟨rfl,rfl⟩:=Prod.mk.inj e;exact⟨List.mem_range.1 hM,(List.mem_filter.1 hy).2⟩
 .rintro⟨h1,h2⟩;refine⟨L,List.mem_range.2 h1,List.mem_map.2 ⟨x,List.mem_filter.2 ⟨?_,h2⟩,rfl⟩⟩;obtain⟨c,_,c2,rfl⟩:=(isN_iff v k L x).1 h2;rw[List.mem_range'_1];refine⟨Nat.zero_le _,?_⟩;unfold pre
  rw[Nat.div_lt_iff_lt_mul (Nat.two_pow_pos _)];have e:2^v c=2^L*2^(v c-L):=by rw[<-Nat.pow_add,show L+(v c-L)=v c by omega]
  have:=hk c;simp only[Nat.sub_zero,Nat.zero_add];omega
theorem nodup_nds:(nds v k).Nodup:=by
 unfold nds List.Nodup;rw[List.pairwise_flatMap];refine⟨fun L _=>?_,?_⟩
 .rw[List.pairwise_map];unfold nM;exact(List.Pairwise.filter _ List.nodup_range').imp fun h e=>h (Prod.mk.inj e).2
 .refine List.Pairwise.imp (fun{a b} hne=>?_) (show List.Pairwise (fun a b=>a≠b) (List.range 40)from List.nodup_range);intro p h1 q h2 e;obtain⟨y,_,rfl⟩:=List.mem_map.1 h1;obtain⟨z,_,rfl⟩:=List.mem_map.1 h2
  exact hne (Prod.mk.inj e).1
end
end Go.Proofs.YtleegaihbgbcjaaGreatDoor.Sh
namespace Go.Proofs.YtleegaihbgbcjaaGreatDoor
open Go.RowKit Num Bit
namespace Sh
theorem AB(P f:Nat->Bool)(t:List Nat)(n:Nat):row P f t (n+1)=row P f t n++if P (gt t n)then [f (gt t n)]else []:=by
 unfold row;rw[mc,List.map_append];cases P (gt t n)<;>rfl
section
variable (v k:Nat->Nat)
def nxR(t:List Nat)(q l L x:Nat):List Bool:=row (st v k L x) (nb v k L) t q++if L<l/\st v k L x (gt t q)=true then [nb v k L (gt t q)]else []
theorem nxR_zero(t:List Nat)(L x:Nat):nxR v k t 0 0 L x=[]:=by
 unfold nxR;rw[if_neg (by omega)];rfl
theorem nxR_end(t:List Nat)(L x:Nat):nxR v k t t.length 0 L x=nrow v k t L x:=by
 unfold nxR nrow;rw[if_neg (by omega),List.append_nil]
theorem nxR_next(t:List Nat)(q L x:Nat):nxR v k t q (v (gt t q)) L x=nxR v k t (q+1) 0 L x:=by
 unfold nxR;rw[AB,if_neg (show ¬(L<0/\_)by omega),List.append_nil];cases h:st v k L x (gt t q)with
 | false=>rw[if_neg (by simp)];rfl
 | true=>
  have:L<v (gt t q):=by unfold st at h;simp at h;exact h.1
  rw[if_pos ⟨this,rfl⟩];rfl
theorem nxR_here(t:List Nat)(q l:Nat)(h:l<v (gt t q)):nxR v k t q (l+1) l (pre v k l (gt t q))=nxR v k t q l l (pre v k l (gt t q))++[nb v k l (gt t q)]:=by
 have s:st v k l (pre v k l (gt t q)) (gt t q)=true:=by unfold st;simp[h]
 unfold nxR;rw[if_pos ⟨by omega,s⟩,if_neg (by omega),List.append_nil]
theorem nxR_other(t:List Nat)(q l L x:Nat)(h:¬(L=l/\x=pre v k l (gt t q))):nxR v k t q (l+1) L x=nxR v k t q l L x:=by
 unfold nxR;by_cases e:L<l+1/\st v k L x (gt t q)=true
 .obtain⟨e1,e2⟩:=e;have e3:pre v k L (gt t q)=x:=by unfold st at e2;simp at e2;exact e2.2
  by_cases e4:L=l
  .subst e4;exact absurd ⟨rfl,e3.symm⟩ h
  .rw[if_pos ⟨e1,e2⟩,if_pos ⟨by omega,e2⟩]
 .rw[if_neg e,if_neg (fun g=>e ⟨by omega,g.2⟩)]
theorem nxR_le(t:List Nat)(q l L x:Nat):(nxR v k t q l L x).length<=q+1:=by
 unfold nxR;rw[List.length_append,length_row];have:=cp_le (st v k L x) t q;split<;>simp<;>omega
end
end Sh
def f_:Value:=.slice none 0 0
theorem pV{w w':World}{base e n:Nat}{v:Value}{vs:List Value}(h:w.ownsRow base e 1 v n vs)(hb:∀k,v.ownBlock=some k->w'.heap[k]?=w.heap[k]?):w'.ownsRow base e 1 v n vs:=by
 obtain⟨h1,h | ⟨g,cap,cur,rfl,a1,a2,a3⟩⟩:=h
 .exact⟨h1,.inl h⟩
 .exact⟨h1,.inr ⟨g,cap,cur,rfl,a1,(hb g rfl).trans a2,a3⟩⟩
structure NX (gm n:Nat) (M:Nat->Nat->Option Value) (R:Nat->Nat->List Bool) (w:World):Prop where
 map:CM w gm n M
 own:∀L x,L<=64->x<18446744073709551616->w.ownsRow (gm+1) 4 1 ((M L x).getD f_) (R L x).length ((R L x).map .bool)
 apart:∀L x L' x',L<=64->x<18446744073709551616->L'<=64->x'<18446744073709551616->¬(L'=L/\x'=x)->Ap.Apart ((M L x).getD f_) ((M L' x').getD f_)
theorem NX.keep{gm n:Nat}{M:Nat->Nat->Option Value}{R:Nat->Nat->List Bool}{w w':World}(h:NX gm n M R w)(hb:Below w.heap.size w w'):NX gm n M R w':=
 ⟨h.map.kept hb,fun L x hL hx=>Ap.owns_below (h.own L x hL hx) hb,h.apart⟩
theorem NX.congr{gm n:Nat}{M:Nat->Nat->Option Value}{R R':Nat->Nat->List Bool}{w:World}(h:NX gm n M R w)(e:∀L x,R' L x=R L x):NX gm n M R' w:=
 ⟨h.map,fun L x hL hx=>by rw[e];exact h.own L x hL hx,h.apart⟩
theorem NX.made(w:World):NX w.heap.size 0 (fun _ _=>none) (fun _ _=>[]) (w.alloc (.map #[] 0)):=
 ⟨CM.made w,fun L x _ _=>World.ownsRow_nil _ _ _ _,fun L x L' x' _ _ _ _ _=>Ap.apart_nil _⟩
theorem NX.push{gm n:Nat}{M:Nat->Nat->Option Value}{R R':Nat->Nat->List Bool}{w w1 w2 w3:World}{l x:Nat}{b:Bool}{v':Value}(h:NX gm n M R w)(hl:l<=64)(hx:x<18446744073709551616)
  (h1:∀k,k<w.heap.size->k≠gm->w1.heap[k]?=w.heap[k]?) (s1:w.heap.size<=w1.heap.size)
  (o2:w2.ownsRow (gm+1) 4 1 v' ((R l x).length+1) ((R l x).map .bool++[.bool b])) (h2:∀k,k<w1.heap.size->((M l x).getD f_).ownBlock≠some k->w2.heap[k]?=w1.heap[k]?)
  (hloc:∀k,v'.ownBlock=some k->(((M l x).getD f_).ownBlock=some k\/k=w1.heap.size)/\k<w2.heap.size)
  (h3:aw gm w2 w3) (hm:CM w3 gm (n+1) (cup M l x v')) (e1:R' l x=R l x++[b]) (e2:∀L y,¬(L=l/\y=x)->R' L y=R L y):NX gm (n+1) (cup M l x v') R' w3:=by
 have blk:∀L y,L<=64->y<18446744073709551616->∀k,((M L y).getD f_).ownBlock=some k->gm+1<=k/\k<w.heap.size:=fun L y hL hy k hk=>(h.own L y hL hy).lt k hk
 refine⟨hm,fun L y hL hy=>?_,fun L y L' y' hL hy hL' hy' hne=>?_⟩
 .by_cases e:L=l/\y=x
  .obtain⟨rfl,rfl⟩:=e;rw[fj,e1,List.length_append,List.map_append];refine pV o2 fun k hk=>h3.block k ?_;rcases(hloc k hk).1 with g | g
   .have:=(blk L y hL hy k g).1;omega
   .have:=hm.lt;have:=h.map.lt;omega
  .rw[cup_other M v' e,e2 L y e];refine pV (h.own L y hL hy) fun k hk=>?_;have hb:=blk L y hL hy k hk;have ap:=h.apart L y l x hL hy hl hx (fun g=>e ⟨g.1.symm,g.2.symm⟩) k hk
   rw[h3.block k (by omega),h2 k (by omega) ap,h1 k hb.2 (by omega)]
 .by_cases e:L=l/\y=x
  .obtain⟨rfl,rfl⟩:=e;rw[fj,cup_other M v' hne];intro k hk hk2;have hk3:v'.ownBlock=some k:=hk;have b2:=blk L' y' hL' hy' k hk2;rcases(hloc k hk3).1 with g | g
   .exact h.apart L y L' y' hL hy hL' hy' hne k g hk2
   .omega
  .by_cases e':L'=l/\y'=x
   .obtain⟨rfl,rfl⟩:=e';rw[fj,cup_other M v' e];intro k hk hk2;have hk3:v'.ownBlock=some k:=hk2;have b2:=blk L y hL hy k hk;rcases(hloc k hk3).1 with g | g
    .exact h.apart L y L' y' hL hy hL' hy' hne k hk g
    .omega
   .rw[cup_other M v' e,cup_other M v' e'];exact h.apart L y L' y' hL hy hL' hy' hne
end Go.Proofs.YtleegaihbgbcjaaGreatDoor
namespace Go.Proofs.YtleegaihbgbcjaaGreatDoor.Ht
open Hr
def ef(l:Nat->Nat)(n q c:Nat):Bool:=decide (l c<n)||(decide (l c=n)&&decide (c<q))
theorem iP{l:Nat->Nat}{n q c:Nat}:ef l n q c=true↔l c<n\/(l c=n/\c<q):=by
 unfold ef;simp only[Bool.or_eq_true,Bool.and_eq_true,decide_eq_true_eq]
theorem nI{l:Nat->Nat}{P Q:Nat->Bool}:∀k,(∀c,c<k->P c=Q c)->aH l P k=aH l Q k
 | 0,_=>rfl
 | k+1,h=>by
  unfold aH;rw[nI k (fun c hc=>h c (by omega)),h k (by omega)]
theorem uw{l:Nat->Nat}{P Q:Nat->Bool}{a:Nat}(h:∀c,c≠a->P c=Q c)(hp:P a=false)(hq:Q a=true)(hl:0<l a):∀k,a<k->aH l Q k=aH l P k+2^(40-l a)
 | 0,h0=>absurd h0 (Nat.not_lt_zero _)
 | k+1,h0=>by
  unfold aH;by_cases e:a=k
  .subst e;rw[nI a (fun c hc=>(h c (by omega)).symm),if_pos ⟨hl,hq⟩,if_neg (by rw[hp];simp)];rfl
  .rw[uw h hp hq hl k (by omega),h k (fun e2=>e e2.symm)];omega
theorem Ia(l:Nat->Nat)(q:Nat):ef l (l q) q=Hr.ahead l q:=rfl
theorem Hy(l:Nat->Nat)(n q k:Nat)(h:l q≠n):aH l (ef l n (q+1)) k=aH l (ef l n q) k:=
 nI k fun c _=>by
  rw[Bool.eq_iff_iff,iP,iP];constructor
  .rintro(e | ⟨e1,e2⟩)
   .exact .inl e
   .refine .inr ⟨e1,?_⟩;by_cases g:c=q
    .subst g;exact absurd e1 h
    .omega
  .rintro(e | ⟨e1,e2⟩)
   .exact .inl e
   .exact .inr ⟨e1,by omega⟩
theorem H_(l:Nat->Nat)(q k:Nat)(hl:0<l q)(hk:q<k):aH l (ef l (l q) (q+1)) k=aH l (ef l (l q) q) k+2^(40-l q):=by
 refine uw (fun c hc=>?_) ?_ ?_ hl k hk
 .rw[Bool.eq_iff_iff,iP,iP];omega
 .refine Bool.eq_false_iff.2 fun e=>?_;have:=iP.1 e;omega
 .exact iP.2 (by omega)
theorem Hz(l:Nat->Nat)(n k:Nat):aH l (ef l (n+1) 0) k=aH l (ef l n k) k:=
 nI k fun c hc=>by
  rw[Bool.eq_iff_iff,iP,iP];omega
theorem Hx(l:Nat->Nat)(k:Nat):aH l (ef l 1 0) k=0:=by
 induction k with
 | zero=>rfl
 | succ k ih=>
  unfold aH;rw[ih,if_neg];rintro⟨h1,h2⟩;have:=iP.1 h2;omega
structure At (l:Nat->Nat) (k n q nx at_:Nat):Prop where
 le:at_<=n
 le40:at_<=40
 sum:nx*2^(40-at_)=aH l (ef l n q) k
end Go.Proofs.YtleegaihbgbcjaaGreatDoor.Ht
namespace Go.Proofs.YtleegaihbgbcjaaGreatDoor.Ka
open Hr Ht Hp
def cl(l:Nat->Nat)(L:Nat):Nat->Nat
 | 0=>0
 | q+1=>cl l L q+(if 0<l q/\l q=L then 1 else 0)
def fst(l:Nat->Nat):Nat->Nat
 | 0=>0
 | L+1=>2*(fst l L+cl l L 256)
theorem xh(l:Nat->Nat)(q:Nat):cl l 0 q=0:=by
 induction q with
 | zero=>rfl
 | succ q ih=>unfold cl;rw[ih,if_neg (by omega)]
theorem rq(l:Nat->Nat)(L q k:Nat)(h:0<L)(hq:q<=k):aH l (ef l L q) k=aH l (ef l L 0) k+cl l L q*2^(40-L):=by
 induction q with
 | zero=>unfold cl;rw[Nat.zero_mul];rfl
 | succ q ih=>
  have e:=ih (by omega);unfold cl;by_cases c:l q=L
  .subst c;rw[H_ l q k h (by omega),e,if_pos ⟨h,rfl⟩,Nat.add_mul,Nat.one_mul];omega
  .rw[Hy l L q k c,e,if_neg (fun x=>c x.2)];rfl
theorem yt(x y:Nat):2*x*y=x*(y*2):=by rw[Nat.mul_comm 2 x,Nat.mul_assoc,Nat.mul_comm 2 y]
theorem qU(l:Nat->Nat):∀L,0<L->L<=40->fst l L*2^(40-L)=aH l (ef l L 0) 256
 | 0,h,_=>absurd h (Nat.lt_irrefl _)
 | 1,_,_=>by
  rw[Hx]
  have e:fst l 1=0:=by
   show 2*(0+cl l 0 256)=0;rw[xh]
  rw[e,Nat.zero_mul]
 | L+2,_,h=>by
  have ih:=qU l (L+1) (by omega) (by omega);rw[Hz,rq l (L+1) 256 256 (by omega) (Nat.le_refl _),<-ih];show 2*(fst l (L+1)+cl l (L+1) 256)*2^(40-(L+2))=_
  rw[show 40-(L+1)=(40-(L+2))+1 by omega,Nat.pow_succ,<-Nat.add_mul];exact yt _ _
theorem Ib(l:Nat->Nat)(q:Nat)(h:0<l q)(h40:l q<=40)(hq:q<256):fst l (l q)+cl l (l q) q=fk l 256 q:=by
 have e:=oH l 256 q h40;have e1:=rq l (l q) q 256 h (by omega);rw[Ia,e,<-qU l (l q) h h40,<-Nat.add_mul]at e1;exact(Nat.mul_right_cancel (Nat.two_pow_pos _) e1).symm
theorem wH(l:Nat->Nat)(hs:aH l (fun _=>true) 256<=2^40)(L:Nat)(h40:L<=40):fst l L+cl l L 256<=2^40:=by
 by_cases c:L=0
 .subst c;rw[xh];unfold fst;omega
 .have e1:=rq l L 256 256 (by omega) (Nat.le_refl _);rw[<-qU l L (by omega) h40,<-Nat.add_mul]at e1;have m:=qe (l:=l) (P:=ef l L 256) (Q:=fun _=>true) (fun _ _=>rfl) 256
  have t:=Nat.two_pow_pos (40-L);have:(fst l L+cl l L 256)*1<=(fst l L+cl l L 256)*2^(40-L):=Nat.mul_le_mul_left _ t;omega
theorem Iq(l:Nat->Nat)(L:Nat):∀{a b:Nat},a<=b->cl l L a<=cl l L b:=by
 intro a b h;obtain⟨k,rfl⟩:∃k,b=a+k:=⟨b-a,by omega⟩;clear h;induction k with
 | zero=>exact Nat.le_refl _
 | succ k ih=>exact Nat.le_trans ih (by show _<=cl l L (a+k)+_;omega)
theorem Ir(l:Nat->Nat)(L q:Nat):cl l L q<=q:=by
 induction q with
 | zero=>exact Nat.le_refl _
 | succ q ih=>unfold cl;split<;>omega
theorem tZ(L:Nat)(h:0<L):2^(40-L)<=549755813888:=by
 have e:(2:Nat)^39=549755813888:=by decide
 rw[<-e];exact Nat.pow_le_pow_right (by decide) (by omega)
theorem Dn(l:Nat->Nat)(k:Nat):aH l (fun _=>true) k<=k*549755813888:=by
 induction k with
 | zero=>exact Nat.zero_le _
 | succ k ih=>
  rw[Nat.add_mul,Nat.one_mul];unfold aH;refine Nat.add_le_add ih ?_;split
  .rename_i h;exact tZ (l k) h.1
  .exact Nat.zero_le _
def fh(l:Nat->Nat):Bool:=decide (aH l (fun _=>true) 256=1099511627776)||(decide ((used l 256).length=1)&&decide (aH l (fun _=>true) 256=549755813888))||decide ((used l 256).length=0)
theorem Dm(l:Nat->Nat)(k:Nat)(h:(used l k).length=0):aH l (fun _=>true) k=0:=by
 have h2:=List.eq_nil_of_length_eq_zero h
 have:∀c,c<k->l c=0:=fun c hc=>by
  refine Nat.eq_zero_of_not_pos fun hp=>?_;have:=gh.2 ⟨hc,hp⟩;rw[h2]at this;cases this
 clear h h2;induction k with
 | zero=>rfl
 | succ k ih=>
  unfold aH;rw[ih (fun c hc=>this c (by omega)),if_neg (by rw[this k (by omega)];omega)]
theorem fit_need{l:Nat->Nat}(h:fh l=true):aH l (fun _=>true) 256<=2^40:=by
 unfold fh at h;simp only[Bool.or_eq_true,Bool.and_eq_true,decide_eq_true_eq]at h;rcases h with(h | h) | h
 .omega
 .omega
 .rw[Dm l 256 h];omega
theorem sA(l:Nat->Nat)(q:Nat):(used l (q+1)).length=(used l q).length+(if 0<l q then 1 else 0):=by
 rw[Hv.used_succ,List.length_append];split<;>rfl
theorem hlen_fit(cnt:Nat->Nat)(hB:∀c,cnt c<=1048576):fh (hlen cnt 256)=true/\(∀c,hlen cnt 256 c<=40)/\(∀c,c<256->(0<hlen cnt 256 c↔0<cnt c)):=by
 by_cases h2:2<=(used cnt 256).length
 .have F:=oD cnt 256 (by omega) hB h2;refine⟨?_,fun c=>?_,fun c hc=>?_⟩
  .unfold fh;rw[Hv.need_fine F];simp
  .by_cases g:c∈used cnt 256
   .exact(F.some c g).2
   .rw[F.none c g];omega
  .constructor
   .intro h;refine Nat.pos_of_ne_zero fun e=>?_;have:=F.none c (fun g=>by have:=(gh.1 g).2;omega);omega
   .intro h;exact(F.some c (gh.2 ⟨hc,h⟩)).1
 .have iff:∀c,c<256->(0<hlen cnt 256 c↔0<cnt c):=fun c hc=>by
   constructor
   .intro h;refine Nat.pos_of_ne_zero fun e=>?_;have:=Ji.hlen_none cnt c (fun g=>by have:=(gh.1 g).2;omega);omega
   .intro h;have hm:=gh.2 ⟨hc,h⟩;have:=List.length_pos_of_mem hm;unfold hlen;rw[if_pos (by omega),if_pos hm];omega
  have le1:∀c,hlen cnt 256 c<=1:=fun c=>by
   by_cases g:c∈used cnt 256
   .have:=List.length_pos_of_mem g;unfold hlen;rw[if_pos (by omega),if_pos g];omega
   .rw[Ji.hlen_none cnt c g];omega
  have ul:used (hlen cnt 256) 256=used cnt 256:=by
   unfold used;refine List.filter_congr fun c hc=>?_;have:=iff c (List.mem_range.1 hc);rw[decide_eq_decide];exact this
  refine⟨?_,fun c=>by have:=le1 c;omega,iff⟩;unfold fh;rw[ul];by_cases h0:(used cnt 256).length=0
  .simp[h0]
  .have h1:(used cnt 256).length=1:=by omega
   have nn:aH (hlen cnt 256) (fun _=>true) 256=549755813888:=by
    rw[Hv.need_used cnt (hlen cnt 256) 256 iff];obtain⟨c,hc⟩:∃c,used cnt 256=[c]:=List.length_eq_one_iff.1 h1;rw[hc];have hm:c∈used cnt 256:=by rw[hc];simp
    have e1:hlen cnt 256 c=1:=by
     unfold hlen;rw[if_pos h1,if_pos hm]
    simp[e1]
   simp[nn,h1]
end Go.Proofs.YtleegaihbgbcjaaGreatDoor.Ka
namespace Go.Proofs.YtleegaihbgbcjaaGreatDoor
open Go.RowKit Num Bit Ji Hp Ka Hr
theorem xR(s t:Nat)(hs:s<=140737488355328)(h:2^t<=549755813888):IntKind.u64.wrap ((s:Int)+IntKind.u64.wrap (2^t))=((s+2^t:Nat):Int):=by
 have e:(2:Int)^t=((2^t:Nat):Int):=by rw[Int.natCast_pow];rfl
 rw[e];generalize (2:Nat)^t=p at *;rw[IntKind.wrap_u64,IntKind.wrap_u64];omega
theorem vy(ao:Option Addr)(l:List Int)(cap:Nat)(w:World)(hx:Nd w ao l)(hl:l.length=256)(hb:∀i,i<l.length->0<=gi l i/\gi l i<=40):
  Qx 82 #[.slice ao l.length cap] w (.bool (fh (ay l))):=by
 obtain⟨b,off,rfl,hbw,hcc⟩:=hx (by omega);obtain⟨v,hv⟩:∃v,Hid (v=ay l):=⟨_,rfl⟩
 have HC:Hid (∀i,i<l.length->gi l i=(v i:Int)/\v i<=40):=fun i hi=>by
  have:=hb i hi;rw[hv.out];unfold ay;omega
 have HCC:Hid (∀i,i<l.length->w.cell? ⟨b,off+i,none⟩=some (.int .i64 (v i:Nat))):=fun i hi=>by
  rw[<-(HC.out i hi).1];exact hcc i hi
 have HL:=ac hl;have l256:l.length<=256:=by omega
 rw[<-hv.out];clear hcc hb hl hx;go_enter func82,ntmps82;go_wp2
 go_loopw [3,4,10] (fun vc vs vi wr=>∃(q c s:Nat),q<=l.length/\c<=q/\vi=.int .i64 q/\vc=.int .i64 c/\vs=.int .u64 s/\Hid (c=(used v q).length/\s=aH v (fun _=>true) q)/\wr=w) (fun _ _ vi _=>l.length-(intOf vi).toNat)
 case atStart=>exact⟨0,0,0,by omega,by omega,rfl,rfl,rfl,⟨rfl,rfl⟩,rfl⟩
 case round=>
  obtain⟨q,c,s,hq,hcq,rfl,rfl,rfl,HI,hw⟩:=hrel;subst hw
  have hs5:s<=140737488355328:=by
   have e:=HI.out.2;have e2:=Dn v q;have:q*549755813888<=256*549755813888:=Nat.mul_le_mul_right _ (by omega);omega
  by_cases hlt:q<l.length
  .have hltz:(q:Int)<(l.length:Int):=by omega
   obtain⟨_,hv2⟩:=HC.out q hlt;have c1:=HCC.out q hlt;by_cases hp:0<v q
   .have hpz:(0:Int)<(v q:Int):=by omega
    have hpw:=tZ (v q) hp
    have HI1:Hid (c+1=(used v (q+1)).length/\s+2^(40-v q)=aH v (fun _=>true) (q+1)):=by
     refine⟨by rw[sA,if_pos hp,HI.out.1],?_⟩;rw[aH,if_pos ⟨hp,rfl⟩,HI.out.2]
    obtain⟨t,ht⟩:∃t:Nat,t=40-v q:=⟨_,rfl⟩;have tz:(40:Int)-(v q:Int)=(t:Int):=by omega
    have t40:t<=39:=by omega
    rw[<-ht]at hpw HI1;clear ht;generalize v q=x at *;go_wp2;exact⟨⟨q+1,c+1,s+2^t,by omega,by omega,by go_num,by go_num,by rw[xR s t hs5 hpw],HI1,trivial⟩,by simp only[intOf];omega⟩
   .have hpz:¬(0:Int)<(v q:Int):=by omega
    have HI1:Hid (c=(used v (q+1)).length/\s=aH v (fun _=>true) (q+1)):=by
     refine⟨by rw[sA,if_neg hp,HI.out.1];rfl,?_⟩;rw[aH,if_neg (fun e=>hp e.1),HI.out.2];rfl
    generalize v q=x at *;go_wp2;exact⟨⟨q+1,c,s,by omega,by omega,by go_num,rfl,rfl,HI1,trivial⟩,by simp only[intOf];omega⟩
  .obtain rfl:q=l.length:=by omega
   have HF:Hid (fh v=(decide (s=1099511627776)||(decide (c=1)&&decide (s=549755813888))||decide (c=0))):=by
    have e:=HI.out;rw[HL.out]at e;show fh v=_;unfold fh;rw[<-e.1,<-e.2]
   clear HI HC HCC HL;by_cases k1:c=1
   .have k1z:((c:Int)==1)=true:=by simp;omega
    have k0z:((c:Int)==0)=false:=by simp;omega
    by_cases k2:s=1099511627776
    .have k2z:((s:Int)==1099511627776)=true:=by simp;omega
     go_wp2;go_ret;rw[HF.out];exact⟨by simp[k1,k2],rfl⟩
    .have k2z:((s:Int)==1099511627776)=false:=by simp;omega
     by_cases k3:s=549755813888
     .have k3z:((s:Int)==549755813888)=true:=by simp;omega
      go_wp2;go_ret;rw[HF.out];exact⟨by simp[k1,k2,k3],rfl⟩
     .have k3z:((s:Int)==549755813888)=false:=by simp;omega
      go_wp2;go_ret;rw[HF.out];exact⟨by simp[k1,k2,k3],rfl⟩
   .have k1z:((c:Int)==1)=false:=by simp;omega
    by_cases k2:s=1099511627776
    .have k2z:((s:Int)==1099511627776)=true:=by simp;omega
     go_wp2;go_ret;rw[HF.out];exact⟨by simp[k1,k2],rfl⟩
    .have k2z:((s:Int)==1099511627776)=false:=by simp;omega
     by_cases k4:c=0
     .have k4z:((c:Int)==0)=true:=by simp;omega
      go_wp2;go_ret;rw[HF.out];exact⟨by simp[k2,k4],rfl⟩
     .have k4z:((c:Int)==0)=false:=by simp;omega
      go_wp2;go_ret;rw[HF.out];exact⟨by simp[k1,k2,k4],rfl⟩
def dw(ys:List Nat):List Value:=ys.map fun y:Nat=>Value.int .u64 (y:Int)
theorem uX(ys:List Nat):(dw ys).length=ys.length:=by simp[dw]
theorem xP(l:List Nat)(i:Nat)(h:i<l.length):(dw l)[i]?=some (.int .u64 (l.getD i 0:Nat)):=by
 unfold dw;rw[List.getElem?_map,List.getElem?_eq_getElem h,List.getD_eq_getElem?_getD,List.getElem?_eq_getElem h];rfl
theorem xO(l:List Nat)(i v:Nat):(dw l).set i (.int .u64 v)=dw (l.set i v):=by simp[dw,List.map_set]
def di(f:Nat->Nat):List Nat:=(List.range 41).map f
theorem qs(f:Nat->Nat):(di f).length=41:=by simp[di]
theorem Kb(f:Nat->Nat)(i:Nat)(h:i<41):(di f).getD i 0=f i:=by
 unfold di;rw[List.getD_eq_getElem?_getD,List.getElem?_map,List.getElem?_range h];rfl
theorem J9(f g:Nat->Nat)(i:Nat)(h:i<41)(hg:∀j,j<41->j≠i->g j=f j):(di f).set i (g i)=di g:=by
 refine List.ext_getElem? fun j=>?_;unfold di;rw[List.getElem?_set,List.length_map,List.length_range];by_cases c:j<41
 .rw[List.getElem?_map,List.getElem?_map,List.getElem?_range c];by_cases e:i=j
  .subst e;rw[if_pos rfl,if_pos h];rfl
  .rw[if_neg e];simp only[Option.map_some];rw[hg j c (fun x=>e x.symm)]
 .rw[if_neg (by omega),List.getElem?_eq_none (by simp;omega),List.getElem?_eq_none (by simp;omega)]
theorem J_{f g:Nat->Nat}(h:∀j,j<41->f j=g j):di f=di g:=List.map_congr_left fun j hj=>h j (List.mem_range.1 hj)
theorem vQ:(prog.info? 147).map (fun i=>(i.zero,i.size))=some (some (.agg (dw (di fun _=>0)).toArray),41):=by kernel_rfl
theorem pC(f:Nat->Nat):(prog.info? 147).map (·.size)=some (dw (di f)).toArray.size:=by
 rw[(zero_of_info vQ).2,List.size_toArray,uX,qs]
theorem Cy(l:List Nat):(dw l).toArray.all (·.oneCell')=true:=by
 rw[List.all_toArray,List.all_eq_true];intro v hv;obtain⟨a,_,rfl⟩:=List.mem_map.1 hv;rfl
def be(w:World)(g:Nat)(f:Nat->Nat):Prop:=aa w g (dw (di f)) 147
theorem be.cell{w:World}{g:Nat}{f:Nat->Nat}(h:be w g f)(i:Nat)(hi:i<41):w.cell? ⟨g,i,none⟩=some (.int .u64 (f i:Nat)):=by
 have:=aa.cell h i (xP (di f) i (by rw[qs];exact hi));rw[Kb f i hi]at this;exact this
theorem be.set{w:World}{g:Nat}{f:Nat->Nat}(h:be w g f)(k:Nat->Nat)(i:Nat)(hi:i<41)(hk:∀j,j<41->j≠i->k j=f j):be (w.setCell ⟨g,i,none⟩ (.int .u64 (k i:Nat))) g k:=by
 have:=aa.set h i (.int .u64 (k i:Nat));rw[xO,J9 f k i hi hk]at this;exact this
theorem oY{ops:Array Oper}{rest:List Oper}{d:Option Tmp}{ty:TypeId}{ps:String}{af:Array Edge}{a:Act}{w:World}{Q:Exit->Act->World->Prop}
  (h:∀w1,be w1 w.heap.size (fun _=>0)->Below w.heap.size w w1->w.heap.size<w1.heap.size->wpList prog ops Q rest (a.put d (.pointer (some ⟨w.heap.size,0,none⟩))) w1):
  wpList prog ops Q (⟨d,.alloc 147,ty,ps,af,none⟩::rest) a w:=by
 refine wpList_plain rfl fun K hK=>?_;unfold Oper.wp execOp;have z:=(zero_of_info vQ).1;have nw:=h _ (aa.new w _ _) (below_alloc w _) (by simp);refine cast ?_ (hK _ _ nw)
 simp[Instr.alloc,Sem.run_bind,z,newVar,Value.cells,go_sem]
theorem sQ{ops:Array Oper}{rest:List Oper}{d:Option Tmp}{ty:TypeId}{ps:String}{af:Array Edge}{a:Act}{w:World}{Q:Exit->Act->World->Prop}{x y:Operand}
  (g:Nat) (f k:Nat->Nat) (hx:a.eval x=.pointer (some ⟨g,0,none⟩)) (hy:a.eval y=.agg (dw (di k)).toArray) (hc:be w g f)
  (h:∀w1,be w1 g k->aw g w w1->wpList prog ops Q rest (a.put d undef) w1):
  wpList prog ops Q (⟨d,.store 147 x y,ty,ps,af,none⟩::rest) a w:=
 wpList_store_row rfl _ x y rfl g _ hx hy _ _ hc (pC k) (by simp[uX,qs]) (Cy _) (h _ (setRow_heap w g _ _ _ _ hc) (aw.row g w _))
theorem DR{ops:Array Oper}{rest:List Oper}{d:Option Tmp}{ty:TypeId}{ps:String}{af:Array Edge}{a:Act}{w:World}{Q:Exit->Act->World->Prop}{x:Operand}
  (g:Nat) (f:Nat->Nat) (hx:a.eval x=.pointer (some ⟨g,0,none⟩)) (hc:be w g f)
  (h:wpList prog ops Q rest (a.put d (.agg (dw (di f)).toArray)) w):
  wpList prog ops Q (⟨d,.load 147 x,ty,ps,af,none⟩::rest) a w:=
 wpList_load_row rfl _ x rfl g hx _ _ _ _ hc underlying147 rfl (pC f) h
def dB(v:Nat->Nat)(L j:Nat):Nat:=if j<=L then Ka.fst v j else 0
theorem Fd(ao:Option Addr)(l:List Int)(cap:Nat)(w:World)(hx:Nd w ao l)(hl:l.length=256)(hb:∀i,i<l.length->0<=gi l i/\gi l i<=40)(hs:aH (ay l) (fun _=>true) 256<=2^40):
  Qq 83 #[.slice ao l.length cap] w (.agg (dw (di (Ka.fst (ay l)))).toArray):=by
 obtain⟨b,off,rfl,hbw,hcc⟩:=hx (by omega);obtain⟨v,hv⟩:∃v,Hid (v=ay l):=⟨_,rfl⟩
 have HC:Hid (∀i,i<l.length->gi l i=(v i:Int)/\v i<=40):=fun i hi=>by
  have:=hb i hi;rw[hv.out];unfold ay;omega
 have HCC:Hid (∀i,i<l.length->w.cell? ⟨b,off+i,none⟩=some (.int .i64 (v i:Nat))):=fun i hi=>by
  rw[<-(HC.out i hi).1];exact hcc i hi
 have HL:=ac hl;have l256:l.length<=256:=by omega
 rw[<-hv.out]at hs⊢
 have HFL:Hid (∀L,L<=40->Ka.fst v L+cl v L 256<=1099511627776):=fun L hL=>by
  have:=wH v hs L hL;have e:(2:Nat)^40=1099511627776:=by decide
  omega
 clear hcc hb hl hx hs;go_enter func83,ntmps83;go_wp2_with (refine oY ?_);intro w1 hc1 hb1 hs1;go_wp2_with (refine oY ?_);intro w2 hc2 hb2 hs2;go_wp2_with (refine oY ?_);intro w3 hc3 hb3 hs3
 have hb1s:=hb1.size;have hb2s:=hb2.size;have HB3:=ac ((bg hb1 hb2).trans (hb3.mono (by omega)));have HR3:=ac ((hc1.kept hb2).kept hb3);have HC3:=ac (hc2.kept hb3);have HF3:=ac hc3
 have d1:w.heap.size<w1.heap.size:=hs1;have d2:w1.heap.size<w2.heap.size:=hs2;clear hc1 hb1 hs1 hc2 hb2 hs2 hc3 hb3 hs3 hb1s hb2s;generalize w1.heap.size=gc at *;generalize w2.heap.size=gf at *
 simp only[Act.put,ae,List.set];go_wp2
 go_loopw [10] (fun vi wr=>∃q:Nat,q<=l.length/\vi=.int .i64 q/\Hid (be wr gc (fun L=>cl v L q))/\Hid (be wr gf (fun _=>0))/\Hid (be wr w.heap.size (fun _=>0))/\Hid (Below w.heap.size w wr)) (fun vi _=>l.length-(intOf vi).toNat)
 case atStart=>exact⟨0,Nat.zero_le _,rfl,HC3,HF3,HR3,HB3⟩
 case round=>
  clear HC3 HF3 HR3 HB3;obtain⟨q,hq,rfl,HA,HF,HR,HB⟩:=hrel;by_cases hlt:q<l.length
  .have hltz:(q:Int)<(l.length:Int):=by omega
   obtain⟨_,hv2⟩:=HC.out q hlt;have c1:=(HB.out.cell (p:=⟨b,off+q,none⟩) hbw).trans (HCC.out q hlt);by_cases hp:0<v q
   .have hpz:(0:Int)<(v q:Int):=by omega
    have v41:(v q:Int)<41:=by omega
    have v5:v q<41:=by omega
    have n0:=HA.out.cell (v q) v5;have f0:=aa.frozen HA.out (v q);have hle:=Ir v (v q) q
    have HA1:Hid (be (wr.setCell ⟨gc,v q,none⟩ (.int .u64 ((cl v (v q) q+1:Nat):Int))) gc (fun L=>cl v L (q+1))):=by
     have e:cl v (v q) (q+1)=cl v (v q) q+1:=by show cl v (v q) q+_=_;rw[if_pos ⟨hp,rfl⟩]
     have:=HA.out.set (fun L=>cl v L (q+1)) (v q) v5 (fun j _ hj=>by show cl v j q+_=_;rw[if_neg (fun x=>hj x.2.symm)];rfl);rw[e]at this;exact this
    have HF1:Hid (∀y,be (wr.setCell ⟨gc,v q,none⟩ y) gf (fun _=>0)):=fun y=>aa.other HF.out (by show gf≠gc;omega) y
    have HR1:Hid (∀y,be (wr.setCell ⟨gc,v q,none⟩ y) w.heap.size (fun _=>0)):=fun y=>aa.other HR.out (by show w.heap.size≠gc;omega) y
    have HB1:Hid (∀y,Below w.heap.size w (wr.setCell ⟨gc,v q,none⟩ y)):=fun y=>HB.out.setCell (by show w.heap.size<=gc;omega) y;clear HA HF HR HB;generalize cl v (v q) q=C at *;generalize v q=x at *;go_wp2
    exact⟨⟨q+1,by omega,by go_num,HA1,HF1.out _,HR1.out _,HB1.out _⟩,by simp only[intOf];omega⟩
   .have hpz:¬(0:Int)<(v q:Int):=by omega
    have HA1:Hid (be wr gc (fun L=>cl v L (q+1))):=by
     have e:(fun L=>cl v L (q+1))=(fun L=>cl v L q):=by funext L;show cl v L q+_=_;rw[if_neg (fun x=>hp x.1)];rfl
     rw[e];exact HA.out
    clear HA;generalize v q=x at *;go_wp2;exact⟨⟨q+1,by omega,by go_num,HA1,HF,HR,HB⟩,by simp only[intOf];omega⟩
  .obtain rfl:q=l.length:=by omega
   have HA1:Hid (be wr gc (fun L=>cl v L 256)):=by have:=HA.out;rw[HL.out]at this;exact this
   have HF1:Hid (be wr gf (dB v 0)):=by
    have e:dB v 0=fun _=>0:=by
     funext j;unfold dB;split
     .rename_i h;obtain rfl:j=0:=by omega
      rfl
     .rfl
    rw[e];exact HF.out
   clear HA HF HCC HC HL;go_wp2
   go_loopw [22] (fun vi wr=>∃L:Nat,L<=40/\vi=.int .i64 L/\Hid (be wr gc (fun L=>cl v L 256))/\Hid (be wr gf (dB v L))/\Hid (be wr w.heap.size (fun _=>0))/\Hid (Below w.heap.size w wr)) (fun vi _=>40-(intOf vi).toNat)
   case atStart=>exact⟨0,Nat.zero_le _,rfl,HA1,HF1,HR,HB⟩
   case round=>
    clear HA1 HF1 HR HB;obtain⟨L,hL,rfl,HA,HF,HR,HB⟩:=hrel;by_cases hL2:L<40
    .have hLz:(L:Int)<40:=by omega
     have L41:(L:Int)<41:=by omega
     have L42:(L:Int)+1<41:=by omega
     have p0:(0:Int)<=(L:Int)+1:=by omega
     have e0:((L:Int)+1).toNat=L+1:=by omega
     have wL:IntKind.i64.wrap ((L:Int)+1)=(L:Int)+1:=by rw[IntKind.wrap_i64];omega
     have hfl:=HFL.out L hL
     have HFN:Hid (dB v L L=Ka.fst v L/\dB v (L+1) (L+1)=2*(Ka.fst v L+cl v L 256)/\∀j,j<41->j≠L+1->dB v (L+1) j=dB v L j):=by
      refine⟨by unfold dB;rw[if_pos (Nat.le_refl _)],by unfold dB;rw[if_pos (Nat.le_refl _)];rfl,fun j _ hj=>?_⟩;unfold dB;by_cases c:j<=L
      .rw[if_pos c,if_pos (by omega)]
      .rw[if_neg c,if_neg (by omega)]
     obtain⟨X,hX⟩:∃X:Nat,Hid (X=Ka.fst v L):=⟨_,rfl⟩;obtain⟨Z,hZ⟩:∃Z:Nat,Hid (Z=cl v L 256):=⟨_,rfl⟩;rw[<-hX.out,<-hZ.out]at hfl HFN;go_wp2
     refine aB [11] (fun w'=>be w' gc (fun L=>cl v L 256)/\be w' gf (dB v L)) (by kernel_rfl) ?_
     have hS:be wr.drew gc (fun L=>cl v L 256)/\be wr.drew gf (dB v L):=⟨HA.out.drew,HF.out.drew⟩;replace HR:Hid (be wr.drew w.heap.size (fun _=>0)):=HR.out.drew
     replace HB:Hid (Below w.heap.size w wr.drew):=HB.out.drew;clear HA HF;generalize wr.drew=Y at *;refine aK 0 hS ?_;refine aK 1 hS ?_;refine aK 2 hS ?_;refine aK 3 hS ?_
     refine aF 4 hS rfl (fun w0 h0=>by have k0:w0.cell? ⟨gc,L,none⟩=some (.int .u64 Z):=(by rw[hZ.out];exact h0.1.cell L (by omega));have k1:w0.cell? ⟨gf,L,none⟩=some (.int .u64 X):=(by rw[<-HFN.out.1];exact h0.2.cell L (by omega));go_simp;try with_reducible rfl) ?_
     refine aK 5 hS ?_;refine aK 6 hS ?_
     refine aF 7 hS rfl (fun w0 h0=>by have k0:w0.cell? ⟨gc,L,none⟩=some (.int .u64 Z):=(by rw[hZ.out];exact h0.1.cell L (by omega));have k1:w0.cell? ⟨gf,L,none⟩=some (.int .u64 X):=(by rw[<-HFN.out.1];exact h0.2.cell L (by omega));go_simp;try with_reducible rfl) ?_
     have ws:IntKind.u64.wrap ((X:Int)+(Z:Int))=((X+Z:Nat):Int):=by rw[IntKind.wrap_u64];omega
     have ws2:IntKind.u64.wrap (((X:Int)+(Z:Int))*2)=((2*(X+Z):Nat):Int):=by rw[IntKind.wrap_u64];omega
     refine aK 8 hS ?_;refine aK 9 hS ?_;refine aW 10 ?_;clear ws ws2;refine aO 11 ?_;intro K hK;have n0:=hS.2.cell (L+1) (by omega);have f0:=aa.frozen hS.2 (L+1);go_simp
     refine hK.out _ _ (fun h=>absurd (by decide) h) ?_;clear hK K;try simp only[Act.put,ak,aj,ai,ae,ah,ag]
     refine aq.done (by kernel_rfl) ?_ _;clear n0 f0;have e2:(2*((X:Int)+(Z:Int)))=((2*(X+Z):Nat):Int):=by omega
     rw[e2]
     have HF1:Hid (be (Y.setCell ⟨gf,L+1,none⟩ (.int .u64 ((2*(X+Z):Nat):Int))) gf (dB v (L+1))):=by
      have:=hS.2.set (dB v (L+1)) (L+1) (by omega) HFN.out.2.2;rw[HFN.out.2.1]at this;exact this
     have HA1:Hid (be (Y.setCell ⟨gf,L+1,none⟩ (.int .u64 ((2*(X+Z):Nat):Int))) gc (fun L=>cl v L 256)):=aa.other hS.1 (by show gc≠gf;omega) _
     have HR1:Hid (be (Y.setCell ⟨gf,L+1,none⟩ (.int .u64 ((2*(X+Z):Nat):Int))) w.heap.size (fun _=>0)):=aa.other HR.out (by show w.heap.size≠gf;omega) _
     have HB1:Hid (Below w.heap.size w (Y.setCell ⟨gf,L+1,none⟩ (.int .u64 ((2*(X+Z):Nat):Int)))):=HB.out.setCell (by show w.heap.size<=gf;omega) _;clear e2 hS HR HB HFN hX hZ hfl
     generalize Y.setCell ⟨gf,L+1,none⟩ (.int .u64 ((2*(X+Z):Nat):Int))=Y2 at *;go_wp2;exact⟨⟨L+1,by omega,by go_num,HA1,HF1,HR1,HB1⟩,by simp only[intOf];omega⟩
    .obtain rfl:L=40:=by omega
     have hF:be wr gf (Ka.fst v):=by
      have e:dw (di (dB v 40))=dw (di (Ka.fst v)):=by rw[J_ (g:=Ka.fst v) fun j hj=>by unfold dB;rw[if_pos (by omega)]]
      have:=HF.out;unfold be at this⊢;rw[e]at this;exact this
     have hR:=HR.out;clear HA HF HR;go_wp2_with (first | refine DR gf _ rfl hF ?_ | refine sQ w.heap.size _ _ rfl rfl hR ?_);intro w5 hc5 hb5;have HC:Hid (be w5 w.heap.size (Ka.fst v)):=hc5
     have HB5:Hid (Below w.heap.size w w5):=HB.out.trans (hb5.below (Nat.le_refl _));clear hc5 hb5 hF hR;go_wp2
     (try simp only[Exit.inBlock,Exit.then]);exact bodyPost_ret (results_cell_row rfl _ _ _ _ _ _ _ rfl HC.out underlying147 rfl (pC _)) rfl ⟨rfl,HB5.out⟩
end Go.Proofs.YtleegaihbgbcjaaGreatDoor
namespace Go.Proofs.YtleegaihbgbcjaaGreatDoor
open Go.RowKit Num Bit
def cL(n:Nat)(a b:Nat->Value):List Value:=(List.range (n*2)).map fun j=>if j%2=0 then a (j/2)else b (j/2)
theorem mp(n:Nat)(a b:Nat->Value):(cL n a b).length=n*2:=by simp[cL]
theorem oS(n:Nat)(a b:Nat->Value)(j:Nat)(h:j<n*2):(cL n a b)[j]?=some (if j%2=0 then a (j/2)else b (j/2)):=by
 unfold cL;rw[List.getElem?_map,List.getElem?_range h];rfl
theorem ld(n:Nat)(a b:Nat->Value)(i:Nat)(h:i<n):(cL n a b)[i*2]?=some (a i):=by
 rw[oS n a b (i*2) (by omega),if_pos (by omega),show i*2/2=i by omega]
theorem k_(n:Nat)(a b:Nat->Value)(i:Nat)(h:i<n):(cL n a b)[i*2+1]?=some (b i):=by
 rw[oS n a b (i*2+1) (by omega),if_neg (by omega),show(i*2+1)/2=i by omega]
theorem rJ(n:Nat)(a b a' b':Nat->Value)(i:Nat)(h:i<n)(ha:∀j,j≠i->a' j=a j)(hb:∀j,j≠i->b' j=b j):((cL n a b).set (i*2) (a' i)).set (i*2+1) (b' i)=cL n a' b':=by
 refine List.ext_getElem? fun j=>?_;by_cases c:j<n*2
 .rw[oS n a' b' j c,List.getElem?_set,List.getElem?_set];by_cases c1:i*2+1=j
  .subst c1;rw[if_pos rfl,List.length_set,mp,if_pos c,if_neg (by omega),show(i*2+1)/2=i by omega]
  .rw[if_neg c1];by_cases c2:i*2=j
   .subst c2;rw[if_pos rfl,mp,if_pos c,if_pos (by omega),show i*2/2=i by omega]
   .rw[if_neg c2,oS n a b j c,ha (j/2) (by omega),hb (j/2) (by omega)]
 .rw[List.getElem?_eq_none (by rw[List.length_set,List.length_set,mp];omega),List.getElem?_eq_none (by rw[mp];omega)]
theorem Jm(n:Nat)(x y:Value):(madeCells #[x,y] (n*2)).toList=cL n (fun _=>x) (fun _=>y):=by
 unfold madeCells cL;rw[Array.toList_map,Array.toList_range];refine List.map_congr_left fun j _=>?_;show #[x,y][j%2]! =_;rcases Nat.mod_two_eq_zero_or_one j with e | e
 .rw[e];rfl
 .rw[e];rfl
theorem ry{w:World}{base g n:Nat}{E:TypeId}{x y:Value}(h:w.ownsRow base E 2 (.slice (some ⟨g,0,none⟩) n n) n (madeCells #[x,y] (n*2)).toList):aa w g (cL n (fun _=>x) (fun _=>y)) E:=by
 obtain⟨_,h | ⟨g',cap,cur,e,_,hh,_,_,hs,ht⟩⟩:=h
 .simp at h
 .simp only[Value.slice.injEq,Option.some.injEq,Addr.mk.injEq]at e;obtain⟨⟨rfl,_,_⟩,_,rfl⟩:=e;unfold aa;rw[hh,<-Jm n x y,<-ht]
  have e3:cur.toList.take (n*2)=cur.toList:=List.take_of_length_le (by simp;omega);rw[e3]
open Go.RowKit Num Bit Ji Hp Ka Hr
def cod(v:Nat->Nat)(c:Nat):Nat:=if 0<v c then fk v 256 c else 0
def dr(v:Nat->Nat)(q:Nat):List Value:=cL 256 (fun c=>.int .i64 ((if c<q then v c else 0:Nat):Int)) (fun c=>.int .u64 ((if c<q then cod v c else 0:Nat):Int))
def cC(v:Nat->Nat):List Value:=cL 256 (fun c=>.int .i64 (v c:Nat)) (fun c=>.int .u64 (cod v c:Nat))
theorem IM(v:Nat->Nat):dr v 0=cL 256 (fun _=>.int .i64 0) (fun _=>.int .u64 0):=by unfold dr;simp
theorem xr(v:Nat->Nat)(q:Nat)(h:q<256):((dr v q).set (q*2) (.int .i64 (v q:Nat))).set (q*2+1) (.int .u64 (cod v q:Nat))=dr v (q+1):=by
 have e:=rJ 256 (fun c=>.int .i64 ((if c<q then v c else 0:Nat):Int)) (fun c=>.int .u64 ((if c<q then cod v c else 0:Nat):Int)) (fun c=>.int .i64 ((if c<q+1 then v c else 0:Nat):Int)) (fun c=>.int .u64 ((if c<q+1 then cod v c else 0:Nat):Int)) q h
  (fun j hj=>by by_cases d:j<q<;>simp[d,show(j<q+1↔j<q)by omega]) (fun j hj=>by by_cases d:j<q<;>simp[d,show(j<q+1↔j<q)by omega])
 rw[if_pos (show q<q+1 by omega),if_pos (show q<q+1 by omega)]at e;exact e
theorem IP(v:Nat->Nat)(q:Nat)(h:q<256)(h0:v q=0):dr v q=dr v (q+1):=by
 rw[<-xr v q h];have c0:cod v q=0:=by unfold cod;rw[if_neg (by omega)]
 have e0:(dr v q)[q*2]?=some (.int .i64 (v q:Nat)):=by
  unfold dr;rw[ld _ _ _ _ h,if_neg (by omega),h0]
 have e1:(dr v q)[q*2+1]?=some (.int .u64 (cod v q:Nat)):=by
  unfold dr;rw[k_ _ _ _ _ h,if_neg (by omega),c0]
 refine List.ext_getElem? fun j=>?_;rw[List.getElem?_set,List.getElem?_set,List.length_set];have hlen:(dr v q).length=512:=mp _ _ _;by_cases k1:q*2+1=j
 .subst k1;rw[if_pos rfl,if_pos (by omega),e1]
 .rw[if_neg k1];by_cases k2:q*2=j
  .subst k2;rw[if_pos rfl,if_pos (by omega),e0]
  .rw[if_neg k2]
theorem IQ(v:Nat->Nat):dr v 256=cC v:=by
 unfold dr cC cL;refine List.map_congr_left fun j hj=>?_;have:=List.mem_range.1 hj;have h2:j/2<256:=by omega
 simp only[h2,if_true]
def CO(w:World)(v:Nat->Nat)(e:Ending)(w':World):Prop:=∃g,e=.returned (.tuple #[.slice (some ⟨g,0,none⟩) 256 256,.int .i64 0])/\aa w' g (cC v) 83/\w.heap.size<=g/\Below w.heap.size w w'
theorem CO.mk{w:World}{v:Nat->Nat}{e:Ending}{w':World}(g:Nat)(h1:e=.returned (.tuple #[.slice (some ⟨g,0,none⟩) 256 256,.int .i64 0]))(h2:aa w' g (cC v) 83)(h3:w.heap.size<=g)(h4:Below w.heap.size w w'):CO w v e w':=⟨g,h1,h2,h3,h4⟩
def fc(l:List Int):Bool:=cY l 40&&fh (ay l)
theorem Fg(ao:Option Addr)(l:List Int)(cap:Nat)(w:World)(hx:Nd w ao l)(hl:l.length<=1048576)(hw:fc l=false):
  Qq 36 #[.slice ao l.length cap] w (.tuple #[.slice none 0 0,.int .i64 2]):=by
 have C:=ac (qz ao l cap 40 w hx hl);cases hk:cY l 40 with
 | false=>
  rw[hk]at C;clear hx hw hk;go_enter func36,ntmps36;go_wp2_with fail;refine mr (C.out) fun w1 hb=>?_;go_wp2;go_ret2;exact⟨rfl,hb⟩
 | true=>
  rw[hk]at C;obtain⟨h256,hbd⟩:=jF hk;have hf:fh (ay l)=false:=by unfold fc at hw;rw[hk]at hw;simpa using hw
  have CF:Hid (∀w0,Below w.heap.size w w0->Qx 82 #[.slice ao l.length cap] w0 (.bool false)):=fun w0 hb=>by
   have:=vy ao l cap w0 (hx.keep hb) h256 hbd;rw[hf]at this;exact this
  clear hx hw hk h256 hbd hf;go_enter func36,ntmps36;go_wp2_with fail;refine mr (C.out) fun w1 hb=>?_;go_wp2_with fail;refine(CF.out _ hb).mono ?_;rintro e w2 ⟨rfl,rfl⟩;go_wp2;go_ret2;exact⟨rfl,hb⟩
theorem vz(ao:Option Addr)(l:List Int)(cap:Nat)(w:World)(hx:Nd w ao l)(hl:l.length<=1048576)(hw:fc l=true):
  Calls prog 36 #[.slice ao l.length cap] w fun e w'=>CO w (ay l) e w':=by
 obtain⟨i0,hi,hz0,hz1,hz2⟩:=info_parts (show(prog.info? 83).map (fun i=>(i.zero,i.size,i.bytes))=some (some (.agg #[.int .i64 0,.int .u64 0]),2,16)by kernel_rfl)
 have C:=ac (qz ao l cap 40 w hx hl);obtain⟨hk,hf⟩:cY l 40=true/\fh (ay l)=true:=by unfold fc at hw;simpa using hw
 rw[hk]at C;obtain⟨h256,hbd⟩:=jF hk;have hs:=fit_need hf
 have CF:Hid (∀w0,Below w.heap.size w w0->Qx 82 #[.slice ao l.length cap] w0 (.bool true)):=fun w0 hb=>by
  have:=vy ao l cap w0 (hx.keep hb) h256 hbd;rw[hf]at this;exact this
 obtain⟨v,hv⟩:∃v,Hid (v=ay l):=⟨_,rfl⟩
 have CN:Hid (Qz w 83 #[.slice ao l.length cap] (.agg (dw (di (Ka.fst v))).toArray)):=fun w0 hb=>by
  have:=Fd ao l cap w0 (hx.keep hb) h256 hbd hs;rw[<-hv.out]at this;exact this
 rw[<-hv.out]at hs⊢;obtain⟨b,off,rfl,hbw,hcc⟩:=hx (by omega)
 have HC:Hid (∀i,i<l.length->gi l i=(v i:Int)/\v i<=40):=fun i hi=>by
  have:=hbd i hi;rw[hv.out];unfold ay;omega
 have HCC:Hid (∀i,i<l.length->w.cell? ⟨b,off+i,none⟩=some (.int .i64 (v i:Nat))):=fun i hi=>by
  rw[<-(HC.out i hi).1];exact hcc i hi
 have HFL:Hid (∀L q,L<=40->q<=256->Ka.fst v L+cl v L q<=1099511627776):=fun L q hL hq=>by
  have:=wH v hs L hL;have e:(2:Nat)^40=1099511627776:=by decide
  have:=Iq v L hq;omega
 have HL:=ac h256;have l256:l.length<=256:=by omega
 clear hx hw hk hf hs h256 hbd hcc;go_enter func36,ntmps36;go_wp2_with fail;refine mr (C.out) fun w1 hb=>?_;go_wp2_with fail;refine(CF.out _ hb).mono ?_;rintro e w2 ⟨rfl,rfl⟩;go_wp2_with fail
 refine mr (CN.out _ hb) fun w3 hb3=>?_;have hb4:=bg hb hb3;clear hb hb3 C CF CN;go_wp2_with (first | refine oY ?_);intro w4 hc4 hb5 hs5
 go_wp2_with (refine sQ w3.heap.size _ _ rfl rfl hc4 ?_);intro w5 hc5 ho5;have hz5:=ho5.size;have h34:=hb4.size;have HB5:=ac ((bg hb4 hb5).trans (ho5.below h34))
 have HN5:Hid (be w5 w3.heap.size (fun L=>Ka.fst v L+cl v L 0)):=hc5;have hgn:w3.heap.size<w5.heap.size:=by omega
 have hg0:w.heap.size<=w3.heap.size:=h34;clear hc4 hc5 hb4 hb5 hs5 ho5 hz5 h34;generalize w3.heap.size=gn at *
 go_wp2_with (at_make;refine wpList_make_full _ rfl _ _ 75 rfl w5.heap.size 83 i0 (.agg #[.int .i64 0,.int .u64 0]) 2 underlying75 hi hz0 hz1 .i64 .i64 _ _ 256 rfl rfl rfl rfl ?b2 ?b3 ?b4 ?_)
 case b2=>rw[hz2];omega
 case b3=>unfold maxLen;omega
 case b4=>simp
 intro w6 hown hgr;have B6:=ry hown;have hb6:Below w5.heap.size w5 w6:=(Below.refl _ _).grown hgr (Nat.le_refl _) (fun k h=>by cases h);rw[<-IM v]at B6;have HC6:=ac B6
 have HN6:=ac (aa.kept HN5.out hb6);have HB6:=ac (HB5.out.trans (hb6.mono (by omega)));clear hown hgr hb6 hi hz0 hz1 hz2 HN5 HB5 B6;generalize w5.heap.size=gc at *;go_wp2
 go_loopw [21] (fun vi wr=>∃q:Nat,q<=l.length/\vi=.int .i64 q/\Hid (be wr gn (fun L=>Ka.fst v L+cl v L q))/\Hid (aa wr gc (dr v q) 83)/\Hid (Below w.heap.size w wr)) (fun vi _=>l.length-(intOf vi).toNat)
 case atStart=>exact⟨0,Nat.zero_le _,rfl,HN6,HC6,HB6⟩
 case round=>
  clear HN6 HC6 HB6;obtain⟨q,hq,rfl,HN,HD,HB⟩:=hrel;by_cases hlt:q<l.length
  .have hltz:(q:Int)<(l.length:Int):=by omega
   have q256:(q:Int)<256:=by omega
   have q5:q<256:=by omega
   obtain⟨_,hv2⟩:=HC.out q hlt;have c1:=(HB.out.cell (p:=⟨b,off+q,none⟩) hbw).trans (HCC.out q hlt);by_cases hp:0<v q
   .have hpz:(0:Int)<(v q:Int):=by omega
    have v41:(v q:Int)<41:=by omega
    have v5:v q<41:=by omega
    have n0:=HN.out.cell (v q) v5;have f0:=aa.frozen HN.out (v q);have e0:wr.cell? ⟨gc,q*2,none⟩=some (.int .i64 0):=HD.out.cell (q*2) (by unfold dr;rw[ld _ _ _ _ q5,if_neg (by omega)];rfl)
    have e1:wr.cell? ⟨gc,q*2+1,none⟩=some (.int .u64 0):=HD.out.cell (q*2+1) (by unfold dr;rw[k_ _ _ _ _ q5,if_neg (by omega)];rfl);have f1:=HD.out.frozen (q*2);have f2:=HD.out.frozen (q*2+1)
    have hle:=HFL.out (v q) q hv2 (by omega)
    have HCD:Hid (Ka.fst v (v q)+cl v (v q) q=cod v q):=by
     show _=cod v q;unfold cod;rw[if_pos hp,Ib v q hp hv2 q5]
    have HS:=ac (xr v q q5);have hgg:gn≠gc:=by omega
    have HN1:Hid (be (((wr.setCell ⟨gc,q*2,none⟩ (.int .i64 (v q:Nat))).setCell ⟨gc,q*2+1,none⟩ (.int .u64 (cod v q:Nat))).setCell ⟨gn,v q,none⟩ (.int .u64 ((cod v q:Nat)+1))) gn (fun L=>Ka.fst v L+cl v L (q+1))):=by
     have h0:be ((wr.setCell ⟨gc,q*2,none⟩ (.int .i64 (v q:Nat))).setCell ⟨gc,q*2+1,none⟩ (.int .u64 (cod v q:Nat))) gn (fun L=>Ka.fst v L+cl v L q):=aa.other (aa.other HN.out (by show gn≠gc;exact hgg) _) (by show gn≠gc;exact hgg) _
     have h1:=h0.set (fun L=>Ka.fst v L+cl v L (q+1)) (v q) v5 (fun j _ hj=>by show _+(cl v j q+_)=_;rw[if_neg (fun x=>hj x.2.symm)];rfl)
     have e:Ka.fst v (v q)+cl v (v q) (q+1)=cod v q+1:=by
      show _+(cl v (v q) q+_)=_;rw[if_pos ⟨hp,rfl⟩,<-HCD.out];omega
     rw[e]at h1;exact h1
    have HD1:Hid (aa (((wr.setCell ⟨gc,q*2,none⟩ (.int .i64 (v q:Nat))).setCell ⟨gc,q*2+1,none⟩ (.int .u64 (cod v q:Nat))).setCell ⟨gn,v q,none⟩ (.int .u64 ((cod v q:Nat)+1))) gc (dr v (q+1)) 83):=by
     have h0:=((HD.out.set (q*2) (.int .i64 (v q:Nat))).set (q*2+1) (.int .u64 (cod v q:Nat)));rw[HS.out]at h0;exact h0.other (by show gc≠gn;exact Ne.symm hgg) _
    have HB1:Hid (Below w.heap.size w (((wr.setCell ⟨gc,q*2,none⟩ (.int .i64 (v q:Nat))).setCell ⟨gc,q*2+1,none⟩ (.int .u64 (cod v q:Nat))).setCell ⟨gn,v q,none⟩ (.int .u64 ((cod v q:Nat)+1)))):=((HB.out.setCell (by show w.heap.size<=gc;omega) _).setCell (by show w.heap.size<=gc;omega) _).setCell (by show w.heap.size<=gn;omega) _
    clear HN HD HB HS;rw[HCD.out]at n0 hle;clear HCD;generalize cod v q=X at *;generalize v q=x at *;go_wp2;exact⟨⟨q+1,by omega,by go_num,HN1,HD1,HB1⟩,by simp only[intOf];omega⟩
   .have hpz:¬(0:Int)<(v q:Int):=by omega
    have HN1:Hid (be wr gn (fun L=>Ka.fst v L+cl v L (q+1))):=by
     have e:(fun L=>Ka.fst v L+cl v L (q+1))=(fun L=>Ka.fst v L+cl v L q):=by funext L;show _+(cl v L q+_)=_;rw[if_neg (fun x=>hp x.1)];rfl
     rw[e];exact HN.out
    have HD1:Hid (aa wr gc (dr v (q+1)) 83):=by
     have:=HD.out;rw[IP v q q5 (by omega)]at this;exact this
    clear HN HD;generalize v q=x at *;go_wp2;exact⟨⟨q+1,by omega,by go_num,HN1,HD1,HB⟩,by simp only[intOf];omega⟩
  .obtain rfl:q=l.length:=by omega
   have HD1:Hid (aa wr gc (cC v) 83):=by
    have:=HD.out;rw[HL.out,IQ]at this;exact this
   clear HD;go_wp2;go_ret2;exact CO.mk gc rfl HD1.out (by omega) HB.out
end Go.Proofs.YtleegaihbgbcjaaGreatDoor
namespace Go.Proofs.YtleegaihbgbcjaaGreatDoor
open Go.RowKit Num Bit
theorem gF(v:Nat->Nat)(c:Nat)(h:c<256):(cC v)[c*2]?=some (.int .i64 (v c:Nat)):=ld _ _ _ _ h
theorem gE(v:Nat->Nat)(c:Nat)(h:c<256):(cC v)[c*2+1]?=some (.int .u64 (cod v c:Nat)):=k_ _ _ _ _ h
theorem rX(w:World):(zeroValue 86).run prog w=.ok f_ w:=by kernel_rfl
theorem Fz:(prog.info? 4).map (fun i=>(i.zero,i.size,i.bytes))=some (some (.bool false),1,1):=by kernel_rfl
theorem iF{a b:Nat}(h:a<2^b)(hb:b<=40):a<18446744073709551616:=Nat.lt_of_lt_of_le h (Nat.le_trans (Nat.pow_le_pow_right (by decide) hb) (by decide))
theorem ri{a b c:Nat}(h:a<2^b)(hb:b<=40):a/2^c<18446744073709551616:=Nat.lt_of_le_of_lt (Nat.div_le_self _ _) (iF h hb)
theorem yM{ops:Array Oper}{d:Option Tmp}{ty t e:TypeId}{ps:String}{af:Array Edge}{a:Act}{w:World}{K:Act->World->Prop}{Q:Exit->Act->World->Prop}{E:Prop}{x y:Operand}{z:Value}
  (b n:Nat) (M:Nat->Nat->Option Value) (L X:Nat) (hx:a.eval x=.map (some b)) (hy:a.eval y=cv L X) (ht:prog.underlying t=some (.map 83 e)) (hz:∀u:World,(zeroValue e).run prog u=.ok z u) (h:CM w b n M) (hn:n<maxLen) (hL:L<=64) (hX:X<18446744073709551616)
  (hK:∀st w1 o,aw b w w1->w1.heap[b]?=some o->Hid (∀w2 v,w2.heap[b]?=some o->∃w3,(Instr.entryStore t (.map (some b)) (goInt st) v).run prog w2=.ok () w3/\CM w3 b (n+1) (cup M L X v)/\aw b w2 w3)->K (a.put d (.tuple #[(M L X).getD z,goInt st])) w1):
  if Region.wanted (⟨d,.mapEntry t x y,ty,ps,af,none⟩:Oper) (yielded ops a.tmps)=true then Oper.wp prog (⟨d,.mapEntry t x y,ty,ps,af,none⟩:Oper) a w K Q else E:=by
 rw[if_pos (by simp[Region.wanted])];obtain⟨st,w1,o,hrun,hO,ho,hs⟩:=h.entry ht hz hn hL hX;have:=hK st w1 o hO ho hs;unfold Oper.wp;simp only[execOp,hx,hy,hrun,Sem.run_bind,Result.andThen_ok,Sem.run_pure]
 exact this
theorem pz{ops:Array Oper}{d:Option Tmp}{ty t:TypeId}{ps:String}{af:Array Edge}{a:Act}{w:World}{K:Act->World->Prop}{Q:Exit->Act->World->Prop}{E:Prop}{x y u:Operand}{m s v:Value}{w3:World}
  (hx:a.eval x=m) (hy:a.eval y=s) (hu:a.eval u=v) (hrun:(Instr.entryStore t m s v).run prog w=.ok () w3) (hK:K (a.put d undef) w3):
  if Region.wanted (⟨d,.entryStore t x y u,ty,ps,af,none⟩:Oper) (yielded ops a.tmps)=true then Oper.wp prog (⟨d,.entryStore t x y u,ty,ps,af,none⟩:Oper) a w K Q else E:=by
 rw[if_pos (by simp[Region.wanted])];unfold Oper.wp;simp only[execOp,hx,hy,hu,hrun,Sem.run_bind,Result.andThen_ok,Sem.run_pure];exact hK
theorem NX.ne{gm n:Nat}{M:Nat->Nat->Option Value}{R:Nat->Nat->List Bool}{w:World}{g:Nat}{cs:List Value}{T:TypeId}(h:NX gm n M R w)(hc:aa w g cs T)(hT:T≠4){L x:Nat}(hL:L<=64)(hx:x<18446744073709551616):((M L x).getD f_).ownBlock≠some g:=by
 obtain⟨_,⟨e,_⟩ | ⟨g',cap,cur,e,_,hh,_⟩⟩:=h.own L x hL hx
 .rw[e];simp[Value.ownBlock]
 .rw[e];intro he;simp only[Value.ownBlock,Option.some.injEq]at he;subst he;rw[show w.heap[g']?=_ from hc]at hh;simp only[Option.some.injEq,Obj.cells.injEq]at hh;exact hT hh.2.1
theorem zm(ao:Option Addr)(t:List Nat)(cap gc:Nat)(v:Nat->Nat)(w:World)(hx:Bd w ao t)(hB:cM t)(hn:t.length<=8192)(hC:aa w gc (cC v) 83)(hv:∀c,v c<=40)(hk:∀c,cod v c<2^v c):
  Calls prog 37 #[.slice ao t.length cap,.slice (some ⟨gc,0,none⟩) 256 256] w fun e w'=>∃gm n M,e=.returned (.map (some gm))/\NX gm n M (Sh.nrow v (cod v) t) w'/\w.heap.size<=gm/\Below w.heap.size w w':=by
 have hmm:=@run_makeMap prog;obtain⟨i0,hi,hz0,hz1,hz2⟩:=info_parts Fz;have HX:=ac hx;have HC:=ac hC;have HV:=ac hv;have HK:=ac hk;have lgc:=hC.lt;clear hx hC hv hk
 go_enter func37,ntmps37;go_wp2;obtain⟨gm,hgm⟩:∃gm,gm=w.heap.size:=⟨_,rfl⟩;have HG:Hid (w.heap.size<=gm):=by show w.heap.size<=gm;omega
 have HN0:Hid (NX gm 0 (fun _ _=>none) (Sh.nxR v (cod v) t 0 0) (w.alloc (.map #[] 0))):=by
  rw[hgm];exact(NX.made w).congr fun L x=>Sh.nxR_zero _ _ _ _ _
 have HB0:Hid (Below w.heap.size w (w.alloc (.map #[] 0))):=below_alloc w _;rw[<-hgm];clear hgm
 go_loopw [14] (fun vi wr=>∃(q n:Nat) (M:Nat->Nat->Option Value),q<=t.length/\vi=.int .i64 q/\n<=40*q/\Hid (NX gm n M (Sh.nxR v (cod v) t q 0) wr)/\Hid (Below w.heap.size w wr)) (fun vi _=>t.length-(intOf vi).toNat)
 case atStart=>exact⟨0,0,_,Nat.zero_le _,rfl,Nat.zero_le _,HN0,HB0⟩
 case round=>
  clear HN0 HB0;obtain⟨q,n,M,hq,rfl,hnn,HN,HB⟩:=hrel;by_cases hlt:q<t.length
  .have hltz:(q:Int)<(t.length:Int):=by omega
   obtain⟨b,off,rfl,hlb,hc⟩:=(HX.out.keep HB.out) (by omega);have a0:=hc q hlt;have hc8:=hB q;have HCw:=ac (HC.out.kept HB.out);have a1:=HCw.out.cell (gt t q*2) (gF v _ hc8)
   have a2:=HCw.out.cell (gt t q*2+1) (gE v _ hc8);have v40:=HV.out (gt t q);have HKc:=ac (HK.out (gt t q));obtain⟨c,hcq⟩:∃c,Hid (c=gt t q):=⟨_,rfl⟩;rw[<-hcq.out]at a0 a1 a2 v40 HKc hc8;clear hc
   have lgw:=HB.out.size;have zw:=HN.out.map.lt;go_wp2;obtain⟨g8,hg8⟩:∃g8,g8=wr.heap.size:=⟨_,rfl⟩
   have B8:Hid (aa (wr.alloc (.cells #[.int .i64 (v c:Nat),.int .u64 (cod v c:Nat)] 83)) g8 [.int .i64 (v c:Nat),.int .u64 (cod v c:Nat)] 83):=by
    rw[hg8];exact aa.new wr _ _
   have hA:=below_alloc wr (.cells #[.int .i64 (v c:Nat),.int .u64 (cod v c:Nat)] 83);have HN1:=ac (HN.out.keep hA);have HB1:=ac (HB.out.trans (hA.mono lgw));have g8m:gm<g8:=by omega
   have g8w:w.heap.size<=g8:=by omega
   have g8z:Hid (g8<(wr.alloc (.cells #[.int .i64 (v c:Nat),.int .u64 (cod v c:Nat)] 83)).heap.size):=B8.out.lt;rw[<-hg8];clear hA HN HB hg8 a0 a1 a2 HCw
   go_loopw [24] (fun vl wr=>∃(l n:Nat) (M:Nat->Nat->Option Value),l<=v c/\vl=.int .i64 l/\n<=40*q+l/\Hid (NX gm n M (Sh.nxR v (cod v) t q l) wr)/\Hid (aa wr g8 [.int .i64 (v c:Nat),.int .u64 (cod v c:Nat)] 83)/\Hid (Below w.heap.size w wr)) (fun vl _=>v c-(intOf vl).toNat)
   case atStart=>exact⟨0,n,M,Nat.zero_le _,rfl,by omega,HN1,B8,HB1⟩
   case round=>
    clear HN1 B8 HB1 g8z;obtain⟨l,n,M,hl,rfl,hnn,HN,B8,HB⟩:=hrel;by_cases hlc:l<v c
    .have hlcz:(l:Int)<(v c:Int):=by omega
     have q0:=B8.out.cell 0 rfl;have q1:=B8.out.cell 1 rfl
     have HBg:Hid (∀w0,Qq 84 #[.agg #[.int .i64 (v c:Nat),.int .u64 (cod v c:Nat)],.int .i64 l] w0 (.agg #[.int .i64 l,.int .u64 (Sh.pre v (cod v) l c:Nat)])):=fun w0=>m8 (v c) (cod v c) l (by omega) (by omega) (iF HKc.out v40) w0
     have HBt:Hid (∀w0,Qq 49 #[.agg #[.int .i64 (v c:Nat),.int .u64 (cod v c:Nat)],.int .i64 l] w0 (.bool (Sh.nb v (cod v) l c))):=fun w0=>m6 (v c) (cod v c) l (by omega) hlc (iF HKc.out v40) w0
     have pxl:Sh.pre v (cod v) l c<18446744073709551616:=ri HKc.out v40;have lg:=B8.out.lt;have sw:=HB.out.size;go_wp2_with fail;refine mr (HBg.out _) fun w1 hb=>?_
     have HN1:=ac (HN.out.keep hb);have B81:=ac (B8.out.kept hb);have HB1:=ac (HB.out.trans (hb.mono sw));have s1:=hb.size;clear HN B8 HB hb HBg q0 q1;--BEGIN
     go_wp2;obtain⟨px,hpx⟩:∃px,Hid (px=Sh.pre v (cod v) l c):=⟨_,rfl⟩;rw[<-hpx.out]at pxl;rw[<-hpx.out];obtain⟨bt,hbt⟩:∃bt,Hid (bt=Sh.nb v (cod v) l c):=⟨_,rfl⟩;rw[<-hbt.out]at HBt
     have hA:=below_alloc w1 (.cells #[.int .i64 l,.int .u64 (px:Nat)] 83);have HN2:=ac (HN1.out.keep hA);have B82:=ac (B81.out.kept hA);have HB2:=ac (bg HB1.out hA)
     have B10:=ac (aa.new w1 [.int .i64 l,.int .u64 (px:Nat)] 83);have s2:w1.heap.size<(w1.alloc (.cells #[.int .i64 l,.int .u64 (px:Nat)] 83)).heap.size:=by simp
     obtain⟨g10,hg10⟩:∃g10,Hid (g10=w1.heap.size):=⟨_,rfl⟩;rw[<-hg10.out]at B10⊢;generalize w1.alloc (.cells #[.int .i64 l,.int .u64 (px:Nat)] 83)=V at *;clear hA HN1 B81 HB1
     refine aB [10] (fun w'=>aa w' g8 [.int .i64 (v c:Nat),.int .u64 (cod v c:Nat)] 83/\aa w' g10 [.int .i64 l,.int .u64 (px:Nat)] 83) (by kernel_rfl) ?_
     have hS:aa V.drew g8 [.int .i64 (v c:Nat),.int .u64 (cod v c:Nat)] 83/\aa V.drew g10 [.int .i64 l,.int .u64 (px:Nat)] 83:=⟨B82.out,B10.out⟩
     have HN3:Hid (NX gm n M (Sh.nxR v (cod v) t q l) V.drew):=HN2.out.keep ((Below.refl _ _).drew);have HB3:Hid (Below w.heap.size w V.drew):=HB2.out.drew;have s3:V.drew.heap.size=V.heap.size:=rfl
     generalize V.drew=Y at *;clear HN2 B82 HB2 B10;refine aK 0 hS ?_;refine aF 1 hS rfl (fun w0 h0=>by have c0:=h0.2.cell 0 rfl;have c1:=h0.2.cell 1 rfl;go_simp;try with_reducible rfl) ?_
     refine aF 2 hS rfl (fun w0 h0=>by have c0:=h0.1.cell 0 rfl;have c1:=h0.1.cell 1 rfl;go_simp;try with_reducible rfl) ?_;refine aK 3 hS ?_;refine aO 4 ?_;intro K hK;go_simp;refine mr (HBt.out _) fun w4 hb=>?_;have HN4:=ac (HN3.out.keep hb);have HB4:=ac (bg HB3.out hb);replace hS:=And.intro (hS.1.kept hb) (hS.2.kept hb);have s4:=hb.size;clear hb HN3 HB3 HBt
     refine hK.out _ _ (fun _=>hS) ?_;clear hK K;try simp only[Act.put,ak,aj,ai,ae,ah,ag]
     refine aO 5 ?_;intro K hK;go_simp;have hA:=below_alloc w4 (.cells #[.bool bt] 4);have hcell:=aa.new w4 [.bool bt] 4;have HN5:=ac (HN4.out.keep hA);have HB5:=ac (bg HB4.out hA)
     replace hS:=And.intro (hS.1.kept hA) (hS.2.kept hA);have s5:(w4.alloc (.cells #[.bool bt] 4)).heap.size=w4.heap.size+1:=by simp
     obtain⟨g5,hg5⟩:∃g5,Hid (g5=w4.heap.size):=⟨_,rfl⟩;rw[<-hg5.out]at hcell⊢;have g5lt:gm<g5:=by have:=HN4.out.map.lt;have:=hg5.out;omega
     generalize w4.alloc (.cells #[.bool bt] 4)=w5 at *;clear hA HN4 HB4;refine hK.out _ _ (fun _=>hS) ?_;clear hK K;try simp only[Act.put,ak,aj,ai,ae,ah,ag]
     refine aO 6 ?_;intro K hK;refine yM gm n M l px rfl rfl underlying78 rX HN5.out.map (by unfold maxLen;omega) (by omega) pxl ?_;intro st w6 o hO6 ho6 HE
     have g10m:gm≠g10:=by have:=hg10.out;omega
     have own6:w6.ownsRow (gm+1) 4 1 ((M l px).getD f_) (Sh.nxR v (cod v) t q l l px).length ((Sh.nxR v (cod v) t q l l px).map .bool):=pV (HN5.out.own l px (by omega) pxl) fun k hk=>hO6.block k (by have:=((HN5.out.own l px (by omega) pxl).lt k hk).1;omega)
     have n8:=HN5.out.ne hS.1 (by decide) (L:=l) (x:=px) (by omega) pxl;have n10:=HN5.out.ne hS.2 (by decide) (L:=l) (x:=px) (by omega) pxl
     have ngm:((M l px).getD f_).ownBlock≠some gm:=fun hk=>by have:=((HN5.out.own l px (by omega) pxl).lt gm hk).1;omega
     replace hS:=And.intro (hO6.cel hS.1 (by omega)) (hO6.cel hS.2 (by omega));replace hcell:=hO6.cel hcell (by omega);have rle:=Sh.nxR_le v (cod v) t q l l px;have s6:=hO6.size;refine hK.out _ _ (fun _=>hS) ?_
     clear hK K;try simp only[Act.put,ak,aj,ai,ae,ah,ag]
     refine aK 7 hS ?_;refine aK 9 hS ?_;have HO6:=ac own6;have l8:=hS.1.lt;have l10:=hS.2.lt;have lgm:gm<w6.heap.size:=by have:=HN5.out.map.lt;omega
     refine aO 8 ?_;intro K hK
     refine Ap.step_append_u rfl _ _ _ rfl (gm+1) 4 i0 (.bool false) 1 underlying86 hi hz0 hz1 hz2 rfl ((M l px).getD f_) (Sh.nxR v (cod v) t q l l px).length ((Sh.nxR v (cod v) t q l l px).map .bool) rfl HO6.out (some ⟨g5,0,none⟩) 1 1 [.bool bt] rfl rfl ?c1 ?c2 ?c3 ?c4 ?c5 ?_
     case c1=>exact fun _=>⟨_,rfl,fun j u hj=>by
      match j,hj with
      | 0,hj=>simp at hj;subst hj;simpa [Addr.add]using hcell.cell 0 rfl⟩
     case c2=>intro u hu;simp at hu;subst hu;rfl
     case c3=>unfold maxLen;omega
     case c4=>omega
     case c5=>omega
     intro ao8 cap8 w8 own8 hcap8 hb8 hloc8 hblk8 hs8
     replace hS:aa w8 g8 [.int .i64 (v c:Nat),.int .u64 (cod v c:Nat)] 83/\aa w8 g10 [.int .i64 l,.int .u64 (px:Nat)] 83:=⟨(hblk8 g8 l8 n8).trans hS.1,(hblk8 g10 l10 n10).trans hS.2⟩
     obtain⟨w10,hrun,hCM,hO10⟩:=HE.out w8 (.slice ao8 ((Sh.nxR v (cod v) t q l l px).length+1) cap8) ((hblk8 gm lgm ngm).trans ho6)
     have HP:Hid (NX gm (n+1) (cup M l px (.slice ao8 ((Sh.nxR v (cod v) t q l l px).length+1) cap8)) (Sh.nxR v (cod v) t q (l+1)) w10):=by
      refine HN5.out.push (by omega) pxl (fun k hk hne=>hO6.block k hne) (by omega) own8 hblk8 hloc8 hO10 hCM ?_ ?_
      .rw[hpx.out,hbt.out,hcq.out];exact Sh.nxR_here v (cod v) t q l (by rw[<-hcq.out];exact hlc)
      .intro L y hne;refine Sh.nxR_other v (cod v) t q l L y ?_;rw[<-hcq.out,<-hpx.out];exact hne
     have HB10:Hid (Below w.heap.size w w10):=((HB5.out.trans (hO6.below HG.out)).trans (hb8.mono (by have:=HG.out;omega))).trans (hO10.below HG.out);have B810:=ac (hO10.cel hS.1 (by omega))
     clear HN5 HB5 own8 hcap8 hb8 hloc8 hblk8 hs8 hCM hO10 HO6 own6 hO6 HE hcell n8 n10 ngm;refine hK.out _ _ (fun _=>hS) ?_;clear hK K;try simp only[Act.put,ak,aj,ai,ae,ah,ag]
     refine aO 10 ?_;intro K hK;refine pz rfl rfl rfl hrun ?_;refine hK.out _ _ (fun h=>absurd (by decide) h) ?_;clear hK K;try simp only[Act.put,ak,aj,ai,ae,ah,ag]
     refine aq.done (by kernel_rfl) ?_ _;clear hS hrun;go_wp2;exact⟨⟨l+1,n+1,_,by omega,rfl,by omega,HP,B810,HB10⟩,by simp only[intOf];omega⟩;--END
    .obtain rfl:l=v c:=by omega
     go_wp2;exact⟨⟨q+1,n,M,by omega,rfl,by omega,ac (HN.out.congr fun L x=>by rw[<-Sh.nxR_next,<-hcq.out]),HB⟩,by simp only[intOf];omega⟩
  .obtain rfl:q=t.length:=by omega
   go_wp2;go_ret;exact⟨gm,n,M,rfl,HN.out.congr fun L x=>(Sh.nxR_end _ _ _ _ _).symm,HG.out,HB.out⟩
end Go.Proofs.YtleegaihbgbcjaaGreatDoor
namespace Go.Proofs.YtleegaihbgbcjaaGreatDoor
open Go.RowKit
namespace Ag
theorem xT{o:Oper}{a:Act}{w:World}{K:Act->World->Prop}{Q:Exit->Act->World->Prop}(s x:Operand)(t:TypeId)
  (ho:o.op=.call { callee:=.builtin .append,args:=#[s,x],argTypes:=#[t,t] })
  (base:Nat) (e:TypeId) (i:TypeInfo) (z:Value) (size bytes:Nat) (ht:prog.underlying t=some (.slice e)) (hi:prog.info? e=some i) (hz:i.zero=some z)
  (hsize:i.size=size) (hby:i.bytes=bytes) (hzs:z.cells.size=size) (hsz:0<size)
  (v:Value) (n:Nat) (vs:List Value) (hs:a.eval s=v) (hown:w.ownsRow base e size v n vs)
  (ad:Addr) (m c:Nat) (news:List Value) (hx:a.eval x=.slice (some ad) m c) (hl:news.length=m*size) (hm:0<m) (hsrc:∀j u,news[j]?=some u->w.cell? (ad.add j)=some u) (h1:∀u∈news,u.oneCell'=true)
  (h63:n+m<=maxLen) (hbytes:(n+m)*bytes<=140737488355328) (hbase:base<=w.heap.size)
  (h:∀g cap w',w'.ownsRow base e size (.slice (some ⟨g,0,none⟩) (n+m) cap) (n+m) (vs++news)->Below base w w'->(v.ownBlock=some g\/g=w.heap.size)->g<w'.heap.size->(∀k,k<w.heap.size->v.ownBlock≠some k->w'.heap[k]?=w.heap[k]?)->w.heap.size<=w'.heap.size->K (a.put o.dst (.slice (some ⟨g,0,none⟩) (n+m) cap)) w'):
  Oper.wp prog o a w K Q:=by
 refine wp_append_lies w s x t ho base e i z size bytes ht hi hz hsize hby hzs hsz v n vs hs hown ad m c news hx hl hsrc h1 hm h63 hbytes hbase w.heap.size rfl ?_;intro g cap w' o1 o2 o3 o4;refine h g cap w' o1 ?_ o3 o4 ?_ o2.size
 .exact(Below.refl _ _).grown o2 hbase (fun k hk=>(hown.lt k hk).1)
 .intro k hk hne;exact o2.block k hk (fun q=>hne q.symm)
theorem wpList_append{ops:Array Oper}{rest:List Oper}{o:Oper}{a:Act}{w:World}{Q:Exit->Act->World->Prop}(hgd:o.guard=none)(s x:Operand)(t:TypeId)
  (ho:o.op=.call { callee:=.builtin .append,args:=#[s,x],argTypes:=#[t,t] })
  (base:Nat) (e:TypeId) (i:TypeInfo) (z:Value) (size bytes:Nat) (ht:prog.underlying t=some (.slice e)) (hi:prog.info? e=some i) (hz:i.zero=some z)
  (hsize:i.size=size) (hby:i.bytes=bytes) (hzs:z.cells.size=size) (hsz:0<size)
  (v:Value) (n:Nat) (vs:List Value) (hs:a.eval s=v) (hown:w.ownsRow base e size v n vs)
  (ad:Addr) (m c:Nat) (news:List Value) (hx:a.eval x=.slice (some ad) m c) (hl:news.length=m*size) (hm:0<m) (hsrc:∀j u,news[j]?=some u->w.cell? (ad.add j)=some u) (h1:∀u∈news,u.oneCell'=true)
  (h63:n+m<=maxLen) (hbytes:(n+m)*bytes<=140737488355328) (hbase:base<=w.heap.size)
  (h:∀g cap w',w'.ownsRow base e size (.slice (some ⟨g,0,none⟩) (n+m) cap) (n+m) (vs++news)->Below base w w'->(v.ownBlock=some g\/g=w.heap.size)->g<w'.heap.size->(∀k,k<w.heap.size->v.ownBlock≠some k->w'.heap[k]?=w.heap[k]?)->w.heap.size<=w'.heap.size->wpList prog ops Q rest (a.put o.dst (.slice (some ⟨g,0,none⟩) (n+m) cap)) w'):
  wpList prog ops Q (o::rest) a w:=
 wpList_plain hgd fun K hK=>xT s x t ho base e i z size bytes ht hi hz hsize hby hzs hsz v n vs hs hown ad m c news hx hl hm hsrc h1 h63 hbytes hbase fun g cap w' a1 a2 a3 a4 a5 a6=>hK _ _ (h g cap w' a1 a2 a3 a4 a5 a6)
theorem owns_of{w w':World}{base e size n:Nat}{v:Value}{vs:List Value}(h:w.ownsRow base e size v n vs)(hb:∀k,v.ownBlock=some k->w'.heap[k]?=w.heap[k]?):w'.ownsRow base e size v n vs:=by
 obtain⟨h1,h | ⟨g,cap,cur,rfl,a1,a2,a3⟩⟩:=h
 .exact⟨h1,.inl h⟩
 .exact⟨h1,.inr ⟨g,cap,cur,rfl,a1,(hb g rfl).trans a2,a3⟩⟩
theorem owns_keep{w w':World}{base e size n:Nat}{v:Value}{vs:List Value}(h:w.ownsRow base e size v n vs)(hb:Below w.heap.size w w'):w'.ownsRow base e size v n vs:=owns_of h fun k hk=>hb.block k (h.lt k hk).2
theorem owns_cells{w:World}{base e size n g cap:Nat}{vs:List Value}(h:w.ownsRow base e size (.slice (some ⟨g,0,none⟩) n cap) n vs):g<w.heap.size/\∀j u,vs[j]?=some u->w.cell? ⟨g,j,none⟩=some u:=by
 obtain⟨h1,⟨h,_⟩ | ⟨g',cap',cur,e1,e2,hh,r1,r2,r3,r4⟩⟩:=h
 .cases h
 .simp only[Value.slice.injEq,Option.some.injEq,Addr.mk.injEq]at e1;obtain⟨⟨rfl,_,_⟩,_,rfl⟩:=e1;refine⟨(Array.getElem?_eq_some_iff.1 hh).1,fun j u hu=>?_⟩;unfold World.cell?
  rw[show w.heap[({ block:=g,off:=j,spot:=none }:Addr).block]?=_ from hh];rw[<-r4]at hu
  have hj:j<n*size:=by
   have:=(List.getElem?_eq_some_iff.1 hu).1;rw[List.length_take]at this;omega
  rw[List.getElem?_take_of_lt hj]at hu;simpa using hu
theorem owns_frozen{w:World}{base e size n g cap:Nat}{vs:List Value}(h:w.ownsRow base e size (.slice (some ⟨g,0,none⟩) n cap) n vs)(j:Nat):w.frozen? ⟨g,j,none⟩=false:=by
 obtain⟨h1,⟨h,_⟩ | ⟨g',cap',cur,e1,e2,hh,r1,r2,r3,r4⟩⟩:=h
 .cases h
 .simp only[Value.slice.injEq,Option.some.injEq,Addr.mk.injEq]at e1;obtain⟨⟨rfl,_,_⟩,_,rfl⟩:=e1;unfold World.frozen?;rw[show w.heap[({ block:=g,off:=j,spot:=none }:Addr).block]?=_ from hh];simp
end Ag
open Go.RowKit Num Bit
namespace Sh
section
variable (v k:Nat->Nat)
def kK(q L x:Nat):Bool:=(List.range q).any (st v k L x)
theorem my(q L x:Nat):kK v k q L x=true↔∃c,c<q/\st v k L x c=true:=by
 unfold kK;rw[List.any_eq_true];exact⟨fun⟨c,h,g⟩=>⟨c,List.mem_range.1 h,g⟩,fun⟨c,h,g⟩=>⟨c,List.mem_range.2 h,g⟩⟩
theorem j_(L x c:Nat):st v k L x c=true↔L<v c/\pre v k L c=x:=by
 unfold st;simp
theorem Fj(q L x:Nat):kK v k (q+1) L x=true↔kK v k q L x=true\/st v k L x q=true:=by
 rw[my,my];constructor
 .rintro⟨c,h,g⟩;by_cases e:c=q
  .subst e;exact .inr g
  .exact .inl ⟨c,by omega,g⟩
 .rintro(⟨c,h,g⟩ | g)
  .exact⟨c,by omega,g⟩
  .exact⟨q,by omega,g⟩
theorem Fk(L x:Nat):kK v k 256 L x=mz v k L x:=rfl
theorem tX{L l c:Nat}(h:L<=l)(hl:l<=v c):pre v k L c=pre v k l c/2^(l-L):=by
 unfold pre;rw[Nat.div_div_eq_div_mul,<-Nat.pow_add,show v c-l+(l-L)=v c-L by omega]
structure BI (q l n:Nat) (bl:List (Nat×Nat)) (M:Nat->Nat->Option Value):Prop where
 nodup:bl.Nodup
 mem:∀L x,(L,x)∈bl↔kK v k q L x=true\/(l<=L/\st v k L x q=true)
 cnt:∀L x,(M L x=none/\(L,x) ∉ bl)\/∃m:Nat,M L x=some (.int .i64 m)/\1<=m/\m<=n/\(L,x)∈bl
variable {v k} {q l n:Nat} {bl:List (Nat×Nat)} {M:Nat->Nat->Option Value}
theorem BI.start(h:∀L x,M L x=none):BI v k 0 (v 0) 0 [] M:=
 ⟨List.nodup_nil,fun L x=>by
  rw[my,j_];constructor
  .intro h;cases h
  .rintro(⟨c,h,_⟩ | ⟨h1,h2,_⟩)<;>omega,fun L x=>.inl ⟨h L x,by simp⟩⟩
theorem BI.next(h:BI v k q 0 n bl M):BI v k (q+1) (v (q+1)) n bl M:=
 ⟨h.nodup,fun L x=>by
  rw[h.mem,Fj,j_ v k L x (q+1)];constructor
  .rintro(g | ⟨_,g⟩)
   .exact .inl (.inl g)
   .exact .inl (.inr g)
  .rintro((g | g) | ⟨h1,h2,_⟩)
   .exact .inl g
   .exact .inr ⟨Nat.zero_le _,g⟩
   .omega,h.cnt⟩
theorem BI.found(h:BI v k q (l+1) n bl M)(hl:l<v q)(hm:(l,pre v k l q)∈bl){m:Nat}(e:M l (pre v k l q)=some (.int .i64 m)):m<=n/\1<=m/\BI v k q 0 (n+1) bl (cup M l (pre v k l q) (.int .i64 ((m+1:Nat):Int))):=by
 have hm':=hm;rw[h.mem]at hm'
 obtain⟨c,hc,g⟩:∃c,c<q/\st v k l (pre v k l q) c=true:=by
  rcases hm' with g | ⟨g,_⟩
  .exact(my v k _ _ _).1 g
  .omega
 rw[j_]at g
 have hmn:1<=m/\m<=n:=by
  rcases h.cnt l (pre v k l q)with⟨g1,_⟩ | ⟨m',g1,g2,g3,_⟩
  .rw[g1]at e;cases e
  .rw[g1]at e;simp only[Option.some.injEq,Value.int.injEq,true_and]at e;omega
 refine⟨hmn.2,hmn.1,h.nodup,fun L x=>?_,fun L x=>?_⟩
 .rw[h.mem];constructor
  .rintro(a | ⟨a,b⟩)
   .exact .inl a
   .exact .inr ⟨Nat.zero_le _,b⟩
  .rintro(a | ⟨_,b⟩)
   .exact .inl a
   .by_cases d:l+1<=L
    .exact .inr ⟨d,b⟩
    .refine .inl ((my v k _ _ _).2 ⟨c,hc,?_⟩);rw[j_]at b⊢;refine⟨by omega,?_⟩;rw[tX v k (show L<=l by omega) (by omega),g.2,<-tX v k (show L<=l by omega) (by omega)];exact b.2
 .by_cases d:L=l/\x=pre v k l q
  .obtain⟨rfl,rfl⟩:=d;rw[fj];exact .inr ⟨m+1,rfl,by omega,by omega,hm⟩
  .rw[cup_other _ _ d];exact(h.cnt L x).imp id fun⟨a,b,c,d,e⟩=>⟨a,b,c,by omega,e⟩
theorem BI.new(h:BI v k q (l+1) n bl M)(hl:l<v q)(hm:(l,pre v k l q) ∉ bl):BI v k q l (n+1) (bl++[(l,pre v k l q)]) (cup M l (pre v k l q) (.int .i64 ((1:Nat):Int))):=by
 refine⟨?_,fun L x=>?_,fun L x=>?_⟩
 .rw[List.nodup_append];refine⟨h.nodup,by simp,fun a ha b hb=>?_⟩;rw[List.mem_singleton]at hb;subst hb;intro e;subst e;exact hm ha
 .rw[List.mem_append,List.mem_singleton,h.mem,Prod.mk.injEq,j_];constructor
  .rintro((a | ⟨a,b⟩) | ⟨rfl,rfl⟩)
   .exact .inl a
   .exact .inr ⟨by omega,b⟩
   .exact .inr ⟨Nat.le_refl _,hl,rfl⟩
  .rintro(a | ⟨a,b,d⟩)
   .exact .inl (.inl a)
   .by_cases g:l+1<=L
    .exact .inl (.inr ⟨g,b,d⟩)
    .obtain rfl:L=l:=by omega
     exact .inr ⟨rfl,d.symm⟩
 .by_cases d:L=l/\x=pre v k l q
  .obtain⟨rfl,rfl⟩:=d;rw[fj];exact .inr ⟨1,rfl,by omega,by omega,by simp⟩
  .rw[cup_other _ _ d];refine(h.cnt L x).imp (fun⟨a,b⟩=>⟨a,?_⟩) fun⟨a,b,c,d,e⟩=>⟨a,b,c,by omega,by simp[e]⟩;rw[List.mem_append,List.mem_singleton,Prod.mk.injEq];rintro(g | g)
   .exact b g
   .exact d g
end
end Sh
def eP(bl:List (Nat×Nat)):List Value:=bl.flatMap fun p=>[.int .i64 (p.1:Int),.int .u64 (p.2:Int)]
theorem GZ(bl:List (Nat×Nat))(L x:Nat):eP (bl++[(L,x)])=eP bl++[.int .i64 L,.int .u64 x]:=by
 unfold eP;simp
theorem iW(w:World):(zeroValue 3).run prog w=.ok (.int .i64 0) w:=by kernel_rfl
theorem Fx:(prog.info? 83).map (fun i=>(i.zero,i.size,i.bytes))=some (some (.agg #[.int .i64 0,.int .u64 0]),2,16):=by kernel_rfl
theorem sT{ops:Array Oper}{d:Option Tmp}{ty t e:TypeId}{ps:String}{af:Array Edge}{a:Act}{w:World}{K:Act->World->Prop}{Q:Exit->Act->World->Prop}{E:Prop}{x y:Operand}{z:Value}
  (b n:Nat) (M:Nat->Nat->Option Value) (L X:Nat) (hx:a.eval x=.map (some b)) (hy:a.eval y=cv L X) (ht:prog.underlying t=some (.map 83 e)) (hz:∀u:World,(zeroValue e).run prog u=.ok z u) (h:CM w b n M) (hn:n<maxLen) (hL:L<=64) (hX:X<18446744073709551616)
  (hK:∀st w1 o,aw b w w1->w1.heap[b]?=some o->Hid (∀w2 v,w2.heap[b]?=some o->∃w3,(Instr.entryStore t (.map (some b)) (goInt st) v).run prog w2=.ok () w3/\CM w3 b (n+1) (cup M L X v)/\aw b w2 w3)->CM w1 b (n+1) (cup M L X ((M L X).getD z))->K (a.put d (.tuple #[(M L X).getD z,goInt st])) w1):
  if Region.wanted (⟨d,.mapEntry t x y,ty,ps,af,none⟩:Oper) (yielded ops a.tmps)=true then Oper.wp prog (⟨d,.mapEntry t x y,ty,ps,af,none⟩:Oper) a w K Q else E:=by
 rw[if_pos (by simp[Region.wanted])];obtain⟨st,w1,o,hrun,hO,ho,hs⟩:=h.entry ht hz hn hL hX;have:=hK st w1 o hO ho hs (h.entry_cm ht hz hn hL hX hrun);unfold Oper.wp
 simp only[execOp,hx,hy,hrun,Sem.run_bind,Result.andThen_ok,Sem.run_pure];exact this
theorem Al(gc:Nat)(v:Nat->Nat)(w:World)(hC:aa w gc (cC v) 83)(hv:∀c,v c<=40)(hk:∀c,cod v c<2^v c)(Q:Ending->World->Prop)
  (hQ:Hid (∀(gm n:Nat) (M:Nat->Nat->Option Value) (bl:List (Nat×Nat)) (bv:Value) (w1:World),Sh.BI v (cod v) 256 (v 256) n bl M->w1.ownsRow (gm+1) 83 2 bv bl.length (eP bl)->w.heap.size<=gm->gm<w1.heap.size->Below w.heap.size w w1->bl.length<=10240->
   Calls prog 85 #[bv,.func (.func 86) #[] #[]] w1 fun e w2=>e=.returned (.tuple #[])/\Q (.returned bv) w2)):
  Calls prog 38 #[.slice (some ⟨gc,0,none⟩) 256 256] w Q:=by
 have hmm:=@run_makeMap prog;obtain⟨i0,hi,hz0,hz1,hz2⟩:=info_parts Fx;have HC:=ac hC;have HV:=ac hv;have HK:=ac hk;have HQ:=ac hQ;have lgc:=hC.lt;clear hC hv hk hQ
 go_enter func38,ntmps38;go_wp2;obtain⟨gm,hgm⟩:∃gm,gm=w.heap.size:=⟨_,rfl⟩;have HG:Hid (w.heap.size<=gm):=by show w.heap.size<=gm;omega
 have HN0:Hid (CM (w.alloc (.map #[] 0)) gm 0 fun _ _=>none):=by
  rw[hgm];exact CM.made w
 have HB0:Hid (Below w.heap.size w (w.alloc (.map #[] 0))):=below_alloc w _;rw[<-hgm];clear hgm
 go_loopw [3,12] (fun bv vi wr=>∃(q n:Nat) (M:Nat->Nat->Option Value) (bl:List (Nat×Nat)),q<=256/\vi=.int .i64 q/\n<=40*q/\bl.length<=40*q/\Hid (Sh.BI v (cod v) q (v q) n bl M)/\Hid (CM wr gm n M)/\Hid (wr.ownsRow (gm+1) 83 2 bv bl.length (eP bl))/\Hid (Below w.heap.size w wr)) (fun _ vi _=>256-(intOf vi).toNat)
 case atStart=>exact⟨0,0,_,[],Nat.zero_le _,rfl,Nat.zero_le _,Nat.zero_le _,Sh.BI.start fun _ _=>rfl,HN0,World.ownsRow_nil _ _ _ _,HB0⟩
 case round=>
  clear HN0 HB0;obtain⟨q,n,M,bl,hq,rfl,hnn,hbn,HI,HM,HO,HB⟩:=hrel;by_cases hlt:q<256
  .have hltz:(q:Int)<256:=by omega
   have HCw:=ac (HC.out.kept HB.out);have a1:=HCw.out.cell (q*2) (gF v _ hlt);have a2:=HCw.out.cell (q*2+1) (gE v _ hlt);have v40:=HV.out q;have HKc:=ac (HK.out q);have lgw:=HB.out.size
   have zw:=HM.out.lt;go_wp2;obtain⟨g6,hg6⟩:∃g6,g6=wr.heap.size:=⟨_,rfl⟩
   have B6:Hid (aa (wr.alloc (.cells #[.int .i64 (v q:Nat),.int .u64 (cod v q:Nat)] 83)) g6 [.int .i64 (v q:Nat),.int .u64 (cod v q:Nat)] 83):=by
    rw[hg6];exact aa.new wr _ _
   have hA:=below_alloc wr (.cells #[.int .i64 (v q:Nat),.int .u64 (cod v q:Nat)] 83);have HM1:=ac (HM.out.kept hA);have HO1:=ac (Ag.owns_keep HO.out hA);have HB1:=ac (HB.out.trans (hA.mono lgw))
   have hne:∀k,u3.ownBlock=some k->k≠g6:=fun k hk=>by have:=(HO.out.lt k hk).2;omega
   have g6m:gm<g6:=by omega
   have g6w:w.heap.size<=g6:=by omega
   rw[<-hg6];clear hA HM HB HO hg6 a1 a2 HCw;have HE1:=ac hne;clear hne;have evq:IntKind.i64.wrap ((v q:Int)-1)=(v q:Int)-1:=by rw[IntKind.wrap_i64];omega
   go_loopw [3,7] (fun bv vl wr=>∃(l n:Nat) (M:Nat->Nat->Option Value) (bl:List (Nat×Nat)),l<=v q/\vl=.int .i64 ((l:Int)-1)/\n<=40*q+(v q-l)/\bl.length<=40*q+(v q-l)/\Hid (Sh.BI v (cod v) q l n bl M)/\Hid (CM wr gm n M)/\Hid (wr.ownsRow (gm+1) 83 2 bv bl.length (eP bl))/\Hid (∀k,bv.ownBlock=some k->k≠g6)/\Hid (aa wr g6 [.int .i64 (v q:Nat),.int .u64 (cod v q:Nat)] 83)/\Hid (Below w.heap.size w wr)) (fun _ vl _=>(intOf vl+1).toNat)
   case atStart=>exact⟨v q,n,M,bl,Nat.le_refl _,by first | rfl | (rw[evq]),by omega,by omega,HI,HM1,HO1,HE1,B6,HB1⟩
   case round=>
    clear HM1 HO1 HE1 B6 HB1 HI;obtain⟨l,n,M,bl,hl,rfl,hnn,hbn,HI,HM,HO,HE0,B6,HB⟩:=hrel;by_cases hl0:l=0
    .subst hl0;go_wp2;exact⟨⟨q+1,n,M,bl,by omega,rfl,by omega,by omega,ac HI.out.next,HM,HO,HB⟩,by simp only[intOf];omega⟩
    .obtain⟨l,rfl⟩:∃l',l=l'+1:=⟨l-1,by omega⟩;have el:(((l+1:Nat):Int)-1)=(l:Int):=by omega
     rw[el];clear hl0 el;have hlc:l<v q:=by omega
     have q0:=B6.out.cell 0 rfl;have q1:=B6.out.cell 1 rfl
     have HBg:Hid (∀w0,Qq 84 #[.agg #[.int .i64 (v q:Nat),.int .u64 (cod v q:Nat)],.int .i64 l] w0 (.agg #[.int .i64 l,.int .u64 (Sh.pre v (cod v) l q:Nat)])):=fun w0=>m8 (v q) (cod v q) l (by omega) (by omega) (iF HKc.out v40) w0
     have pxl:Sh.pre v (cod v) l q<18446744073709551616:=ri HKc.out v40;have lg:=B6.out.lt;have sw:=HB.out.size;go_wp2_with fail;refine mr (HBg.out _) fun w1 hb=>?_
     have HM1:=ac (HM.out.kept hb);have B61:=ac (B6.out.kept hb);have HO1:=ac (Ag.owns_keep HO.out hb);have HB1:=ac (HB.out.trans (hb.mono sw));have s1:=hb.size;clear HM B6 HB HO hb HBg q0 q1;go_wp2
     by_cases hin:(l,Sh.pre v (cod v) l q)∈bl
     .obtain⟨m,hMl,hm1,hm2,_⟩:∃m:Nat,M l (Sh.pre v (cod v) l q)=some (.int .i64 m)/\1<=m/\m<=n/\(l,Sh.pre v (cod v) l q)∈bl:=by
       rcases HI.out.cnt l (Sh.pre v (cod v) l q)with⟨_,g⟩ | g
       .exact absurd hin g
       .exact g
      have HFi:=ac (HI.out.found hlc hin hMl);have HMl:=ac hMl;clear hMl hin HI;generalize Sh.pre v (cod v) l q=px at *
      have wm:IntKind.i64.wrap ((m:Int)+1)=((m+1:Nat):Int):=by rw[IntKind.wrap_i64];omega
      have B10:=ac (aa.new w1 [.int .i64 l,.int .u64 px] 83);have hA:=below_alloc w1 (.cells #[.int .i64 l,.int .u64 px] 83);have HM2:=ac (HM1.out.kept hA)
      have B62:=ac (B61.out.kept hA);have HO2:=ac (Ag.owns_keep HO1.out hA);have HB2:=ac (bg HB1.out hA);obtain⟨g10,hg10⟩:∃g10,Hid (g10=w1.heap.size):=⟨_,rfl⟩
      rw[<-hg10.out]at B10⊢;have g10m:gm<g10/\g6<g10:=by have:=hg10.out;have:=HM1.out.lt;have:=B61.out.lt;omega
      have ob10:∀k,u3.ownBlock=some k->k<g10:=fun k hk=>by have:=(HO1.out.lt k hk).2;have:=hg10.out;omega
      generalize w1.alloc (.cells #[.int .i64 l,.int .u64 px] 83)=V at *;clear hA HM1 B61 HB1 HO1
      refine aB [6] (fun w'=>aa w' g10 [.int .i64 l,.int .u64 px] 83/\(Instr.lookup 150 (.map (some gm)) (.agg #[.int .i64 l,.int .u64 px]) false).run prog w'=.ok (.int .i64 m) w') (by kernel_rfl) ?_
      have HM3:Hid (CM V.drew gm n M):=HM2.out.kept ((Below.refl _ _).drew)
      have hS:aa V.drew g10 [.int .i64 l,.int .u64 px] 83/\(Instr.lookup 150 (.map (some gm)) (.agg #[.int .i64 l,.int .u64 px]) false).run prog V.drew=.ok (.int .i64 m) V.drew:=⟨B10.out,by
       have:=HM3.out.look underlying150 (iW _) (L:=l) (x:=px) (by omega) pxl;rw[HMl.out]at this
       exact this⟩
      have B63:Hid (aa V.drew g6 [.int .i64 (v q:Nat),.int .u64 (cod v q:Nat)] 83):=B62.out;have HO3:Hid (V.drew.ownsRow (gm+1) 83 2 u3 bl.length (eP bl)):=HO2.out
      have HB3:Hid (Below w.heap.size w V.drew):=HB2.out.drew;generalize V.drew=Y at *;clear HM2 B62 HB2 B10 HO2
      refine aF 0 hS rfl (fun w0 h0=>by have c0:=h0.1.cell 0 rfl;have c1:=h0.1.cell 1 rfl;go_simp;try with_reducible rfl) ?_
      refine aF 1 hS rfl (fun w0 h0=>by have c0:=h0.1.cell 0 rfl;have c1:=h0.1.cell 1 rfl;go_simp;try with_reducible rfl) ?_
      refine aF 2 hS rfl (fun w0 h0=>by have c0:=h0.1.cell 0 rfl;have c1:=h0.1.cell 1 rfl;have hlk:=h0.2;go_simp;try with_reducible rfl) ?_
      refine aF 3 hS rfl (fun w0 h0=>by have c0:=h0.1.cell 0 rfl;have c1:=h0.1.cell 1 rfl;go_simp;try with_reducible rfl) ?_;refine aO 4 ?_;intro K hK
      refine sT gm n M l px rfl rfl underlying150 iW HM3.out (by unfold maxLen;omega) (by omega) pxl ?_;intro st w6 o hO6 ho6 HE hCe;have B66:=ac (hO6.cel B63.out (by omega))
      replace hS:aa w6 g10 [.int .i64 l,.int .u64 px] 83/\(Instr.lookup 150 (.map (some gm)) (.agg #[.int .i64 l,.int .u64 px]) false).run prog w6=.ok (.int .i64 m) w6:=⟨hO6.cel hS.1 (by omega),by
       have:=hCe.look underlying150 (iW _) (L:=l) (x:=px) (by omega) pxl;rw[fj,HMl.out]at this
       exact this⟩
      have HO6:=ac (Ag.owns_of HO3.out fun k hk=>hO6.block k (by have:=(HO3.out.lt k hk).1;omega));have HB6:=ac (HB3.out.trans (hO6.below HG.out));clear B63 HO3 HB3 hO6 HM3 hCe;refine hK.out _ _ (fun _=>hS) ?_
      clear hK K;try simp only[Act.put,ak,aj,ai,ae,ah,ag]
      refine aF 5 hS rfl (fun w0 h0=>by have c0:=h0.1.cell 0 rfl;have c1:=h0.1.cell 1 rfl;go_simp;try with_reducible rfl) ?_;obtain⟨w7,hrun,hCM,hO7⟩:=HE.out w6 (.int .i64 ((m+1:Nat):Int)) ho6
      have B67:=ac (hO7.cel B66.out (by omega));have B107:=ac (hO7.cel hS.1 (by omega));have HO7:=ac (Ag.owns_of HO6.out fun k hk=>hO7.block k (by have:=(HO6.out.lt k hk).1;omega))
      have HB7:=ac (HB6.out.trans (hO7.below HG.out));have HM7:=ac hCM;refine aO 6 ?_;intro K hK;refine pz rfl rfl rfl hrun ?_;refine hK.out _ _ (fun h=>absurd (by decide) h) ?_;clear hK K
      try simp only[Act.put,ak,aj,ai,ae,ah,ag]
      refine aq.done (by kernel_rfl) ?_ _;clear hS hrun HE B66 HO6 HB6 hO7 hCM ho6;have q0:=B107.out.cell 0 rfl;have q1:=B107.out.cell 1 rfl
      have hlk:(Instr.lookup 150 (.map (some gm)) (.agg #[.int .i64 l,.int .u64 px]) false).run prog w7=.ok (.int .i64 ((m+1:Nat):Int)) w7:=by
       have:=HM7.out.look underlying150 (iW w7) (L:=l) (x:=px) (by omega) pxl;rw[fj]at this;exact this
      have hgt:(((m+1:Nat):Int))>1:=by omega
      go_wp2;refine⟨⟨q+1,n+1,_,bl,by omega,rfl,by omega,by omega,ac (HFi.out.2.2.next),HM7,HO7,HB7⟩,by simp only[intOf];omega⟩
     .have HMl:Hid (M l (Sh.pre v (cod v) l q)=none):=by
       rcases HI.out.cnt l (Sh.pre v (cod v) l q)with⟨g,_⟩ | ⟨_,_,_,_,g⟩
       .exact g
       .exact absurd g hin
      have HFi:=ac (HI.out.new hlc hin);clear hin HI;generalize Sh.pre v (cod v) l q=px at *;have wm:IntKind.i64.wrap (0+1)=((1:Nat):Int):=by rw[IntKind.wrap_i64];omega
      have B10:=ac (aa.new w1 [.int .i64 l,.int .u64 px] 83);have hA:=below_alloc w1 (.cells #[.int .i64 l,.int .u64 px] 83);have HM2:=ac (HM1.out.kept hA)
      have B62:=ac (B61.out.kept hA);have HO2:=ac (Ag.owns_keep HO1.out hA);have HB2:=ac (bg HB1.out hA);obtain⟨g10,hg10⟩:∃g10,Hid (g10=w1.heap.size):=⟨_,rfl⟩
      rw[<-hg10.out]at B10⊢;have g10m:gm<g10/\g6<g10:=by have:=hg10.out;have:=HM1.out.lt;have:=B61.out.lt;omega
      have ob10:∀k,u3.ownBlock=some k->k<g10:=fun k hk=>by have:=(HO1.out.lt k hk).2;have:=hg10.out;omega
      generalize w1.alloc (.cells #[.int .i64 l,.int .u64 px] 83)=V at *;clear hA HM1 B61 HB1 HO1
      refine aB [6] (fun w'=>aa w' g10 [.int .i64 l,.int .u64 px] 83/\(Instr.lookup 150 (.map (some gm)) (.agg #[.int .i64 l,.int .u64 px]) false).run prog w'=.ok (.int .i64 0) w') (by kernel_rfl) ?_
      have HM3:Hid (CM V.drew gm n M):=HM2.out.kept ((Below.refl _ _).drew)
      have hS:aa V.drew g10 [.int .i64 l,.int .u64 px] 83/\(Instr.lookup 150 (.map (some gm)) (.agg #[.int .i64 l,.int .u64 px]) false).run prog V.drew=.ok (.int .i64 0) V.drew:=⟨B10.out,by
       have:=HM3.out.look underlying150 (iW _) (L:=l) (x:=px) (by omega) pxl;rw[HMl.out]at this
       exact this⟩
      have B63:Hid (aa V.drew g6 [.int .i64 (v q:Nat),.int .u64 (cod v q:Nat)] 83):=B62.out;have HO3:Hid (V.drew.ownsRow (gm+1) 83 2 u3 bl.length (eP bl)):=HO2.out
      have HB3:Hid (Below w.heap.size w V.drew):=HB2.out.drew;generalize V.drew=Y at *;clear HM2 B62 HB2 B10 HO2
      refine aF 0 hS rfl (fun w0 h0=>by have c0:=h0.1.cell 0 rfl;have c1:=h0.1.cell 1 rfl;go_simp;try with_reducible rfl) ?_
      refine aF 1 hS rfl (fun w0 h0=>by have c0:=h0.1.cell 0 rfl;have c1:=h0.1.cell 1 rfl;go_simp;try with_reducible rfl) ?_
      refine aF 2 hS rfl (fun w0 h0=>by have c0:=h0.1.cell 0 rfl;have c1:=h0.1.cell 1 rfl;have hlk:=h0.2;go_simp;try with_reducible rfl) ?_
      refine aF 3 hS rfl (fun w0 h0=>by have c0:=h0.1.cell 0 rfl;have c1:=h0.1.cell 1 rfl;go_simp;try with_reducible rfl) ?_;refine aO 4 ?_;intro K hK
      refine sT gm n M l px rfl rfl underlying150 iW HM3.out (by unfold maxLen;omega) (by omega) pxl ?_;intro st w6 o hO6 ho6 HE hCe;have B66:=ac (hO6.cel B63.out (by omega))
      replace hS:aa w6 g10 [.int .i64 l,.int .u64 px] 83/\(Instr.lookup 150 (.map (some gm)) (.agg #[.int .i64 l,.int .u64 px]) false).run prog w6=.ok (.int .i64 0) w6:=⟨hO6.cel hS.1 (by omega),by
       have:=hCe.look underlying150 (iW _) (L:=l) (x:=px) (by omega) pxl;rw[fj,HMl.out]at this
       exact this⟩
      have HO6:=ac (Ag.owns_of HO3.out fun k hk=>hO6.block k (by have:=(HO3.out.lt k hk).1;omega));have HB6:=ac (HB3.out.trans (hO6.below HG.out));clear B63 HO3 HB3 hO6 HM3 hCe;refine hK.out _ _ (fun _=>hS) ?_
      clear hK K;try simp only[Act.put,ak,aj,ai,ae,ah,ag]
      refine aF 5 hS rfl (fun w0 h0=>by have c0:=h0.1.cell 0 rfl;have c1:=h0.1.cell 1 rfl;go_simp;try with_reducible rfl) ?_;obtain⟨w7,hrun,hCM,hO7⟩:=HE.out w6 (.int .i64 ((1:Nat):Int)) ho6
      have B67:=ac (hO7.cel B66.out (by omega));have B107:=ac (hO7.cel hS.1 (by omega));have HO7:=ac (Ag.owns_of HO6.out fun k hk=>hO7.block k (by have:=(HO6.out.lt k hk).1;omega))
      have HB7:=ac (HB6.out.trans (hO7.below HG.out));have HM7:=ac hCM;refine aO 6 ?_;intro K hK;refine pz rfl rfl rfl hrun ?_;refine hK.out _ _ (fun h=>absurd (by decide) h) ?_;clear hK K
      try simp only[Act.put,ak,aj,ai,ae,ah,ag]
      refine aq.done (by kernel_rfl) ?_ _;clear hS hrun HE B66 HO6 HB6 hO7 hCM ho6;have q0:=B107.out.cell 0 rfl;have q1:=B107.out.cell 1 rfl
      have hlk:(Instr.lookup 150 (.map (some gm)) (.agg #[.int .i64 l,.int .u64 px]) false).run prog w7=.ok (.int .i64 ((1:Nat):Int)) w7:=by
       have:=HM7.out.look underlying150 (iW w7) (L:=l) (x:=px) (by omega) pxl;rw[fj]at this;exact this
      go_wp2_with (at_builtin;refine Ag.wpList_append (by rfl) _ _ _ (by rfl) (gm+1) 83 i0 (.agg #[.int .i64 0,.int .u64 0]) 2 16 underlying75 hi hz0 hz1 hz2 rfl (by decide) u3 bl.length (eP bl) (by rfl) (HO7.out.alloc _) ⟨w7.heap.size,0,none⟩ 1 1 [.int .i64 l,.int .u64 px] (by rfl) rfl (by decide) ?c1 ?c2 ?c3 ?c4 ?c5 ?_)
      case c1=>
       intro j u hj;have:=(aa.new w7 [.int .i64 l,.int .u64 px] 83).cell j hj;match j,hj with
       | 0,_=>exact this
       | 1,_=>exact this
      case c2=>intro u hu;simp at hu;rcases hu with rfl | rfl<;>rfl
      case c3=>unfold maxLen;omega
      case c4=>omega
      case c5=>have:=HM7.out.lt;simp;omega
      intro g8 cap8 w8 own8 hb8 hloc8 hlt8 hblk8 hs8;have hA:=below_alloc w7 (.cells #[.int .i64 l,.int .u64 px] 83);have lm7:=HM7.out.lt;have l67:=B67.out.lt
      have ngm:u3.ownBlock≠some gm:=fun hk=>by have:=(HO7.out.lt gm hk).1;omega
      have n6:u3.ownBlock≠some g6:=fun hk=>HE0.out g6 hk rfl;have HM8:=ac ((HM7.out.kept hA).of (hblk8 gm (by omega) ngm))
      have B68:Hid (aa w8 g6 [.int .i64 (v q:Nat),.int .u64 (cod v q:Nat)] 83):=(hblk8 g6 (by omega) n6).trans (B67.out.kept hA)
      have HE8:Hid (∀k,(Value.slice (some ⟨g8,0,none⟩) (bl.length+1) cap8).ownBlock=some k->k≠g6):=fun k hk=>by
       simp only[Value.ownBlock,Option.some.injEq]at hk;subst hk;rcases hloc8 with g | g
       .exact HE0.out _ g
       .omega
      have HB8:Hid (Below w.heap.size w w8):=(bg HB7.out hA).trans (hb8.mono (by have:=HG.out;omega))
      have HO8:Hid (w8.ownsRow (gm+1) 83 2 (.slice (some ⟨g8,0,none⟩) (bl.length+1) cap8) (bl++[(l,px)]).length (eP (bl++[(l,px)]))):=by
       rw[GZ,List.length_append];exact own8
      clear own8 hb8 hloc8 hlt8 hblk8 hA HM7 B67 HO7 HB7 ngm n6 hlk q0 q1 B107 HE0;go_wp2
      exact⟨⟨l,n+1,_,bl++[(l,px)],by omega,rfl,by omega,by simp;omega,HFi,HM8,HO8,HE8,B68,HB8⟩,by simp only[intOf];omega⟩
  .obtain rfl:q=256:=by omega
   have h6:=HQ.out gm n M bl u3 wr HI.out HO.out HG.out HM.out.lt HB.out hbn;go_wp2_with fail;refine h6.mono ?_;rintro e w2 ⟨rfl,hq2⟩;clear h6;go_wp2;exact hq2
namespace Sh
def ltc(a b:Nat×Nat):Prop:=a.1<b.1\/(a.1=b.1/\a.2<b.2)
theorem ltc_irrefl(a:Nat×Nat):¬ltc a a:=fun h=>by unfold ltc at h;omega
theorem uP{a b:Nat×Nat}(h:ltc a b):¬ltc b a:=fun g=>by unfold ltc at h g;omega
theorem wO:∀{l m:List (Nat×Nat)},l.Pairwise ltc->m.Pairwise ltc->(∀a,a∈l↔a∈m)->l=m
 | [],[],_,_,_=>rfl
 | [],b::m,_,_,h=>absurd ((h b).2 (by simp)) (by simp)
 | a::l,[],_,_,h=>absurd ((h a).1 (by simp)) (by simp)
 | a::l,b::m,hl,hm,h=>by
  rw[List.pairwise_cons]at hl hm
  have e:a=b:=by
   rcases List.mem_cons.1 ((h a).1 (by simp))with e | e
   .exact e
   .rcases List.mem_cons.1 ((h b).2 (by simp))with g | g
    .exact g.symm
    .exact absurd (hl.1 b g) (uP (hm.1 a e))
  subst e;congr 1;refine wO hl.2 hm.2 fun c=>?_;constructor
  .intro hc;rcases List.mem_cons.1 ((h c).1 (List.mem_cons_of_mem _ hc))with g | g
   .subst g;exact absurd (hl.1 c hc) (ltc_irrefl c)
   .exact g
  .intro hc;rcases List.mem_cons.1 ((h c).2 (List.mem_cons_of_mem _ hc))with g | g
   .subst g;exact absurd (hm.1 c hc) (ltc_irrefl c)
   .exact g
section
variable (v k:Nat->Nat)
theorem sorted_nds:(nds v k).Pairwise ltc:=by
 unfold nds;rw[List.pairwise_flatMap];refine⟨fun L _=>?_,?_⟩
 .rw[List.pairwise_map];unfold nM;refine List.Pairwise.imp (fun h=>.inr ⟨rfl,h⟩) (List.Pairwise.filter _ List.pairwise_lt_range')
 .refine List.Pairwise.imp (fun{a b} h=>?_) List.pairwise_lt_range;intro x hx y hy;obtain⟨_,_,rfl⟩:=List.mem_map.1 hx;obtain⟨_,_,rfl⟩:=List.mem_map.1 hy;exact .inl h
theorem bl_nds{n:Nat}{bl bl':List (Nat×Nat)}{M:Nat->Nat->Option Value}(h:BI v k 256 (v 256) n bl M)(hv:∀c,v c<=40)(hk:∀c,k c<2^v c)(hp:bl'.Perm bl)(hs:bl'.Pairwise fun a b=>¬ltc b a):bl'=nds v k:=by
 have nd:bl'.Nodup:=hp.nodup_iff.2 h.nodup;refine wO ?_ (sorted_nds v k) fun a=>?_
 .refine List.Pairwise.imp (fun{a b} g=>?_) (hs.and nd);obtain⟨g1,g2⟩:=g;unfold ltc at g1⊢
  have:a.1≠b.1\/a.2≠b.2:=by
   by_cases e:a.1=b.1
   .refine .inr fun e2=>g2 ?_;exact Prod.ext e e2
   .exact .inl e
  omega
 .obtain⟨L,x⟩:=a;rw[hp.mem_iff,h.mem,mem_nds v k L x hk,Fk,j_];constructor
  .rintro(g | ⟨g1,g2,_⟩)
   .refine⟨?_,g⟩;obtain⟨c,_,hc,_⟩:=(isN_iff v k L x).1 g;have:=hv c;omega
   .omega
  .rintro⟨_,g⟩;exact .inl g
end
end Sh
end Go.Proofs.YtleegaihbgbcjaaGreatDoor
