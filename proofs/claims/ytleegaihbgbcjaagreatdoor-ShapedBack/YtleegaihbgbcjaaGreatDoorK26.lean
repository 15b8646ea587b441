import Derived.Test.YtleegaihbgbcjaaGreatDoorK24
import Derived.Shelf.SlSortCmp.NoneTotal
set_option linter.unusedVariables false
set_option linter.unusedSimpArgs false
set_option maxRecDepth 100000
set_option maxHeartbeats 16000000
open Go.Proofs.Tryz
namespace Go.Proofs.YtleegaihbgbcjaaGreatDoor
open Go.Shelf
def zj:Go.Shelf.Ren:=⟨fun | 6=>85 | 15=>143 | 14=>142 | 28=>215 | 29=>216 | 20=>207 | 21=>208 | 22=>209 | 23=>210 | 24=>211 | 25=>212 | 26=>213 | 27=>214 | 46=>260 | 47=>261 | 48=>262 | 49=>263 | 50=>264 | 57=>278 | n=>n,fun | 22=>75 | 24=>83 | 25=>155 | 3=>3 | 39=>115 | 0=>0 | 53=>276 | 55=>81 | 4=>4 | 46=>269 | 45=>268 | 50=>273 | 5=>5 | 9=>9 | 66=>307 | 70=>311 | 76=>322 | 77=>59 | n=>n,fun | n=>n⟩
theorem ta:Go.Proofs.SlLaysF0.n6 prog zj:={
 mixed:=by kernel_rfl
 f6:=⟨Tryz.f85.name,by decide,func85.trans (congrArg some (by kernel_rfl))⟩,f14:=⟨Tryz.f142.name,by decide,func142.trans (congrArg some (by kernel_rfl))⟩,f15:=func143.trans (congrArg some (by kernel_rfl))
 f20:=⟨Tryz.f207.name,by decide,func207.trans (congrArg some (by kernel_rfl))⟩,f21:=⟨Tryz.f208.name,by decide,func208.trans (congrArg some (by kernel_rfl))⟩
 f22:=⟨Tryz.f209.name,by decide,func209.trans (congrArg some (by kernel_rfl))⟩,f23:=⟨Tryz.f210.name,by decide,func210.trans (congrArg some (by kernel_rfl))⟩
 f24:=⟨Tryz.f211.name,by decide,func211.trans (congrArg some (by kernel_rfl))⟩,f25:=⟨Tryz.f212.name,by decide,func212.trans (congrArg some (by kernel_rfl))⟩
 f26:=⟨Tryz.f213.name,by decide,func213.trans (congrArg some (by kernel_rfl))⟩,f27:=⟨Tryz.f214.name,by decide,func214.trans (congrArg some (by kernel_rfl))⟩
 f28:=func215.trans (congrArg some (by kernel_rfl)),f29:=func216.trans (congrArg some (by kernel_rfl)),f46:=⟨Tryz.f260.name,by decide,func260.trans (congrArg some (by kernel_rfl))⟩
 f47:=func261.trans (congrArg some (by kernel_rfl)),f48:=func262.trans (congrArg some (by kernel_rfl)),f49:=⟨Tryz.f263.name,by decide,func263.trans (congrArg some (by kernel_rfl))⟩
 f50:=⟨Tryz.f264.name,by decide,func264.trans (congrArg some (by kernel_rfl))⟩,f57:=⟨Tryz.f278.name,by decide,func278.trans (congrArg some (by kernel_rfl))⟩,t0:=underlying0,a0:=Tryz.isAgg0
 z0:=Tryz.sizeOf0,v0:=Tryz.zeroValue0,t3:=underlying3,a3:=Tryz.isAgg3,z3:=Tryz.sizeOf3,v3:=Tryz.zeroValue3,t4:=underlying4,a4:=Tryz.isAgg4,z4:=Tryz.sizeOf4,v4:=Tryz.zeroValue4,t5:=underlying5
 a5:=Tryz.isAgg5,z5:=Tryz.sizeOf5,v5:=Tryz.zeroValue5,t9:=underlying9,a9:=Tryz.isAgg9,z9:=Tryz.sizeOf9,v9:=Tryz.zeroValue9,t22:=underlying75,a22:=Tryz.isAgg75,z22:=Tryz.sizeOf75
 v22:=Tryz.zeroValue75,t25:=underlying155,a25:=Tryz.isAgg155,z25:=Tryz.sizeOf155,v25:=Tryz.zeroValue155,t39:=underlying115,a39:=Tryz.isAgg115,z39:=Tryz.sizeOf115,v39:=Tryz.zeroValue115
 t45:=underlying268,a45:=Tryz.isAgg268,z45:=Tryz.sizeOf268,v45:=Tryz.zeroValue268,t46:=underlying269,a46:=Tryz.isAgg269,z46:=Tryz.sizeOf269,v46:=Tryz.zeroValue269,t50:=underlying273
 a50:=Tryz.isAgg273,z50:=Tryz.sizeOf273,v50:=Tryz.zeroValue273,t53:=underlying276,a53:=Tryz.isAgg276,z53:=Tryz.sizeOf276,v53:=Tryz.zeroValue276,t55:=underlying81,a55:=Tryz.isAgg81,z55:=Tryz.sizeOf81
 v55:=Tryz.zeroValue81,t66:=underlying307,a66:=Tryz.isAgg307,z66:=Tryz.sizeOf307,v66:=Tryz.zeroValue307,t70:=underlying311,a70:=Tryz.isAgg311,z70:=Tryz.sizeOf311,v70:=Tryz.zeroValue311
 t76:=underlying322,a76:=Tryz.isAgg322,z76:=Tryz.sizeOf322,v76:=Tryz.zeroValue322,t77:=underlying59,a77:=Tryz.isAgg59,z77:=Tryz.sizeOf59
 v77:=Tryz.zeroValue59 }
end Go.Proofs.YtleegaihbgbcjaaGreatDoor
namespace Go.Proofs.YtleegaihbgbcjaaGreatDoor
open Go.RowKit Num Bit
def bQ(a b:Int):Int:=if a<b then -1 else if b<a then 1 else 0
theorem zt(a:Int)(w:World):Qx 144 #[.int .i64 a] w (.bool false):=by
 go_enter func144,ntmps144;go_wp2;go_ret;simp
theorem zo(a:Int)(w:World):Qx 145 #[.int .u64 a] w (.bool false):=by
 go_enter func145,ntmps145;go_wp2;go_ret;simp
theorem Ah(a b:Int)(w:World):Qx 88 #[.int .i64 a,.int .i64 b] w (.int .i64 (bQ a b)):=by
 have H:Hid (∀(x:Int) (w0:World),Qx 144 #[.int .i64 x] w0 (.bool false)):=zt;obtain⟨r,hr⟩:∃r,Hid (r=bQ a b):=⟨_,rfl⟩;rw[<-hr.out]
 go_enter func88,ntmps88;go_wp2_with fail;refine(H.out _ _).mono ?_;rintro e w1 ⟨rfl,rfl⟩;go_wp2_with fail;refine(H.out _ _).mono ?_;rintro e w2 ⟨rfl,rfl⟩;clear H;by_cases h1:a<b
 .obtain rfl:r= -1:=by rw[hr.out];unfold bQ;rw[if_pos h1]
  go_wp2;go_ret;exact⟨rfl,rfl⟩
 .by_cases h2:b<a
  .obtain rfl:r=1:=by rw[hr.out];unfold bQ;rw[if_neg h1,if_pos h2]
   go_wp2;go_ret;exact⟨rfl,rfl⟩
  .obtain rfl:r=0:=by rw[hr.out];unfold bQ;rw[if_neg h1,if_neg h2]
   go_wp2;go_ret;exact⟨rfl,rfl⟩
theorem Af(a b:Int)(w:World):Qx 89 #[.int .u64 a,.int .u64 b] w (.int .i64 (bQ a b)):=by
 have H:Hid (∀(x:Int) (w0:World),Qx 145 #[.int .u64 x] w0 (.bool false)):=zo;obtain⟨r,hr⟩:∃r,Hid (r=bQ a b):=⟨_,rfl⟩;rw[<-hr.out]
 go_enter func89,ntmps89;go_wp2_with fail;refine(H.out _ _).mono ?_;rintro e w1 ⟨rfl,rfl⟩;go_wp2_with fail;refine(H.out _ _).mono ?_;rintro e w2 ⟨rfl,rfl⟩;clear H;by_cases h1:a<b
 .obtain rfl:r= -1:=by rw[hr.out];unfold bQ;rw[if_pos h1]
  go_wp2;go_ret;exact⟨rfl,rfl⟩
 .by_cases h2:b<a
  .obtain rfl:r=1:=by rw[hr.out];unfold bQ;rw[if_neg h1,if_pos h2]
   go_wp2;go_ret;exact⟨rfl,rfl⟩
  .obtain rfl:r=0:=by rw[hr.out];unfold bQ;rw[if_neg h1,if_neg h2]
   go_wp2;go_ret;exact⟨rfl,rfl⟩
theorem zl(g:Nat)(p s:Int)(w:World)(h:aa w g [.int .i64 p,.int .i64 s] 3):Qx 87 #[.slice (some ⟨g,0,none⟩) 2 2] w (.int .i64 (if p≠0 then p else s)):=by
 have c0:=h.cell 0 rfl;have c1:=h.cell 1 rfl;have lg:=h.lt;obtain⟨r,hr⟩:∃r,Hid (r=if p≠0 then p else s):=⟨_,rfl⟩;rw[<-hr.out];go_enter func87,ntmps87;go_wp2
 go_loopw [8] (fun vi wr=>∃q:Nat,q<=2/\vi=.int .i64 q/\wr=w/\(0<q->p=0)/\(1<q->s=0)) (fun vi _=>2-(intOf vi).toNat)
 case atStart=>exact⟨0,by omega,rfl,rfl,by omega,by omega⟩
 case round=>
  obtain⟨q,hq,rfl,rfl,k1,k2⟩:=hrel;have:q=0\/q=1\/q=2:=by omega
  rcases this with rfl | rfl | rfl
  .by_cases e:p=0
   .go_wp2;exact⟨⟨1,by omega,rfl,by simp,by simp[e],by simp⟩,by simp[intOf]⟩
   .obtain rfl:r=p:=by rw[hr.out,if_pos e]
    go_wp2;go_ret;exact⟨rfl,rfl⟩
  .obtain rfl:p=0:=k1 (by omega);obtain rfl:r=s:=by rw[hr.out,if_neg (by simp)]
   by_cases e:r=0
   .go_wp2;exact⟨⟨2,by omega,rfl,by simp,by simp,by simp[e]⟩,by simp[intOf]⟩
   .go_wp2;go_ret;exact⟨rfl,rfl⟩
  .obtain rfl:p=0:=k1 (by omega);obtain rfl:s=0:=k2 (by omega);obtain rfl:r=0:=by rw[hr.out,if_neg (by simp)]
   go_wp2;go_ret;exact⟨rfl,rfl⟩
def jY(a b:Nat×Nat):Int:=if bQ (a.1:Int) (b.1:Int)≠0 then bQ (a.1:Int) (b.1:Int)else bQ (a.2:Int) (b.2:Int)
theorem Ai(L x M y:Nat)(w:World):
  Calls prog 86 #[cv L x,cv M y] w fun e w'=>e=.returned (.int .i64 (jY (L,x) (M,y)))/\w'=((w.alloc (.cells #[.int .i64 L,.int .u64 x] 83)).alloc (.cells #[.int .i64 M,.int .u64 y] 83)).drew.alloc (.cells #[.int .i64 (bQ (L:Int) (M:Int)),.int .i64 (bQ (x:Int) (y:Int))] 3):=by
 obtain⟨p,hp⟩:∃p,Hid (p=bQ (L:Int) (M:Int)):=⟨_,rfl⟩;obtain⟨s,hs⟩:∃s,Hid (s=bQ (x:Int) (y:Int)):=⟨_,rfl⟩
 show Calls _ _ _ _ fun e w'=>e=.returned (.int .i64 (if bQ (L:Int) (M:Int)≠0 then bQ (L:Int) (M:Int)else bQ (x:Int) (y:Int)))/\_;rw[<-hp.out,<-hs.out]
 have C1:Hid (∀w0:World,Qx 88 #[.int .i64 L,.int .i64 M] w0 (.int .i64 p)):=fun w0=>by rw[hp.out];exact Ah _ _ w0
 have C2:Hid (∀w0:World,Qx 89 #[.int .u64 x,.int .u64 y] w0 (.int .i64 s)):=fun w0=>by rw[hs.out];exact Af _ _ w0
 have C3:Hid (∀(g:Nat) (w0:World),aa w0 g [.int .i64 p,.int .i64 s] 3->Qx 87 #[.slice (some ⟨g,0,none⟩) 2 2] w0 (.int .i64 (if p≠0 then p else s))):=fun g w0 h=>zl g p s w0 h
 generalize (if p≠0 then p else s)=res at *;obtain⟨V,hV⟩:∃V,V=(w.alloc (.cells #[.int .i64 L,.int .u64 x] 83)).alloc (.cells #[.int .i64 M,.int .u64 y] 83):=⟨_,rfl⟩
 have B1:aa V w.heap.size [.int .i64 L,.int .u64 x] 83:=by rw[hV];exact(aa.new w _ _).alloc _
 have B2:aa V (w.heap.size+1) [.int .i64 M,.int .u64 y] 83:=by rw[hV];exact aa.new2 w _ _ _
 have HV:=ac hV;unfold cv;go_enter func86,ntmps86;go_wp2;rw[<-hV];clear hV
 refine aB [] (fun w'=>aa w' w.heap.size [.int .i64 L,.int .u64 x] 83/\aa w' (w.heap.size+1) [.int .i64 M,.int .u64 y] 83) (by kernel_rfl) ?_
 have hS:aa V.drew w.heap.size [.int .i64 L,.int .u64 x] 83/\aa V.drew (w.heap.size+1) [.int .i64 M,.int .u64 y] 83:=⟨B1,B2⟩;obtain⟨Y,hY⟩:∃Y,Hid (Y=V.drew):=⟨_,rfl⟩
 rw[<-hY.out]at hS⊢;clear B1 B2;refine aF 0 hS rfl (fun w0 h0=>by have c0:=h0.1.cell 0 rfl;have c1:=h0.1.cell 1 rfl;have d0:=h0.2.cell 0 rfl;have d1:=h0.2.cell 1 rfl;go_simp;try with_reducible rfl) ?_
 refine aF 1 hS rfl (fun w0 h0=>by have c0:=h0.1.cell 0 rfl;have c1:=h0.1.cell 1 rfl;have d0:=h0.2.cell 0 rfl;have d1:=h0.2.cell 1 rfl;go_simp;try with_reducible rfl) ?_
 refine aF 2 hS rfl (fun w0 h0=>by have c0:=h0.1.cell 0 rfl;have c1:=h0.1.cell 1 rfl;have d0:=h0.2.cell 0 rfl;have d1:=h0.2.cell 1 rfl;go_simp;try with_reducible rfl) ?_
 refine aF 3 hS rfl (fun w0 h0=>by have c0:=h0.1.cell 0 rfl;have c1:=h0.1.cell 1 rfl;have d0:=h0.2.cell 0 rfl;have d1:=h0.2.cell 1 rfl;go_simp;try with_reducible rfl) ?_
 refine aF 5 hS rfl (fun w0 h0=>by have c0:=h0.1.cell 0 rfl;have c1:=h0.1.cell 1 rfl;have d0:=h0.2.cell 0 rfl;have d1:=h0.2.cell 1 rfl;go_simp;try with_reducible rfl) ?_
 refine aF 6 hS rfl (fun w0 h0=>by have c0:=h0.1.cell 0 rfl;have c1:=h0.1.cell 1 rfl;have d0:=h0.2.cell 0 rfl;have d1:=h0.2.cell 1 rfl;go_simp;try with_reducible rfl) ?_
 refine aF 7 hS rfl (fun w0 h0=>by have c0:=h0.1.cell 0 rfl;have c1:=h0.1.cell 1 rfl;have d0:=h0.2.cell 0 rfl;have d1:=h0.2.cell 1 rfl;go_simp;try with_reducible rfl) ?_
 refine aF 8 hS rfl (fun w0 h0=>by have c0:=h0.1.cell 0 rfl;have c1:=h0.1.cell 1 rfl;have d0:=h0.2.cell 0 rfl;have d1:=h0.2.cell 1 rfl;go_simp;try with_reducible rfl) ?_;refine aO 4 ?_;intro K hK;go_simp
 refine(C1.out _).mono ?_;rintro e w1 ⟨rfl,rfl⟩;refine hK.out _ _ (fun _=>hS) ?_;clear hK K;try simp only[Act.put,ak,aj,ai,ae,ah,ag]
 refine aO 9 ?_;intro K hK;go_simp;refine(C2.out _).mono ?_;rintro e w2 ⟨rfl,rfl⟩;refine hK.out _ _ (fun _=>hS) ?_;clear hK K;try simp only[Act.put,ak,aj,ai,ae,ah,ag]
 refine aO 10 ?_;intro K hK;go_simp;have hc:=aa.new w2 [.int .i64 p,.int .i64 s] 3
 replace hS:=And.intro (hS.1.kept (below_alloc w2 (.cells #[.int .i64 p,.int .i64 s] 3))) (hS.2.kept (below_alloc w2 (.cells #[.int .i64 p,.int .i64 s] 3)))
 obtain⟨Z,hZ⟩:∃Z,Hid (Z=w2.alloc (.cells #[.int .i64 p,.int .i64 s] 3)):=⟨_,rfl⟩;have hc':aa Z w2.heap.size [.int .i64 p,.int .i64 s] 3:=by rw[hZ.out];exact hc
 clear hc;rw[<-hZ.out]at hS⊢;refine hK.out _ _ (fun _=>hS) ?_;clear hK K;try simp only[Act.put,ak,aj,ai,ae,ah,ag]
 refine aO 11 ?_;intro K hK;go_simp;refine(C3.out _ _ hc').mono ?_;rintro e w3 ⟨rfl,rfl⟩;refine hK.out _ _ (fun _=>hS) ?_;clear hK K;try simp only[Act.put,ak,aj,ai,ae,ah,ag]
 refine aK 12 hS ?_;refine aq.done (by kernel_rfl) ?_ _;go_wp2;go_ret;refine⟨rfl,?_⟩;rw[hZ.out,hY.out,HV.out]
end Go.Proofs.YtleegaihbgbcjaaGreatDoor
