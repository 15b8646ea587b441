import Derived.Test.YtfnkklkdajlhlaaGreatDoorE22
set_option linter.unusedVariables false
set_option linter.unusedSimpArgs false
set_option maxRecDepth 100000
set_option maxHeartbeats 16000000
namespace Go.Proofs.YtfnkklkdajlhlaaGreatDoor
open Go.RowKit Num Bit Bn
structure QB (V wr:World) (gx:Nat) (c0 c1 c2 c3 c4 c5 c6 sv tv:Value) (J T m:Nat) (f:Nat→Bool):Prop where
 bx:Cel wr gx [c0,c1,c2,c3,c4,c5,c6,sv,tv] 41
 lt:gx<V.heap.size
 sz:V.heap.size≤wr.heap.size
 hb:Below gx V wr
 same:∀k,k<V.heap.size→k≠gx→wr.heap[k]?=V.heap[k]?
 o1:wr.ownsRow V.heap.size 3 1 sv J (iv8 (onL m f J))
 o2:wr.ownsRow V.heap.size 3 1 tv T (iv8 (ptL m f T))
 ap:Ap.Apart sv tv
theorem check_k8(cs:List Value)(a:RA8)(w:World)(h:KI8 w cs a):
  Qq 85 #[.agg cs.toArray] w (.bool (kOk8 a)):=qcheck_c cs a w h
end Go.Proofs.YtfnkklkdajlhlaaGreatDoor
