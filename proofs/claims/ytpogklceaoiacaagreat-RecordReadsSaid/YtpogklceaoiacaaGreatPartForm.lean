/- The contracts of package part's forwarded and isForward. -/
import Derived.Test.YtpogklceaoiacaaGreatPartSame
import Derived.Test.YtpogklceaoiacaaGreatPartAre
namespace Go.Proofs.YtpogklceaoiacaaGreat
open Go.RowKit Go.Shelf
set_option linter.unusedVariables false
attribute [local go_sem] Oper.semAt_some wide_fn wide_round_fn

def forwardC (p:PartC):PartC :=
 let q:=if p.m then p else { p with i:=0,t:=0 }
 if p.h then q else { q with ht:=0,hv:=0,hc:=0 }
def isFwdB (p:PartC) (l:List EntryC):Bool :=
 (p.m || (p.h || decide (p.len≠0))) && ((!p.m || (wB p.i 1 1099511627776 && wB p.t 1 1099511627776)) && ((!p.h || hardB p.ht p.hv p.hc) && areB 1099511627776 l))

set_option maxRecDepth 100000 in
set_option maxHeartbeats 2000000 in
theorem forwarded_any (p:PartC) (w:World):Gives Tryz.prog 53 #[p.val] w (forwardC p).val:=by
 obtain ⟨g,k,a,len,cap,ht,hv,hc,i,t,mk,hd⟩:=p
 unfold Gives
 dsimp only [PartC.val]
 cases mk with
 | false =>
  cases hd with
  | false =>
   show Calls _ _ _ _ fun e w'=>e=.returned (.agg #[.int .i64 g,.int .i64 k,.slice a len cap,.int .i64 0,.int .i64 0,.int .i64 0,.int .i64 0,.int .i64 0,.bool false,.bool false])∧Below w.heap.size w w'
   go_enter Tryz.func53,Tryz.ntmps53
   go_wp2
   refine bodyPost_ret (v:=(.agg #[.int .i64 g,.int .i64 k,.slice a len cap,.int .i64 0,.int .i64 0,.int .i64 0,.int .i64 0,.int .i64 0,.bool false,.bool false])) (by simp [results,Tryz.results53,go_sem]) rfl ⟨rfl,?_⟩
   exact bel_alloc (bel_alloc (Below.refl _ _) _) _
  | true =>
   show Calls _ _ _ _ fun e w'=>e=.returned (.agg #[.int .i64 g,.int .i64 k,.slice a len cap,.int .i64 ht,.int .i64 hv,.int .i64 hc,.int .i64 0,.int .i64 0,.bool false,.bool true])∧Below w.heap.size w w'
   go_enter Tryz.func53,Tryz.ntmps53
   go_wp2
   refine bodyPost_ret (v:=(.agg #[.int .i64 g,.int .i64 k,.slice a len cap,.int .i64 ht,.int .i64 hv,.int .i64 hc,.int .i64 0,.int .i64 0,.bool false,.bool true])) (by simp [results,Tryz.results53,go_sem]) rfl ⟨rfl,?_⟩
   exact bel_alloc (bel_alloc (Below.refl _ _) _) _
 | true =>
  cases hd with
  | false =>
   show Calls _ _ _ _ fun e w'=>e=.returned (.agg #[.int .i64 g,.int .i64 k,.slice a len cap,.int .i64 0,.int .i64 0,.int .i64 0,.int .i64 i,.int .i64 t,.bool true,.bool false])∧Below w.heap.size w w'
   go_enter Tryz.func53,Tryz.ntmps53
   go_wp2
   refine bodyPost_ret (v:=(.agg #[.int .i64 g,.int .i64 k,.slice a len cap,.int .i64 0,.int .i64 0,.int .i64 0,.int .i64 i,.int .i64 t,.bool true,.bool false])) (by simp [results,Tryz.results53,go_sem]) rfl ⟨rfl,?_⟩
   exact bel_alloc (bel_alloc (Below.refl _ _) _) _
  | true =>
   show Calls _ _ _ _ fun e w'=>e=.returned (.agg #[.int .i64 g,.int .i64 k,.slice a len cap,.int .i64 ht,.int .i64 hv,.int .i64 hc,.int .i64 i,.int .i64 t,.bool true,.bool true])∧Below w.heap.size w w'
   go_enter Tryz.func53,Tryz.ntmps53
   go_wp2
   refine bodyPost_ret (v:=(.agg #[.int .i64 g,.int .i64 k,.slice a len cap,.int .i64 ht,.int .i64 hv,.int .i64 hc,.int .i64 i,.int .i64 t,.bool true,.bool true])) (by simp [results,Tryz.results53,go_sem]) rfl ⟨rfl,?_⟩
   exact bel_alloc (bel_alloc (Below.refl _ _) _) _

set_option maxRecDepth 100000 in
set_option maxHeartbeats 4000000 in
theorem isForward_any (p:PartC) (l:List EntryC) (w:World) (h1:HasE w p l):Gives Tryz.prog 54 #[p.val] w (.bool (isFwdB p l)):=by
 have G1:=Lib.hid (isIndex_any p.i);have G2:=Lib.hid (isTerm_any p.t);have G3:=Lib.hid (isHard_any p.ht p.hv p.hc)
 have G4:=Lib.hid (fun W (hB:Below w.heap.size w W)=>areEntries_any p.a p.len p.cap l h1.1 h1.2.1 1099511627776 W (h1.2.2.below hB))
 have hm:=h1.2.1
 clear h1
 obtain ⟨g,k,a,len,cap,ht,hv,hc,i,t,mk,hd⟩:=p
 dsimp only [PartC.val,isFwdB] at *
 generalize areB 1099511627776 l=b4 at *
 generalize hardB ht hv hc=b3 at *
 generalize wB t 1 1099511627776=b2 at *
 generalize wB i 1 1099511627776=b1 at *
 unfold Gives
 have c0:(w.alloc (.cells #[.int .i64 g,.int .i64 k,.slice a len cap,.int .i64 ht,.int .i64 hv,.int .i64 hc,.int .i64 i,.int .i64 t,.bool mk,.bool hd] 37)).cell? ⟨w.heap.size,0,none⟩=some (.int .i64 g):=blk_cell (Below.refl _ _) 0
 have c1:(w.alloc (.cells #[.int .i64 g,.int .i64 k,.slice a len cap,.int .i64 ht,.int .i64 hv,.int .i64 hc,.int .i64 i,.int .i64 t,.bool mk,.bool hd] 37)).cell? ⟨w.heap.size,1,none⟩=some (.int .i64 k):=blk_cell (Below.refl _ _) 1
 have c2:(w.alloc (.cells #[.int .i64 g,.int .i64 k,.slice a len cap,.int .i64 ht,.int .i64 hv,.int .i64 hc,.int .i64 i,.int .i64 t,.bool mk,.bool hd] 37)).cell? ⟨w.heap.size,2,none⟩=some (.slice a len cap):=blk_cell (Below.refl _ _) 2
 have c3:(w.alloc (.cells #[.int .i64 g,.int .i64 k,.slice a len cap,.int .i64 ht,.int .i64 hv,.int .i64 hc,.int .i64 i,.int .i64 t,.bool mk,.bool hd] 37)).cell? ⟨w.heap.size,3,none⟩=some (.int .i64 ht):=blk_cell (Below.refl _ _) 3
 have c4:(w.alloc (.cells #[.int .i64 g,.int .i64 k,.slice a len cap,.int .i64 ht,.int .i64 hv,.int .i64 hc,.int .i64 i,.int .i64 t,.bool mk,.bool hd] 37)).cell? ⟨w.heap.size,4,none⟩=some (.int .i64 hv):=blk_cell (Below.refl _ _) 4
 have c5:(w.alloc (.cells #[.int .i64 g,.int .i64 k,.slice a len cap,.int .i64 ht,.int .i64 hv,.int .i64 hc,.int .i64 i,.int .i64 t,.bool mk,.bool hd] 37)).cell? ⟨w.heap.size,5,none⟩=some (.int .i64 hc):=blk_cell (Below.refl _ _) 5
 have c6:(w.alloc (.cells #[.int .i64 g,.int .i64 k,.slice a len cap,.int .i64 ht,.int .i64 hv,.int .i64 hc,.int .i64 i,.int .i64 t,.bool mk,.bool hd] 37)).cell? ⟨w.heap.size,6,none⟩=some (.int .i64 i):=blk_cell (Below.refl _ _) 6
 have c7:(w.alloc (.cells #[.int .i64 g,.int .i64 k,.slice a len cap,.int .i64 ht,.int .i64 hv,.int .i64 hc,.int .i64 i,.int .i64 t,.bool mk,.bool hd] 37)).cell? ⟨w.heap.size,7,none⟩=some (.int .i64 t):=blk_cell (Below.refl _ _) 7
 have c8:(w.alloc (.cells #[.int .i64 g,.int .i64 k,.slice a len cap,.int .i64 ht,.int .i64 hv,.int .i64 hc,.int .i64 i,.int .i64 t,.bool mk,.bool hd] 37)).cell? ⟨w.heap.size,8,none⟩=some (.bool mk):=blk_cell (Below.refl _ _) 8
 have c9:(w.alloc (.cells #[.int .i64 g,.int .i64 k,.slice a len cap,.int .i64 ht,.int .i64 hv,.int .i64 hc,.int .i64 i,.int .i64 t,.bool mk,.bool hd] 37)).cell? ⟨w.heap.size,9,none⟩=some (.bool hd):=blk_cell (Below.refl _ _) 9
 have hs:w.heap.size<(w.alloc (.cells #[.int .i64 g,.int .i64 k,.slice a len cap,.int .i64 ht,.int .i64 hv,.int .i64 hc,.int .i64 i,.int .i64 t,.bool mk,.bool hd] 37)).heap.size:=by simp
 have hA:Below w.heap.size w (w.alloc (.cells #[.int .i64 g,.int .i64 k,.slice a len cap,.int .i64 ht,.int .i64 hv,.int .i64 hc,.int .i64 i,.int .i64 t,.bool mk,.bool hd] 37)):=bel_alloc (Below.refl _ _) _
 cases mk with
 | false =>
  cases hd with
  | false =>
   by_cases h0:len=0
   ·subst h0
    go_enter Tryz.func54,Tryz.ntmps54
    go_wp2_with (first
     | (go_at_call 51;((with_reducible refine (G1.out _).mono ?_);rintro e w1 ⟨rfl,hB⟩;replace hA:=bel2 hA hB;replace c0:=(hB.cell (p:=⟨w.heap.size,0,none⟩) hs).trans c0;replace c1:=(hB.cell (p:=⟨w.heap.size,1,none⟩) hs).trans c1;replace c2:=(hB.cell (p:=⟨w.heap.size,2,none⟩) hs).trans c2;replace c3:=(hB.cell (p:=⟨w.heap.size,3,none⟩) hs).trans c3;replace c4:=(hB.cell (p:=⟨w.heap.size,4,none⟩) hs).trans c4;replace c5:=(hB.cell (p:=⟨w.heap.size,5,none⟩) hs).trans c5;replace c6:=(hB.cell (p:=⟨w.heap.size,6,none⟩) hs).trans c6;replace c7:=(hB.cell (p:=⟨w.heap.size,7,none⟩) hs).trans c7;replace c8:=(hB.cell (p:=⟨w.heap.size,8,none⟩) hs).trans c8;replace c9:=(hB.cell (p:=⟨w.heap.size,9,none⟩) hs).trans c9;replace hs:=Nat.lt_of_lt_of_le hs hB.size;clear hB))
     | (go_at_call 52;((with_reducible refine (G2.out _).mono ?_);rintro e w1 ⟨rfl,hB⟩;replace hA:=bel2 hA hB;replace c0:=(hB.cell (p:=⟨w.heap.size,0,none⟩) hs).trans c0;replace c1:=(hB.cell (p:=⟨w.heap.size,1,none⟩) hs).trans c1;replace c2:=(hB.cell (p:=⟨w.heap.size,2,none⟩) hs).trans c2;replace c3:=(hB.cell (p:=⟨w.heap.size,3,none⟩) hs).trans c3;replace c4:=(hB.cell (p:=⟨w.heap.size,4,none⟩) hs).trans c4;replace c5:=(hB.cell (p:=⟨w.heap.size,5,none⟩) hs).trans c5;replace c6:=(hB.cell (p:=⟨w.heap.size,6,none⟩) hs).trans c6;replace c7:=(hB.cell (p:=⟨w.heap.size,7,none⟩) hs).trans c7;replace c8:=(hB.cell (p:=⟨w.heap.size,8,none⟩) hs).trans c8;replace c9:=(hB.cell (p:=⟨w.heap.size,9,none⟩) hs).trans c9;replace hs:=Nat.lt_of_lt_of_le hs hB.size;clear hB))
     | (go_at_call 50;((with_reducible refine (G3.out _).mono ?_);rintro e w1 ⟨rfl,hB⟩;replace hA:=bel2 hA hB;replace c0:=(hB.cell (p:=⟨w.heap.size,0,none⟩) hs).trans c0;replace c1:=(hB.cell (p:=⟨w.heap.size,1,none⟩) hs).trans c1;replace c2:=(hB.cell (p:=⟨w.heap.size,2,none⟩) hs).trans c2;replace c3:=(hB.cell (p:=⟨w.heap.size,3,none⟩) hs).trans c3;replace c4:=(hB.cell (p:=⟨w.heap.size,4,none⟩) hs).trans c4;replace c5:=(hB.cell (p:=⟨w.heap.size,5,none⟩) hs).trans c5;replace c6:=(hB.cell (p:=⟨w.heap.size,6,none⟩) hs).trans c6;replace c7:=(hB.cell (p:=⟨w.heap.size,7,none⟩) hs).trans c7;replace c8:=(hB.cell (p:=⟨w.heap.size,8,none⟩) hs).trans c8;replace c9:=(hB.cell (p:=⟨w.heap.size,9,none⟩) hs).trans c9;replace hs:=Nat.lt_of_lt_of_le hs hB.size;clear hB))
     | (go_at_call 49;((with_reducible refine (G4.out _ hA).mono ?_);rintro e w1 ⟨rfl,hB⟩;replace hA:=bel2 hA hB;replace c0:=(hB.cell (p:=⟨w.heap.size,0,none⟩) hs).trans c0;replace c1:=(hB.cell (p:=⟨w.heap.size,1,none⟩) hs).trans c1;replace c2:=(hB.cell (p:=⟨w.heap.size,2,none⟩) hs).trans c2;replace c3:=(hB.cell (p:=⟨w.heap.size,3,none⟩) hs).trans c3;replace c4:=(hB.cell (p:=⟨w.heap.size,4,none⟩) hs).trans c4;replace c5:=(hB.cell (p:=⟨w.heap.size,5,none⟩) hs).trans c5;replace c6:=(hB.cell (p:=⟨w.heap.size,6,none⟩) hs).trans c6;replace c7:=(hB.cell (p:=⟨w.heap.size,7,none⟩) hs).trans c7;replace c8:=(hB.cell (p:=⟨w.heap.size,8,none⟩) hs).trans c8;replace c9:=(hB.cell (p:=⟨w.heap.size,9,none⟩) hs).trans c9;replace hs:=Nat.lt_of_lt_of_le hs hB.size;clear hB)))
    go_ret
    exact ⟨by simp,hA⟩
   ·have h0':(len:Int)≠0:=by omega
    have hd0:=Lib.hid (show decide (len≠0)=true by simp [h0])
    rw [hd0.out]
    go_enter Tryz.func54,Tryz.ntmps54
    go_wp2_with (first
     | (go_at_call 51;((with_reducible refine (G1.out _).mono ?_);rintro e w1 ⟨rfl,hB⟩;replace hA:=bel2 hA hB;replace c0:=(hB.cell (p:=⟨w.heap.size,0,none⟩) hs).trans c0;replace c1:=(hB.cell (p:=⟨w.heap.size,1,none⟩) hs).trans c1;replace c2:=(hB.cell (p:=⟨w.heap.size,2,none⟩) hs).trans c2;replace c3:=(hB.cell (p:=⟨w.heap.size,3,none⟩) hs).trans c3;replace c4:=(hB.cell (p:=⟨w.heap.size,4,none⟩) hs).trans c4;replace c5:=(hB.cell (p:=⟨w.heap.size,5,none⟩) hs).trans c5;replace c6:=(hB.cell (p:=⟨w.heap.size,6,none⟩) hs).trans c6;replace c7:=(hB.cell (p:=⟨w.heap.size,7,none⟩) hs).trans c7;replace c8:=(hB.cell (p:=⟨w.heap.size,8,none⟩) hs).trans c8;replace c9:=(hB.cell (p:=⟨w.heap.size,9,none⟩) hs).trans c9;replace hs:=Nat.lt_of_lt_of_le hs hB.size;clear hB))
     | (go_at_call 52;((with_reducible refine (G2.out _).mono ?_);rintro e w1 ⟨rfl,hB⟩;replace hA:=bel2 hA hB;replace c0:=(hB.cell (p:=⟨w.heap.size,0,none⟩) hs).trans c0;replace c1:=(hB.cell (p:=⟨w.heap.size,1,none⟩) hs).trans c1;replace c2:=(hB.cell (p:=⟨w.heap.size,2,none⟩) hs).trans c2;replace c3:=(hB.cell (p:=⟨w.heap.size,3,none⟩) hs).trans c3;replace c4:=(hB.cell (p:=⟨w.heap.size,4,none⟩) hs).trans c4;replace c5:=(hB.cell (p:=⟨w.heap.size,5,none⟩) hs).trans c5;replace c6:=(hB.cell (p:=⟨w.heap.size,6,none⟩) hs).trans c6;replace c7:=(hB.cell (p:=⟨w.heap.size,7,none⟩) hs).trans c7;replace c8:=(hB.cell (p:=⟨w.heap.size,8,none⟩) hs).trans c8;replace c9:=(hB.cell (p:=⟨w.heap.size,9,none⟩) hs).trans c9;replace hs:=Nat.lt_of_lt_of_le hs hB.size;clear hB))
     | (go_at_call 50;((with_reducible refine (G3.out _).mono ?_);rintro e w1 ⟨rfl,hB⟩;replace hA:=bel2 hA hB;replace c0:=(hB.cell (p:=⟨w.heap.size,0,none⟩) hs).trans c0;replace c1:=(hB.cell (p:=⟨w.heap.size,1,none⟩) hs).trans c1;replace c2:=(hB.cell (p:=⟨w.heap.size,2,none⟩) hs).trans c2;replace c3:=(hB.cell (p:=⟨w.heap.size,3,none⟩) hs).trans c3;replace c4:=(hB.cell (p:=⟨w.heap.size,4,none⟩) hs).trans c4;replace c5:=(hB.cell (p:=⟨w.heap.size,5,none⟩) hs).trans c5;replace c6:=(hB.cell (p:=⟨w.heap.size,6,none⟩) hs).trans c6;replace c7:=(hB.cell (p:=⟨w.heap.size,7,none⟩) hs).trans c7;replace c8:=(hB.cell (p:=⟨w.heap.size,8,none⟩) hs).trans c8;replace c9:=(hB.cell (p:=⟨w.heap.size,9,none⟩) hs).trans c9;replace hs:=Nat.lt_of_lt_of_le hs hB.size;clear hB))
     | (go_at_call 49;((with_reducible refine (G4.out _ hA).mono ?_);rintro e w1 ⟨rfl,hB⟩;replace hA:=bel2 hA hB;replace c0:=(hB.cell (p:=⟨w.heap.size,0,none⟩) hs).trans c0;replace c1:=(hB.cell (p:=⟨w.heap.size,1,none⟩) hs).trans c1;replace c2:=(hB.cell (p:=⟨w.heap.size,2,none⟩) hs).trans c2;replace c3:=(hB.cell (p:=⟨w.heap.size,3,none⟩) hs).trans c3;replace c4:=(hB.cell (p:=⟨w.heap.size,4,none⟩) hs).trans c4;replace c5:=(hB.cell (p:=⟨w.heap.size,5,none⟩) hs).trans c5;replace c6:=(hB.cell (p:=⟨w.heap.size,6,none⟩) hs).trans c6;replace c7:=(hB.cell (p:=⟨w.heap.size,7,none⟩) hs).trans c7;replace c8:=(hB.cell (p:=⟨w.heap.size,8,none⟩) hs).trans c8;replace c9:=(hB.cell (p:=⟨w.heap.size,9,none⟩) hs).trans c9;replace hs:=Nat.lt_of_lt_of_le hs hB.size;clear hB)))
    go_ret
    exact ⟨by simp,hA⟩
  | true =>
   cases b3
   all_goals
    go_enter Tryz.func54,Tryz.ntmps54
    go_wp2_with (first
     | (go_at_call 51;((with_reducible refine (G1.out _).mono ?_);rintro e w1 ⟨rfl,hB⟩;replace hA:=bel2 hA hB;replace c0:=(hB.cell (p:=⟨w.heap.size,0,none⟩) hs).trans c0;replace c1:=(hB.cell (p:=⟨w.heap.size,1,none⟩) hs).trans c1;replace c2:=(hB.cell (p:=⟨w.heap.size,2,none⟩) hs).trans c2;replace c3:=(hB.cell (p:=⟨w.heap.size,3,none⟩) hs).trans c3;replace c4:=(hB.cell (p:=⟨w.heap.size,4,none⟩) hs).trans c4;replace c5:=(hB.cell (p:=⟨w.heap.size,5,none⟩) hs).trans c5;replace c6:=(hB.cell (p:=⟨w.heap.size,6,none⟩) hs).trans c6;replace c7:=(hB.cell (p:=⟨w.heap.size,7,none⟩) hs).trans c7;replace c8:=(hB.cell (p:=⟨w.heap.size,8,none⟩) hs).trans c8;replace c9:=(hB.cell (p:=⟨w.heap.size,9,none⟩) hs).trans c9;replace hs:=Nat.lt_of_lt_of_le hs hB.size;clear hB))
     | (go_at_call 52;((with_reducible refine (G2.out _).mono ?_);rintro e w1 ⟨rfl,hB⟩;replace hA:=bel2 hA hB;replace c0:=(hB.cell (p:=⟨w.heap.size,0,none⟩) hs).trans c0;replace c1:=(hB.cell (p:=⟨w.heap.size,1,none⟩) hs).trans c1;replace c2:=(hB.cell (p:=⟨w.heap.size,2,none⟩) hs).trans c2;replace c3:=(hB.cell (p:=⟨w.heap.size,3,none⟩) hs).trans c3;replace c4:=(hB.cell (p:=⟨w.heap.size,4,none⟩) hs).trans c4;replace c5:=(hB.cell (p:=⟨w.heap.size,5,none⟩) hs).trans c5;replace c6:=(hB.cell (p:=⟨w.heap.size,6,none⟩) hs).trans c6;replace c7:=(hB.cell (p:=⟨w.heap.size,7,none⟩) hs).trans c7;replace c8:=(hB.cell (p:=⟨w.heap.size,8,none⟩) hs).trans c8;replace c9:=(hB.cell (p:=⟨w.heap.size,9,none⟩) hs).trans c9;replace hs:=Nat.lt_of_lt_of_le hs hB.size;clear hB))
     | (go_at_call 50;((with_reducible refine (G3.out _).mono ?_);rintro e w1 ⟨rfl,hB⟩;replace hA:=bel2 hA hB;replace c0:=(hB.cell (p:=⟨w.heap.size,0,none⟩) hs).trans c0;replace c1:=(hB.cell (p:=⟨w.heap.size,1,none⟩) hs).trans c1;replace c2:=(hB.cell (p:=⟨w.heap.size,2,none⟩) hs).trans c2;replace c3:=(hB.cell (p:=⟨w.heap.size,3,none⟩) hs).trans c3;replace c4:=(hB.cell (p:=⟨w.heap.size,4,none⟩) hs).trans c4;replace c5:=(hB.cell (p:=⟨w.heap.size,5,none⟩) hs).trans c5;replace c6:=(hB.cell (p:=⟨w.heap.size,6,none⟩) hs).trans c6;replace c7:=(hB.cell (p:=⟨w.heap.size,7,none⟩) hs).trans c7;replace c8:=(hB.cell (p:=⟨w.heap.size,8,none⟩) hs).trans c8;replace c9:=(hB.cell (p:=⟨w.heap.size,9,none⟩) hs).trans c9;replace hs:=Nat.lt_of_lt_of_le hs hB.size;clear hB))
     | (go_at_call 49;((with_reducible refine (G4.out _ hA).mono ?_);rintro e w1 ⟨rfl,hB⟩;replace hA:=bel2 hA hB;replace c0:=(hB.cell (p:=⟨w.heap.size,0,none⟩) hs).trans c0;replace c1:=(hB.cell (p:=⟨w.heap.size,1,none⟩) hs).trans c1;replace c2:=(hB.cell (p:=⟨w.heap.size,2,none⟩) hs).trans c2;replace c3:=(hB.cell (p:=⟨w.heap.size,3,none⟩) hs).trans c3;replace c4:=(hB.cell (p:=⟨w.heap.size,4,none⟩) hs).trans c4;replace c5:=(hB.cell (p:=⟨w.heap.size,5,none⟩) hs).trans c5;replace c6:=(hB.cell (p:=⟨w.heap.size,6,none⟩) hs).trans c6;replace c7:=(hB.cell (p:=⟨w.heap.size,7,none⟩) hs).trans c7;replace c8:=(hB.cell (p:=⟨w.heap.size,8,none⟩) hs).trans c8;replace c9:=(hB.cell (p:=⟨w.heap.size,9,none⟩) hs).trans c9;replace hs:=Nat.lt_of_lt_of_le hs hB.size;clear hB)))
    go_ret
    exact ⟨by simp,hA⟩
 | true =>
  cases b1 with
  | false =>
   go_enter Tryz.func54,Tryz.ntmps54
   go_wp2_with (first
    | (go_at_call 51;((with_reducible refine (G1.out _).mono ?_);rintro e w1 ⟨rfl,hB⟩;replace hA:=bel2 hA hB;replace c0:=(hB.cell (p:=⟨w.heap.size,0,none⟩) hs).trans c0;replace c1:=(hB.cell (p:=⟨w.heap.size,1,none⟩) hs).trans c1;replace c2:=(hB.cell (p:=⟨w.heap.size,2,none⟩) hs).trans c2;replace c3:=(hB.cell (p:=⟨w.heap.size,3,none⟩) hs).trans c3;replace c4:=(hB.cell (p:=⟨w.heap.size,4,none⟩) hs).trans c4;replace c5:=(hB.cell (p:=⟨w.heap.size,5,none⟩) hs).trans c5;replace c6:=(hB.cell (p:=⟨w.heap.size,6,none⟩) hs).trans c6;replace c7:=(hB.cell (p:=⟨w.heap.size,7,none⟩) hs).trans c7;replace c8:=(hB.cell (p:=⟨w.heap.size,8,none⟩) hs).trans c8;replace c9:=(hB.cell (p:=⟨w.heap.size,9,none⟩) hs).trans c9;replace hs:=Nat.lt_of_lt_of_le hs hB.size;clear hB))
    | (go_at_call 52;((with_reducible refine (G2.out _).mono ?_);rintro e w1 ⟨rfl,hB⟩;replace hA:=bel2 hA hB;replace c0:=(hB.cell (p:=⟨w.heap.size,0,none⟩) hs).trans c0;replace c1:=(hB.cell (p:=⟨w.heap.size,1,none⟩) hs).trans c1;replace c2:=(hB.cell (p:=⟨w.heap.size,2,none⟩) hs).trans c2;replace c3:=(hB.cell (p:=⟨w.heap.size,3,none⟩) hs).trans c3;replace c4:=(hB.cell (p:=⟨w.heap.size,4,none⟩) hs).trans c4;replace c5:=(hB.cell (p:=⟨w.heap.size,5,none⟩) hs).trans c5;replace c6:=(hB.cell (p:=⟨w.heap.size,6,none⟩) hs).trans c6;replace c7:=(hB.cell (p:=⟨w.heap.size,7,none⟩) hs).trans c7;replace c8:=(hB.cell (p:=⟨w.heap.size,8,none⟩) hs).trans c8;replace c9:=(hB.cell (p:=⟨w.heap.size,9,none⟩) hs).trans c9;replace hs:=Nat.lt_of_lt_of_le hs hB.size;clear hB))
    | (go_at_call 50;((with_reducible refine (G3.out _).mono ?_);rintro e w1 ⟨rfl,hB⟩;replace hA:=bel2 hA hB;replace c0:=(hB.cell (p:=⟨w.heap.size,0,none⟩) hs).trans c0;replace c1:=(hB.cell (p:=⟨w.heap.size,1,none⟩) hs).trans c1;replace c2:=(hB.cell (p:=⟨w.heap.size,2,none⟩) hs).trans c2;replace c3:=(hB.cell (p:=⟨w.heap.size,3,none⟩) hs).trans c3;replace c4:=(hB.cell (p:=⟨w.heap.size,4,none⟩) hs).trans c4;replace c5:=(hB.cell (p:=⟨w.heap.size,5,none⟩) hs).trans c5;replace c6:=(hB.cell (p:=⟨w.heap.size,6,none⟩) hs).trans c6;replace c7:=(hB.cell (p:=⟨w.heap.size,7,none⟩) hs).trans c7;replace c8:=(hB.cell (p:=⟨w.heap.size,8,none⟩) hs).trans c8;replace c9:=(hB.cell (p:=⟨w.heap.size,9,none⟩) hs).trans c9;replace hs:=Nat.lt_of_lt_of_le hs hB.size;clear hB))
    | (go_at_call 49;((with_reducible refine (G4.out _ hA).mono ?_);rintro e w1 ⟨rfl,hB⟩;replace hA:=bel2 hA hB;replace c0:=(hB.cell (p:=⟨w.heap.size,0,none⟩) hs).trans c0;replace c1:=(hB.cell (p:=⟨w.heap.size,1,none⟩) hs).trans c1;replace c2:=(hB.cell (p:=⟨w.heap.size,2,none⟩) hs).trans c2;replace c3:=(hB.cell (p:=⟨w.heap.size,3,none⟩) hs).trans c3;replace c4:=(hB.cell (p:=⟨w.heap.size,4,none⟩) hs).trans c4;replace c5:=(hB.cell (p:=⟨w.heap.size,5,none⟩) hs).trans c5;replace c6:=(hB.cell (p:=⟨w.heap.size,6,none⟩) hs).trans c6;replace c7:=(hB.cell (p:=⟨w.heap.size,7,none⟩) hs).trans c7;replace c8:=(hB.cell (p:=⟨w.heap.size,8,none⟩) hs).trans c8;replace c9:=(hB.cell (p:=⟨w.heap.size,9,none⟩) hs).trans c9;replace hs:=Nat.lt_of_lt_of_le hs hB.size;clear hB)))
   go_ret
   exact ⟨by simp,hA⟩
  | true =>
   cases b2 with
   | false =>
    go_enter Tryz.func54,Tryz.ntmps54
    go_wp2_with (first
     | (go_at_call 51;((with_reducible refine (G1.out _).mono ?_);rintro e w1 ⟨rfl,hB⟩;replace hA:=bel2 hA hB;replace c0:=(hB.cell (p:=⟨w.heap.size,0,none⟩) hs).trans c0;replace c1:=(hB.cell (p:=⟨w.heap.size,1,none⟩) hs).trans c1;replace c2:=(hB.cell (p:=⟨w.heap.size,2,none⟩) hs).trans c2;replace c3:=(hB.cell (p:=⟨w.heap.size,3,none⟩) hs).trans c3;replace c4:=(hB.cell (p:=⟨w.heap.size,4,none⟩) hs).trans c4;replace c5:=(hB.cell (p:=⟨w.heap.size,5,none⟩) hs).trans c5;replace c6:=(hB.cell (p:=⟨w.heap.size,6,none⟩) hs).trans c6;replace c7:=(hB.cell (p:=⟨w.heap.size,7,none⟩) hs).trans c7;replace c8:=(hB.cell (p:=⟨w.heap.size,8,none⟩) hs).trans c8;replace c9:=(hB.cell (p:=⟨w.heap.size,9,none⟩) hs).trans c9;replace hs:=Nat.lt_of_lt_of_le hs hB.size;clear hB))
     | (go_at_call 52;((with_reducible refine (G2.out _).mono ?_);rintro e w1 ⟨rfl,hB⟩;replace hA:=bel2 hA hB;replace c0:=(hB.cell (p:=⟨w.heap.size,0,none⟩) hs).trans c0;replace c1:=(hB.cell (p:=⟨w.heap.size,1,none⟩) hs).trans c1;replace c2:=(hB.cell (p:=⟨w.heap.size,2,none⟩) hs).trans c2;replace c3:=(hB.cell (p:=⟨w.heap.size,3,none⟩) hs).trans c3;replace c4:=(hB.cell (p:=⟨w.heap.size,4,none⟩) hs).trans c4;replace c5:=(hB.cell (p:=⟨w.heap.size,5,none⟩) hs).trans c5;replace c6:=(hB.cell (p:=⟨w.heap.size,6,none⟩) hs).trans c6;replace c7:=(hB.cell (p:=⟨w.heap.size,7,none⟩) hs).trans c7;replace c8:=(hB.cell (p:=⟨w.heap.size,8,none⟩) hs).trans c8;replace c9:=(hB.cell (p:=⟨w.heap.size,9,none⟩) hs).trans c9;replace hs:=Nat.lt_of_lt_of_le hs hB.size;clear hB))
     | (go_at_call 50;((with_reducible refine (G3.out _).mono ?_);rintro e w1 ⟨rfl,hB⟩;replace hA:=bel2 hA hB;replace c0:=(hB.cell (p:=⟨w.heap.size,0,none⟩) hs).trans c0;replace c1:=(hB.cell (p:=⟨w.heap.size,1,none⟩) hs).trans c1;replace c2:=(hB.cell (p:=⟨w.heap.size,2,none⟩) hs).trans c2;replace c3:=(hB.cell (p:=⟨w.heap.size,3,none⟩) hs).trans c3;replace c4:=(hB.cell (p:=⟨w.heap.size,4,none⟩) hs).trans c4;replace c5:=(hB.cell (p:=⟨w.heap.size,5,none⟩) hs).trans c5;replace c6:=(hB.cell (p:=⟨w.heap.size,6,none⟩) hs).trans c6;replace c7:=(hB.cell (p:=⟨w.heap.size,7,none⟩) hs).trans c7;replace c8:=(hB.cell (p:=⟨w.heap.size,8,none⟩) hs).trans c8;replace c9:=(hB.cell (p:=⟨w.heap.size,9,none⟩) hs).trans c9;replace hs:=Nat.lt_of_lt_of_le hs hB.size;clear hB))
     | (go_at_call 49;((with_reducible refine (G4.out _ hA).mono ?_);rintro e w1 ⟨rfl,hB⟩;replace hA:=bel2 hA hB;replace c0:=(hB.cell (p:=⟨w.heap.size,0,none⟩) hs).trans c0;replace c1:=(hB.cell (p:=⟨w.heap.size,1,none⟩) hs).trans c1;replace c2:=(hB.cell (p:=⟨w.heap.size,2,none⟩) hs).trans c2;replace c3:=(hB.cell (p:=⟨w.heap.size,3,none⟩) hs).trans c3;replace c4:=(hB.cell (p:=⟨w.heap.size,4,none⟩) hs).trans c4;replace c5:=(hB.cell (p:=⟨w.heap.size,5,none⟩) hs).trans c5;replace c6:=(hB.cell (p:=⟨w.heap.size,6,none⟩) hs).trans c6;replace c7:=(hB.cell (p:=⟨w.heap.size,7,none⟩) hs).trans c7;replace c8:=(hB.cell (p:=⟨w.heap.size,8,none⟩) hs).trans c8;replace c9:=(hB.cell (p:=⟨w.heap.size,9,none⟩) hs).trans c9;replace hs:=Nat.lt_of_lt_of_le hs hB.size;clear hB)))
    go_ret
    exact ⟨by simp,hA⟩
   | true =>
    cases hd with
    | false =>
     go_enter Tryz.func54,Tryz.ntmps54
     go_wp2_with (first
      | (go_at_call 51;((with_reducible refine (G1.out _).mono ?_);rintro e w1 ⟨rfl,hB⟩;replace hA:=bel2 hA hB;replace c0:=(hB.cell (p:=⟨w.heap.size,0,none⟩) hs).trans c0;replace c1:=(hB.cell (p:=⟨w.heap.size,1,none⟩) hs).trans c1;replace c2:=(hB.cell (p:=⟨w.heap.size,2,none⟩) hs).trans c2;replace c3:=(hB.cell (p:=⟨w.heap.size,3,none⟩) hs).trans c3;replace c4:=(hB.cell (p:=⟨w.heap.size,4,none⟩) hs).trans c4;replace c5:=(hB.cell (p:=⟨w.heap.size,5,none⟩) hs).trans c5;replace c6:=(hB.cell (p:=⟨w.heap.size,6,none⟩) hs).trans c6;replace c7:=(hB.cell (p:=⟨w.heap.size,7,none⟩) hs).trans c7;replace c8:=(hB.cell (p:=⟨w.heap.size,8,none⟩) hs).trans c8;replace c9:=(hB.cell (p:=⟨w.heap.size,9,none⟩) hs).trans c9;replace hs:=Nat.lt_of_lt_of_le hs hB.size;clear hB))
      | (go_at_call 52;((with_reducible refine (G2.out _).mono ?_);rintro e w1 ⟨rfl,hB⟩;replace hA:=bel2 hA hB;replace c0:=(hB.cell (p:=⟨w.heap.size,0,none⟩) hs).trans c0;replace c1:=(hB.cell (p:=⟨w.heap.size,1,none⟩) hs).trans c1;replace c2:=(hB.cell (p:=⟨w.heap.size,2,none⟩) hs).trans c2;replace c3:=(hB.cell (p:=⟨w.heap.size,3,none⟩) hs).trans c3;replace c4:=(hB.cell (p:=⟨w.heap.size,4,none⟩) hs).trans c4;replace c5:=(hB.cell (p:=⟨w.heap.size,5,none⟩) hs).trans c5;replace c6:=(hB.cell (p:=⟨w.heap.size,6,none⟩) hs).trans c6;replace c7:=(hB.cell (p:=⟨w.heap.size,7,none⟩) hs).trans c7;replace c8:=(hB.cell (p:=⟨w.heap.size,8,none⟩) hs).trans c8;replace c9:=(hB.cell (p:=⟨w.heap.size,9,none⟩) hs).trans c9;replace hs:=Nat.lt_of_lt_of_le hs hB.size;clear hB))
      | (go_at_call 50;((with_reducible refine (G3.out _).mono ?_);rintro e w1 ⟨rfl,hB⟩;replace hA:=bel2 hA hB;replace c0:=(hB.cell (p:=⟨w.heap.size,0,none⟩) hs).trans c0;replace c1:=(hB.cell (p:=⟨w.heap.size,1,none⟩) hs).trans c1;replace c2:=(hB.cell (p:=⟨w.heap.size,2,none⟩) hs).trans c2;replace c3:=(hB.cell (p:=⟨w.heap.size,3,none⟩) hs).trans c3;replace c4:=(hB.cell (p:=⟨w.heap.size,4,none⟩) hs).trans c4;replace c5:=(hB.cell (p:=⟨w.heap.size,5,none⟩) hs).trans c5;replace c6:=(hB.cell (p:=⟨w.heap.size,6,none⟩) hs).trans c6;replace c7:=(hB.cell (p:=⟨w.heap.size,7,none⟩) hs).trans c7;replace c8:=(hB.cell (p:=⟨w.heap.size,8,none⟩) hs).trans c8;replace c9:=(hB.cell (p:=⟨w.heap.size,9,none⟩) hs).trans c9;replace hs:=Nat.lt_of_lt_of_le hs hB.size;clear hB))
      | (go_at_call 49;((with_reducible refine (G4.out _ hA).mono ?_);rintro e w1 ⟨rfl,hB⟩;replace hA:=bel2 hA hB;replace c0:=(hB.cell (p:=⟨w.heap.size,0,none⟩) hs).trans c0;replace c1:=(hB.cell (p:=⟨w.heap.size,1,none⟩) hs).trans c1;replace c2:=(hB.cell (p:=⟨w.heap.size,2,none⟩) hs).trans c2;replace c3:=(hB.cell (p:=⟨w.heap.size,3,none⟩) hs).trans c3;replace c4:=(hB.cell (p:=⟨w.heap.size,4,none⟩) hs).trans c4;replace c5:=(hB.cell (p:=⟨w.heap.size,5,none⟩) hs).trans c5;replace c6:=(hB.cell (p:=⟨w.heap.size,6,none⟩) hs).trans c6;replace c7:=(hB.cell (p:=⟨w.heap.size,7,none⟩) hs).trans c7;replace c8:=(hB.cell (p:=⟨w.heap.size,8,none⟩) hs).trans c8;replace c9:=(hB.cell (p:=⟨w.heap.size,9,none⟩) hs).trans c9;replace hs:=Nat.lt_of_lt_of_le hs hB.size;clear hB)))
     go_ret
     exact ⟨by simp,hA⟩
    | true =>
     cases b3
     all_goals
      go_enter Tryz.func54,Tryz.ntmps54
      go_wp2_with (first
       | (go_at_call 51;((with_reducible refine (G1.out _).mono ?_);rintro e w1 ⟨rfl,hB⟩;replace hA:=bel2 hA hB;replace c0:=(hB.cell (p:=⟨w.heap.size,0,none⟩) hs).trans c0;replace c1:=(hB.cell (p:=⟨w.heap.size,1,none⟩) hs).trans c1;replace c2:=(hB.cell (p:=⟨w.heap.size,2,none⟩) hs).trans c2;replace c3:=(hB.cell (p:=⟨w.heap.size,3,none⟩) hs).trans c3;replace c4:=(hB.cell (p:=⟨w.heap.size,4,none⟩) hs).trans c4;replace c5:=(hB.cell (p:=⟨w.heap.size,5,none⟩) hs).trans c5;replace c6:=(hB.cell (p:=⟨w.heap.size,6,none⟩) hs).trans c6;replace c7:=(hB.cell (p:=⟨w.heap.size,7,none⟩) hs).trans c7;replace c8:=(hB.cell (p:=⟨w.heap.size,8,none⟩) hs).trans c8;replace c9:=(hB.cell (p:=⟨w.heap.size,9,none⟩) hs).trans c9;replace hs:=Nat.lt_of_lt_of_le hs hB.size;clear hB))
       | (go_at_call 52;((with_reducible refine (G2.out _).mono ?_);rintro e w1 ⟨rfl,hB⟩;replace hA:=bel2 hA hB;replace c0:=(hB.cell (p:=⟨w.heap.size,0,none⟩) hs).trans c0;replace c1:=(hB.cell (p:=⟨w.heap.size,1,none⟩) hs).trans c1;replace c2:=(hB.cell (p:=⟨w.heap.size,2,none⟩) hs).trans c2;replace c3:=(hB.cell (p:=⟨w.heap.size,3,none⟩) hs).trans c3;replace c4:=(hB.cell (p:=⟨w.heap.size,4,none⟩) hs).trans c4;replace c5:=(hB.cell (p:=⟨w.heap.size,5,none⟩) hs).trans c5;replace c6:=(hB.cell (p:=⟨w.heap.size,6,none⟩) hs).trans c6;replace c7:=(hB.cell (p:=⟨w.heap.size,7,none⟩) hs).trans c7;replace c8:=(hB.cell (p:=⟨w.heap.size,8,none⟩) hs).trans c8;replace c9:=(hB.cell (p:=⟨w.heap.size,9,none⟩) hs).trans c9;replace hs:=Nat.lt_of_lt_of_le hs hB.size;clear hB))
       | (go_at_call 50;((with_reducible refine (G3.out _).mono ?_);rintro e w1 ⟨rfl,hB⟩;replace hA:=bel2 hA hB;replace c0:=(hB.cell (p:=⟨w.heap.size,0,none⟩) hs).trans c0;replace c1:=(hB.cell (p:=⟨w.heap.size,1,none⟩) hs).trans c1;replace c2:=(hB.cell (p:=⟨w.heap.size,2,none⟩) hs).trans c2;replace c3:=(hB.cell (p:=⟨w.heap.size,3,none⟩) hs).trans c3;replace c4:=(hB.cell (p:=⟨w.heap.size,4,none⟩) hs).trans c4;replace c5:=(hB.cell (p:=⟨w.heap.size,5,none⟩) hs).trans c5;replace c6:=(hB.cell (p:=⟨w.heap.size,6,none⟩) hs).trans c6;replace c7:=(hB.cell (p:=⟨w.heap.size,7,none⟩) hs).trans c7;replace c8:=(hB.cell (p:=⟨w.heap.size,8,none⟩) hs).trans c8;replace c9:=(hB.cell (p:=⟨w.heap.size,9,none⟩) hs).trans c9;replace hs:=Nat.lt_of_lt_of_le hs hB.size;clear hB))
       | (go_at_call 49;((with_reducible refine (G4.out _ hA).mono ?_);rintro e w1 ⟨rfl,hB⟩;replace hA:=bel2 hA hB;replace c0:=(hB.cell (p:=⟨w.heap.size,0,none⟩) hs).trans c0;replace c1:=(hB.cell (p:=⟨w.heap.size,1,none⟩) hs).trans c1;replace c2:=(hB.cell (p:=⟨w.heap.size,2,none⟩) hs).trans c2;replace c3:=(hB.cell (p:=⟨w.heap.size,3,none⟩) hs).trans c3;replace c4:=(hB.cell (p:=⟨w.heap.size,4,none⟩) hs).trans c4;replace c5:=(hB.cell (p:=⟨w.heap.size,5,none⟩) hs).trans c5;replace c6:=(hB.cell (p:=⟨w.heap.size,6,none⟩) hs).trans c6;replace c7:=(hB.cell (p:=⟨w.heap.size,7,none⟩) hs).trans c7;replace c8:=(hB.cell (p:=⟨w.heap.size,8,none⟩) hs).trans c8;replace c9:=(hB.cell (p:=⟨w.heap.size,9,none⟩) hs).trans c9;replace hs:=Nat.lt_of_lt_of_le hs hB.size;clear hB)))
      go_ret
      exact ⟨by simp,hA⟩

end Go.Proofs.YtpogklceaoiacaaGreat
