/- The contract of package part's putForward. -/
import Derived.Test.YtpogklceaoiacaaGreatPuts
namespace Go.Proofs.YtpogklceaoiacaaGreat
open Go.RowKit Go.Shelf
set_option linter.unusedVariables false
attribute [local go_sem] Oper.semAt_some wide_fn wide_round_fn

theorem puts1 (B b q:Nat) (x:Int) (hx:x<9223372036854775808) (bs:List UInt8) (w:World) (h:Builds B b (Lib.byteCells bs) w) (hlen:bs.length+30≤140737488355328) (hBw:B≤w.heap.size) (hq:q=w.heap.size) :
  Calls Tryz.prog 85 #[.pointer (some ⟨b,0,none⟩),.slice (some ⟨q,0,none⟩) 1 1] (w.alloc (.cells #[.int .i64 x] 3)) fun e w'=>e=.returned (.tuple #[])∧Builds B b (Lib.byteCells (bs ++ putL [x])) w'∧Below B w w'∧Keeps b w w':=by
 have G:=puts_new B b q 1 1 [x] rfl (by simp [hx]) bs w h (by omega) hBw (by decide) hq
 simp only [intCells,List.map_cons,List.map_nil] at G
 exact G
theorem puts2 (B b q:Nat) (x y:Int) (hx:x<9223372036854775808) (hy:y<9223372036854775808) (bs:List UInt8) (w:World) (h:Builds B b (Lib.byteCells bs) w) (hlen:bs.length+30≤140737488355328) (hBw:B≤w.heap.size) (hq:q=w.heap.size) :
  Calls Tryz.prog 85 #[.pointer (some ⟨b,0,none⟩),.slice (some ⟨q,0,none⟩) 2 2] (w.alloc (.cells #[.int .i64 x,.int .i64 y] 3)) fun e w'=>e=.returned (.tuple #[])∧Builds B b (Lib.byteCells (bs ++ putL [x,y])) w'∧Below B w w'∧Keeps b w w':=by
 have G:=puts_new B b q 2 2 [x,y] rfl (by simp [hx,hy]) bs w h (by omega) hBw (by decide) hq
 simp only [intCells,List.map_cons,List.map_nil] at G
 exact G
theorem putL_app (l m:List Int):putL (l ++ m)=putL l ++ putL m:=by simp [putL]
theorem Builds.lt {B b:Nat} {bs:List Value} {w:World} (h:Builds B b bs w):b<w.heap.size:=h.elim (fun x=>x.lt) (fun x=>x.lt)
def flagN (p:PartC):Int:=(if p.m then 1 else 0)+(if p.h then 2 else 0)
def fwdN (p:PartC):List Int:=[flagN p] ++ ((if p.m then [p.i,p.t] else []) ++ ((if p.h then [p.ht,p.hv,p.hc] else []) ++ [(p.len:Int)]))

set_option maxRecDepth 100000 in
set_option maxHeartbeats 4000000 in
theorem putForward_any (B b:Nat) (p:PartC) (h1:p.ht<9223372036854775808) (h2:p.hv<9223372036854775808) (h3:p.hc<9223372036854775808) (hi:p.i<9223372036854775808) (ht:p.t<9223372036854775808) (hl:p.len<1000000) (bs:List UInt8) (w:World) (h:Builds B b (Lib.byteCells bs) w)
  (hlen:bs.length+200≤140737488355328) (hBw:B≤w.heap.size) :
  Calls Tryz.prog 87 #[.pointer (some ⟨b,0,none⟩),p.val] w fun e w'=>e=.returned (.tuple #[])∧Builds B b (Lib.byteCells (bs ++ putL (fwdN p))) w'∧Below B w w'∧Keeps b w w':=by
 have hlen':bs.length+30≤140737488355328:=by omega
 have hne:w.heap.size≠b:=by have:=h.lt;omega
 have HL1:=Lib.hid (show ∀ (l1:List Int),l1.length≤3→(bs ++ putL l1).length+30≤140737488355328 by
  intro l1 ql1
  have:=putL_len l1
  simp only [List.length_append]
  omega)
 have HL2:=Lib.hid (show ∀ (l1 l2:List Int),l1.length≤3→l2.length≤3→((bs ++ putL l1) ++ putL l2).length+30≤140737488355328 by
  intro l1 l2 ql1 ql2
  have:=putL_len l1;have:=putL_len l2
  simp only [List.length_append]
  omega)
 have HL3:=Lib.hid (show ∀ (l1 l2 l3:List Int),l1.length≤3→l2.length≤3→l3.length≤3→(((bs ++ putL l1) ++ putL l2) ++ putL l3).length+30≤140737488355328 by
  intro l1 l2 l3 ql1 ql2 ql3
  have:=putL_len l1;have:=putL_len l2;have:=putL_len l3
  simp only [List.length_append]
  omega)
 have h1':=h1;have h2':=h2;have h3':=h3;have hi':=hi;have ht':=ht
 clear h1 h2 h3 hi ht
 obtain ⟨g,k,a,len,cap,ht,hv,hc,i,t,mk,hd⟩:=p
 dsimp only [PartC.val] at *
 cases mk with
 | false =>
  cases hd with
  | false =>
   have hA0:Below B w (w.alloc (.cells #[.int .i64 g,.int .i64 k,.slice a len cap,.int .i64 ht,.int .i64 hv,.int .i64 hc,.int .i64 i,.int .i64 t,.bool false,.bool false] 37)):=(bel_alloc (Below.refl _ _) _).mono hBw
   have HK0:Keeps b w (w.alloc (.cells #[.int .i64 g,.int .i64 k,.slice a len cap,.int .i64 ht,.int .i64 hv,.int .i64 hc,.int .i64 i,.int .i64 t,.bool false,.bool false] 37)):=Keeps.below (bel_alloc (Below.refl _ _) _)
   have HB0:=Lib.hid (show Builds B b (Lib.byteCells bs) (w.alloc (.cells #[.int .i64 g,.int .i64 k,.slice a len cap,.int .i64 ht,.int .i64 hv,.int .i64 hc,.int .i64 i,.int .i64 t,.bool false,.bool false] 37)) from h.kept (bel_alloc (Below.refl _ _) _))
   have hbp:(w.alloc (.cells #[.int .i64 g,.int .i64 k,.slice a len cap,.int .i64 ht,.int .i64 hv,.int .i64 hc,.int .i64 i,.int .i64 t,.bool false,.bool false] 37)).heap[w.heap.size]?=some (.cells #[.int .i64 g,.int .i64 k,.slice a len cap,.int .i64 ht,.int .i64 hv,.int .i64 hc,.int .i64 i,.int .i64 t,.bool false,.bool false] 37 (0,0)):=World.alloc_heap_new w _
   go_enter Tryz.func87,Tryz.ntmps87
   go_wp2_with (first
    | (go_at_call 85;((with_reducible refine (puts1 B b _ _ (by decide) _ _ HB0.out hlen' (Nat.le_trans hBw hA0.size) (by simp)).mono ?_);rintro e w1 ⟨rfl,h1,h2,h3⟩;have HB1:=Lib.hid h1;clear h1;replace hbp:=h3.cells hbp hne (by decide);have hA1:=hA0.trans h2;have HK1:=HK0.trans h3;clear h2 h3;have c2:w1.cell? ⟨w.heap.size,2,none⟩=some (.slice a len cap):=cell_of_row _ _ 2 _ _ _ hbp;have c3:w1.cell? ⟨w.heap.size,3,none⟩=some (.int .i64 ht):=cell_of_row _ _ 3 _ _ _ hbp;have c4:w1.cell? ⟨w.heap.size,4,none⟩=some (.int .i64 hv):=cell_of_row _ _ 4 _ _ _ hbp;have c5:w1.cell? ⟨w.heap.size,5,none⟩=some (.int .i64 hc):=cell_of_row _ _ 5 _ _ _ hbp;have c6:w1.cell? ⟨w.heap.size,6,none⟩=some (.int .i64 i):=cell_of_row _ _ 6 _ _ _ hbp;have c7:w1.cell? ⟨w.heap.size,7,none⟩=some (.int .i64 t):=cell_of_row _ _ 7 _ _ _ hbp;have c8:w1.cell? ⟨w.heap.size,8,none⟩=some (.bool false):=cell_of_row _ _ 8 _ _ _ hbp;have c9:w1.cell? ⟨w.heap.size,9,none⟩=some (.bool false):=cell_of_row _ _ 9 _ _ _ hbp))
    | (go_at_call 85;((with_reducible refine (puts1 B b _ _ (by omega) _ _ HB1.out (HL1.out _ (by simp)) (Nat.le_trans hBw hA1.size) rfl).mono ?_);rintro e w2 ⟨rfl,h1,h2,h3⟩;have HB2:=Lib.hid h1;clear h1;replace hbp:=h3.cells hbp hne (by decide);have hA2:=hA1.trans h2;have HK2:=HK1.trans h3;clear h2 h3;clear c2 ;clear c3 ;clear c4 ;clear c5 ;clear c6 ;clear c7 ;clear c8 ;clear c9;have c2:w2.cell? ⟨w.heap.size,2,none⟩=some (.slice a len cap):=cell_of_row _ _ 2 _ _ _ hbp;have c3:w2.cell? ⟨w.heap.size,3,none⟩=some (.int .i64 ht):=cell_of_row _ _ 3 _ _ _ hbp;have c4:w2.cell? ⟨w.heap.size,4,none⟩=some (.int .i64 hv):=cell_of_row _ _ 4 _ _ _ hbp;have c5:w2.cell? ⟨w.heap.size,5,none⟩=some (.int .i64 hc):=cell_of_row _ _ 5 _ _ _ hbp;have c6:w2.cell? ⟨w.heap.size,6,none⟩=some (.int .i64 i):=cell_of_row _ _ 6 _ _ _ hbp;have c7:w2.cell? ⟨w.heap.size,7,none⟩=some (.int .i64 t):=cell_of_row _ _ 7 _ _ _ hbp;have c8:w2.cell? ⟨w.heap.size,8,none⟩=some (.bool false):=cell_of_row _ _ 8 _ _ _ hbp;have c9:w2.cell? ⟨w.heap.size,9,none⟩=some (.bool false):=cell_of_row _ _ 9 _ _ _ hbp)))
   go_end0
   refine ⟨rfl,?_,hA2,HK2⟩
   rw [show fwdN ⟨g,k,a,len,cap,ht,hv,hc,i,t,false,false⟩=([0] ++ [(len:Int)]) by simp [fwdN,flagN]]
   simp only [putL_app,← List.append_assoc]
   exact HB2.out
  | true =>
   have hA0:Below B w (w.alloc (.cells #[.int .i64 g,.int .i64 k,.slice a len cap,.int .i64 ht,.int .i64 hv,.int .i64 hc,.int .i64 i,.int .i64 t,.bool false,.bool true] 37)):=(bel_alloc (Below.refl _ _) _).mono hBw
   have HK0:Keeps b w (w.alloc (.cells #[.int .i64 g,.int .i64 k,.slice a len cap,.int .i64 ht,.int .i64 hv,.int .i64 hc,.int .i64 i,.int .i64 t,.bool false,.bool true] 37)):=Keeps.below (bel_alloc (Below.refl _ _) _)
   have HB0:=Lib.hid (show Builds B b (Lib.byteCells bs) (w.alloc (.cells #[.int .i64 g,.int .i64 k,.slice a len cap,.int .i64 ht,.int .i64 hv,.int .i64 hc,.int .i64 i,.int .i64 t,.bool false,.bool true] 37)) from h.kept (bel_alloc (Below.refl _ _) _))
   have hbp:(w.alloc (.cells #[.int .i64 g,.int .i64 k,.slice a len cap,.int .i64 ht,.int .i64 hv,.int .i64 hc,.int .i64 i,.int .i64 t,.bool false,.bool true] 37)).heap[w.heap.size]?=some (.cells #[.int .i64 g,.int .i64 k,.slice a len cap,.int .i64 ht,.int .i64 hv,.int .i64 hc,.int .i64 i,.int .i64 t,.bool false,.bool true] 37 (0,0)):=World.alloc_heap_new w _
   go_enter Tryz.func87,Tryz.ntmps87
   go_wp2_with (first
    | (go_at_call 85;((with_reducible refine (puts1 B b _ _ (by decide) _ _ HB0.out hlen' (Nat.le_trans hBw hA0.size) (by simp)).mono ?_);rintro e w1 ⟨rfl,h1,h2,h3⟩;have HB1:=Lib.hid h1;clear h1;replace hbp:=h3.cells hbp hne (by decide);have hA1:=hA0.trans h2;have HK1:=HK0.trans h3;clear h2 h3;have c2:w1.cell? ⟨w.heap.size,2,none⟩=some (.slice a len cap):=cell_of_row _ _ 2 _ _ _ hbp;have c3:w1.cell? ⟨w.heap.size,3,none⟩=some (.int .i64 ht):=cell_of_row _ _ 3 _ _ _ hbp;have c4:w1.cell? ⟨w.heap.size,4,none⟩=some (.int .i64 hv):=cell_of_row _ _ 4 _ _ _ hbp;have c5:w1.cell? ⟨w.heap.size,5,none⟩=some (.int .i64 hc):=cell_of_row _ _ 5 _ _ _ hbp;have c6:w1.cell? ⟨w.heap.size,6,none⟩=some (.int .i64 i):=cell_of_row _ _ 6 _ _ _ hbp;have c7:w1.cell? ⟨w.heap.size,7,none⟩=some (.int .i64 t):=cell_of_row _ _ 7 _ _ _ hbp;have c8:w1.cell? ⟨w.heap.size,8,none⟩=some (.bool false):=cell_of_row _ _ 8 _ _ _ hbp;have c9:w1.cell? ⟨w.heap.size,9,none⟩=some (.bool true):=cell_of_row _ _ 9 _ _ _ hbp))
    | (go_at_call 86;((with_reducible refine (putHard_any B b _ _ _ h1' h2' h3' _ _ HB1.out (HL1.out _ (by simp)) (Nat.le_trans hBw hA1.size)).mono ?_);rintro e w2 ⟨rfl,h1,h2,h3⟩;have HB2:=Lib.hid h1;clear h1;replace hbp:=h3.cells hbp hne (by decide);have hA2:=hA1.trans h2;have HK2:=HK1.trans h3;clear h2 h3;clear c2 ;clear c3 ;clear c4 ;clear c5 ;clear c6 ;clear c7 ;clear c8 ;clear c9;have c2:w2.cell? ⟨w.heap.size,2,none⟩=some (.slice a len cap):=cell_of_row _ _ 2 _ _ _ hbp;have c3:w2.cell? ⟨w.heap.size,3,none⟩=some (.int .i64 ht):=cell_of_row _ _ 3 _ _ _ hbp;have c4:w2.cell? ⟨w.heap.size,4,none⟩=some (.int .i64 hv):=cell_of_row _ _ 4 _ _ _ hbp;have c5:w2.cell? ⟨w.heap.size,5,none⟩=some (.int .i64 hc):=cell_of_row _ _ 5 _ _ _ hbp;have c6:w2.cell? ⟨w.heap.size,6,none⟩=some (.int .i64 i):=cell_of_row _ _ 6 _ _ _ hbp;have c7:w2.cell? ⟨w.heap.size,7,none⟩=some (.int .i64 t):=cell_of_row _ _ 7 _ _ _ hbp;have c8:w2.cell? ⟨w.heap.size,8,none⟩=some (.bool false):=cell_of_row _ _ 8 _ _ _ hbp;have c9:w2.cell? ⟨w.heap.size,9,none⟩=some (.bool true):=cell_of_row _ _ 9 _ _ _ hbp))
    | (go_at_call 85;((with_reducible refine (puts1 B b _ _ (by omega) _ _ HB2.out (HL2.out _ _ (by simp) (by simp)) (Nat.le_trans hBw hA2.size) rfl).mono ?_);rintro e w3 ⟨rfl,h1,h2,h3⟩;have HB3:=Lib.hid h1;clear h1;replace hbp:=h3.cells hbp hne (by decide);have hA3:=hA2.trans h2;have HK3:=HK2.trans h3;clear h2 h3;clear c2 ;clear c3 ;clear c4 ;clear c5 ;clear c6 ;clear c7 ;clear c8 ;clear c9;have c2:w3.cell? ⟨w.heap.size,2,none⟩=some (.slice a len cap):=cell_of_row _ _ 2 _ _ _ hbp;have c3:w3.cell? ⟨w.heap.size,3,none⟩=some (.int .i64 ht):=cell_of_row _ _ 3 _ _ _ hbp;have c4:w3.cell? ⟨w.heap.size,4,none⟩=some (.int .i64 hv):=cell_of_row _ _ 4 _ _ _ hbp;have c5:w3.cell? ⟨w.heap.size,5,none⟩=some (.int .i64 hc):=cell_of_row _ _ 5 _ _ _ hbp;have c6:w3.cell? ⟨w.heap.size,6,none⟩=some (.int .i64 i):=cell_of_row _ _ 6 _ _ _ hbp;have c7:w3.cell? ⟨w.heap.size,7,none⟩=some (.int .i64 t):=cell_of_row _ _ 7 _ _ _ hbp;have c8:w3.cell? ⟨w.heap.size,8,none⟩=some (.bool false):=cell_of_row _ _ 8 _ _ _ hbp;have c9:w3.cell? ⟨w.heap.size,9,none⟩=some (.bool true):=cell_of_row _ _ 9 _ _ _ hbp)))
   go_end0
   refine ⟨rfl,?_,hA3,HK3⟩
   rw [show fwdN ⟨g,k,a,len,cap,ht,hv,hc,i,t,false,true⟩=(([2] ++ [ht,hv,hc]) ++ [(len:Int)]) by simp [fwdN,flagN]]
   simp only [putL_app,← List.append_assoc]
   exact HB3.out
 | true =>
  cases hd with
  | false =>
   have hA0:Below B w (w.alloc (.cells #[.int .i64 g,.int .i64 k,.slice a len cap,.int .i64 ht,.int .i64 hv,.int .i64 hc,.int .i64 i,.int .i64 t,.bool true,.bool false] 37)):=(bel_alloc (Below.refl _ _) _).mono hBw
   have HK0:Keeps b w (w.alloc (.cells #[.int .i64 g,.int .i64 k,.slice a len cap,.int .i64 ht,.int .i64 hv,.int .i64 hc,.int .i64 i,.int .i64 t,.bool true,.bool false] 37)):=Keeps.below (bel_alloc (Below.refl _ _) _)
   have HB0:=Lib.hid (show Builds B b (Lib.byteCells bs) (w.alloc (.cells #[.int .i64 g,.int .i64 k,.slice a len cap,.int .i64 ht,.int .i64 hv,.int .i64 hc,.int .i64 i,.int .i64 t,.bool true,.bool false] 37)) from h.kept (bel_alloc (Below.refl _ _) _))
   have hbp:(w.alloc (.cells #[.int .i64 g,.int .i64 k,.slice a len cap,.int .i64 ht,.int .i64 hv,.int .i64 hc,.int .i64 i,.int .i64 t,.bool true,.bool false] 37)).heap[w.heap.size]?=some (.cells #[.int .i64 g,.int .i64 k,.slice a len cap,.int .i64 ht,.int .i64 hv,.int .i64 hc,.int .i64 i,.int .i64 t,.bool true,.bool false] 37 (0,0)):=World.alloc_heap_new w _
   go_enter Tryz.func87,Tryz.ntmps87
   go_wp2_with (first
    | (go_at_call 85;((with_reducible refine (puts1 B b _ _ (by decide) _ _ HB0.out hlen' (Nat.le_trans hBw hA0.size) (by simp)).mono ?_);rintro e w1 ⟨rfl,h1,h2,h3⟩;have HB1:=Lib.hid h1;clear h1;replace hbp:=h3.cells hbp hne (by decide);have hA1:=hA0.trans h2;have HK1:=HK0.trans h3;clear h2 h3;have c2:w1.cell? ⟨w.heap.size,2,none⟩=some (.slice a len cap):=cell_of_row _ _ 2 _ _ _ hbp;have c3:w1.cell? ⟨w.heap.size,3,none⟩=some (.int .i64 ht):=cell_of_row _ _ 3 _ _ _ hbp;have c4:w1.cell? ⟨w.heap.size,4,none⟩=some (.int .i64 hv):=cell_of_row _ _ 4 _ _ _ hbp;have c5:w1.cell? ⟨w.heap.size,5,none⟩=some (.int .i64 hc):=cell_of_row _ _ 5 _ _ _ hbp;have c6:w1.cell? ⟨w.heap.size,6,none⟩=some (.int .i64 i):=cell_of_row _ _ 6 _ _ _ hbp;have c7:w1.cell? ⟨w.heap.size,7,none⟩=some (.int .i64 t):=cell_of_row _ _ 7 _ _ _ hbp;have c8:w1.cell? ⟨w.heap.size,8,none⟩=some (.bool true):=cell_of_row _ _ 8 _ _ _ hbp;have c9:w1.cell? ⟨w.heap.size,9,none⟩=some (.bool false):=cell_of_row _ _ 9 _ _ _ hbp))
    | (go_at_call 85;((with_reducible refine (puts2 B b _ _ _ hi' ht' _ _ HB1.out (HL1.out _ (by simp)) (Nat.le_trans hBw hA1.size) rfl).mono ?_);rintro e w2 ⟨rfl,h1,h2,h3⟩;have HB2:=Lib.hid h1;clear h1;replace hbp:=h3.cells hbp hne (by decide);have hA2:=hA1.trans h2;have HK2:=HK1.trans h3;clear h2 h3;clear c2 ;clear c3 ;clear c4 ;clear c5 ;clear c6 ;clear c7 ;clear c8 ;clear c9;have c2:w2.cell? ⟨w.heap.size,2,none⟩=some (.slice a len cap):=cell_of_row _ _ 2 _ _ _ hbp;have c3:w2.cell? ⟨w.heap.size,3,none⟩=some (.int .i64 ht):=cell_of_row _ _ 3 _ _ _ hbp;have c4:w2.cell? ⟨w.heap.size,4,none⟩=some (.int .i64 hv):=cell_of_row _ _ 4 _ _ _ hbp;have c5:w2.cell? ⟨w.heap.size,5,none⟩=some (.int .i64 hc):=cell_of_row _ _ 5 _ _ _ hbp;have c6:w2.cell? ⟨w.heap.size,6,none⟩=some (.int .i64 i):=cell_of_row _ _ 6 _ _ _ hbp;have c7:w2.cell? ⟨w.heap.size,7,none⟩=some (.int .i64 t):=cell_of_row _ _ 7 _ _ _ hbp;have c8:w2.cell? ⟨w.heap.size,8,none⟩=some (.bool true):=cell_of_row _ _ 8 _ _ _ hbp;have c9:w2.cell? ⟨w.heap.size,9,none⟩=some (.bool false):=cell_of_row _ _ 9 _ _ _ hbp))
    | (go_at_call 85;((with_reducible refine (puts1 B b _ _ (by omega) _ _ HB2.out (HL2.out _ _ (by simp) (by simp)) (Nat.le_trans hBw hA2.size) rfl).mono ?_);rintro e w3 ⟨rfl,h1,h2,h3⟩;have HB3:=Lib.hid h1;clear h1;replace hbp:=h3.cells hbp hne (by decide);have hA3:=hA2.trans h2;have HK3:=HK2.trans h3;clear h2 h3;clear c2 ;clear c3 ;clear c4 ;clear c5 ;clear c6 ;clear c7 ;clear c8 ;clear c9;have c2:w3.cell? ⟨w.heap.size,2,none⟩=some (.slice a len cap):=cell_of_row _ _ 2 _ _ _ hbp;have c3:w3.cell? ⟨w.heap.size,3,none⟩=some (.int .i64 ht):=cell_of_row _ _ 3 _ _ _ hbp;have c4:w3.cell? ⟨w.heap.size,4,none⟩=some (.int .i64 hv):=cell_of_row _ _ 4 _ _ _ hbp;have c5:w3.cell? ⟨w.heap.size,5,none⟩=some (.int .i64 hc):=cell_of_row _ _ 5 _ _ _ hbp;have c6:w3.cell? ⟨w.heap.size,6,none⟩=some (.int .i64 i):=cell_of_row _ _ 6 _ _ _ hbp;have c7:w3.cell? ⟨w.heap.size,7,none⟩=some (.int .i64 t):=cell_of_row _ _ 7 _ _ _ hbp;have c8:w3.cell? ⟨w.heap.size,8,none⟩=some (.bool true):=cell_of_row _ _ 8 _ _ _ hbp;have c9:w3.cell? ⟨w.heap.size,9,none⟩=some (.bool false):=cell_of_row _ _ 9 _ _ _ hbp)))
   go_end0
   refine ⟨rfl,?_,hA3,HK3⟩
   rw [show fwdN ⟨g,k,a,len,cap,ht,hv,hc,i,t,true,false⟩=(([1] ++ [i,t]) ++ [(len:Int)]) by simp [fwdN,flagN]]
   simp only [putL_app,← List.append_assoc]
   exact HB3.out
  | true =>
   have hA0:Below B w (w.alloc (.cells #[.int .i64 g,.int .i64 k,.slice a len cap,.int .i64 ht,.int .i64 hv,.int .i64 hc,.int .i64 i,.int .i64 t,.bool true,.bool true] 37)):=(bel_alloc (Below.refl _ _) _).mono hBw
   have HK0:Keeps b w (w.alloc (.cells #[.int .i64 g,.int .i64 k,.slice a len cap,.int .i64 ht,.int .i64 hv,.int .i64 hc,.int .i64 i,.int .i64 t,.bool true,.bool true] 37)):=Keeps.below (bel_alloc (Below.refl _ _) _)
   have HB0:=Lib.hid (show Builds B b (Lib.byteCells bs) (w.alloc (.cells #[.int .i64 g,.int .i64 k,.slice a len cap,.int .i64 ht,.int .i64 hv,.int .i64 hc,.int .i64 i,.int .i64 t,.bool true,.bool true] 37)) from h.kept (bel_alloc (Below.refl _ _) _))
   have hbp:(w.alloc (.cells #[.int .i64 g,.int .i64 k,.slice a len cap,.int .i64 ht,.int .i64 hv,.int .i64 hc,.int .i64 i,.int .i64 t,.bool true,.bool true] 37)).heap[w.heap.size]?=some (.cells #[.int .i64 g,.int .i64 k,.slice a len cap,.int .i64 ht,.int .i64 hv,.int .i64 hc,.int .i64 i,.int .i64 t,.bool true,.bool true] 37 (0,0)):=World.alloc_heap_new w _
   go_enter Tryz.func87,Tryz.ntmps87
   go_wp2_with (first
    | (go_at_call 85;((with_reducible refine (puts1 B b _ _ (by decide) _ _ HB0.out hlen' (Nat.le_trans hBw hA0.size) (by simp)).mono ?_);rintro e w1 ⟨rfl,h1,h2,h3⟩;have HB1:=Lib.hid h1;clear h1;replace hbp:=h3.cells hbp hne (by decide);have hA1:=hA0.trans h2;have HK1:=HK0.trans h3;clear h2 h3;have c2:w1.cell? ⟨w.heap.size,2,none⟩=some (.slice a len cap):=cell_of_row _ _ 2 _ _ _ hbp;have c3:w1.cell? ⟨w.heap.size,3,none⟩=some (.int .i64 ht):=cell_of_row _ _ 3 _ _ _ hbp;have c4:w1.cell? ⟨w.heap.size,4,none⟩=some (.int .i64 hv):=cell_of_row _ _ 4 _ _ _ hbp;have c5:w1.cell? ⟨w.heap.size,5,none⟩=some (.int .i64 hc):=cell_of_row _ _ 5 _ _ _ hbp;have c6:w1.cell? ⟨w.heap.size,6,none⟩=some (.int .i64 i):=cell_of_row _ _ 6 _ _ _ hbp;have c7:w1.cell? ⟨w.heap.size,7,none⟩=some (.int .i64 t):=cell_of_row _ _ 7 _ _ _ hbp;have c8:w1.cell? ⟨w.heap.size,8,none⟩=some (.bool true):=cell_of_row _ _ 8 _ _ _ hbp;have c9:w1.cell? ⟨w.heap.size,9,none⟩=some (.bool true):=cell_of_row _ _ 9 _ _ _ hbp))
    | (go_at_call 85;((with_reducible refine (puts2 B b _ _ _ hi' ht' _ _ HB1.out (HL1.out _ (by simp)) (Nat.le_trans hBw hA1.size) rfl).mono ?_);rintro e w2 ⟨rfl,h1,h2,h3⟩;have HB2:=Lib.hid h1;clear h1;replace hbp:=h3.cells hbp hne (by decide);have hA2:=hA1.trans h2;have HK2:=HK1.trans h3;clear h2 h3;clear c2 ;clear c3 ;clear c4 ;clear c5 ;clear c6 ;clear c7 ;clear c8 ;clear c9;have c2:w2.cell? ⟨w.heap.size,2,none⟩=some (.slice a len cap):=cell_of_row _ _ 2 _ _ _ hbp;have c3:w2.cell? ⟨w.heap.size,3,none⟩=some (.int .i64 ht):=cell_of_row _ _ 3 _ _ _ hbp;have c4:w2.cell? ⟨w.heap.size,4,none⟩=some (.int .i64 hv):=cell_of_row _ _ 4 _ _ _ hbp;have c5:w2.cell? ⟨w.heap.size,5,none⟩=some (.int .i64 hc):=cell_of_row _ _ 5 _ _ _ hbp;have c6:w2.cell? ⟨w.heap.size,6,none⟩=some (.int .i64 i):=cell_of_row _ _ 6 _ _ _ hbp;have c7:w2.cell? ⟨w.heap.size,7,none⟩=some (.int .i64 t):=cell_of_row _ _ 7 _ _ _ hbp;have c8:w2.cell? ⟨w.heap.size,8,none⟩=some (.bool true):=cell_of_row _ _ 8 _ _ _ hbp;have c9:w2.cell? ⟨w.heap.size,9,none⟩=some (.bool true):=cell_of_row _ _ 9 _ _ _ hbp))
    | (go_at_call 86;((with_reducible refine (putHard_any B b _ _ _ h1' h2' h3' _ _ HB2.out (HL2.out _ _ (by simp) (by simp)) (Nat.le_trans hBw hA2.size)).mono ?_);rintro e w3 ⟨rfl,h1,h2,h3⟩;have HB3:=Lib.hid h1;clear h1;replace hbp:=h3.cells hbp hne (by decide);have hA3:=hA2.trans h2;have HK3:=HK2.trans h3;clear h2 h3;clear c2 ;clear c3 ;clear c4 ;clear c5 ;clear c6 ;clear c7 ;clear c8 ;clear c9;have c2:w3.cell? ⟨w.heap.size,2,none⟩=some (.slice a len cap):=cell_of_row _ _ 2 _ _ _ hbp;have c3:w3.cell? ⟨w.heap.size,3,none⟩=some (.int .i64 ht):=cell_of_row _ _ 3 _ _ _ hbp;have c4:w3.cell? ⟨w.heap.size,4,none⟩=some (.int .i64 hv):=cell_of_row _ _ 4 _ _ _ hbp;have c5:w3.cell? ⟨w.heap.size,5,none⟩=some (.int .i64 hc):=cell_of_row _ _ 5 _ _ _ hbp;have c6:w3.cell? ⟨w.heap.size,6,none⟩=some (.int .i64 i):=cell_of_row _ _ 6 _ _ _ hbp;have c7:w3.cell? ⟨w.heap.size,7,none⟩=some (.int .i64 t):=cell_of_row _ _ 7 _ _ _ hbp;have c8:w3.cell? ⟨w.heap.size,8,none⟩=some (.bool true):=cell_of_row _ _ 8 _ _ _ hbp;have c9:w3.cell? ⟨w.heap.size,9,none⟩=some (.bool true):=cell_of_row _ _ 9 _ _ _ hbp))
    | (go_at_call 85;((with_reducible refine (puts1 B b _ _ (by omega) _ _ HB3.out (HL3.out _ _ _ (by simp) (by simp) (by simp)) (Nat.le_trans hBw hA3.size) rfl).mono ?_);rintro e w4 ⟨rfl,h1,h2,h3⟩;have HB4:=Lib.hid h1;clear h1;replace hbp:=h3.cells hbp hne (by decide);have hA4:=hA3.trans h2;have HK4:=HK3.trans h3;clear h2 h3;clear c2 ;clear c3 ;clear c4 ;clear c5 ;clear c6 ;clear c7 ;clear c8 ;clear c9;have c2:w4.cell? ⟨w.heap.size,2,none⟩=some (.slice a len cap):=cell_of_row _ _ 2 _ _ _ hbp;have c3:w4.cell? ⟨w.heap.size,3,none⟩=some (.int .i64 ht):=cell_of_row _ _ 3 _ _ _ hbp;have c4:w4.cell? ⟨w.heap.size,4,none⟩=some (.int .i64 hv):=cell_of_row _ _ 4 _ _ _ hbp;have c5:w4.cell? ⟨w.heap.size,5,none⟩=some (.int .i64 hc):=cell_of_row _ _ 5 _ _ _ hbp;have c6:w4.cell? ⟨w.heap.size,6,none⟩=some (.int .i64 i):=cell_of_row _ _ 6 _ _ _ hbp;have c7:w4.cell? ⟨w.heap.size,7,none⟩=some (.int .i64 t):=cell_of_row _ _ 7 _ _ _ hbp;have c8:w4.cell? ⟨w.heap.size,8,none⟩=some (.bool true):=cell_of_row _ _ 8 _ _ _ hbp;have c9:w4.cell? ⟨w.heap.size,9,none⟩=some (.bool true):=cell_of_row _ _ 9 _ _ _ hbp)))
   go_end0
   refine ⟨rfl,?_,hA4,HK4⟩
   rw [show fwdN ⟨g,k,a,len,cap,ht,hv,hc,i,t,true,true⟩=((([3] ++ [i,t]) ++ [ht,hv,hc]) ++ [(len:Int)]) by simp [fwdN,flagN]]
   simp only [putL_app,← List.append_assoc]
   exact HB4.out

end Go.Proofs.YtpogklceaoiacaaGreat
