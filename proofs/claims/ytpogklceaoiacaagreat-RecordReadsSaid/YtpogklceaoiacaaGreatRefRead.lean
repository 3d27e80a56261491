/- The contract of the document's ReadPart: what part.Read tells. -/
import Derived.Test.YtpogklceaoiacaaGreatCurFwd
import Derived.Test.YtpogklceaoiacaaGreatRefIs6
import Derived.Test.YtpogklceaoiacaaGreatReadZ
import Derived.RegionTactic
namespace Go.Proofs.YtpogklceaoiacaaGreat
open Go.RowKit Go.Shelf
set_option linter.unusedVariables false
attribute [local go_sem] Oper.semAt_some wide_fn wide_round_fn

/-- The world behind which the kinds meet: the reader at b, the part at X, the result's cells at R. -/
structure MidC (w:World) (s:ByteArray) (b X:Nat) (P:PartC) (l:List EntryC) (st:RSt) (W:World):Prop where
 rd:CurAt b s st W
 part:W.heap[X]?=some (.cells P.arr 37 (0,0))
 res:W.heap[w.heap.size]?=some (.cells #[.int .i64 0,.int .i64 0,.slice none 0 0,.int .i64 0,.int .i64 0,.int .i64 0,.int .i64 0,.int .i64 0,.bool false,.bool false] 37 (0,0))
 ent:HasE W P l
 off:∀ k,inBlkE P.a P.len k→w.heap.size<k
 below:Below w.heap.size w W
 offb:∀ k,inBlkE P.a P.len k→k≠b
theorem MidC.cells {w:World} {s:ByteArray} {b X:Nat} {P:PartC} {l:List EntryC} {st:RSt} {W:World} (h:MidC w s b X P l st W) :
  W.cell? ⟨b,1,none⟩=some (.int .i64 st.at_)∧W.cell? ⟨b,2,none⟩=some (.int .i64 st.e)∧W.frozen? ⟨b,2,none⟩=false∧W.cell? ⟨X,0,none⟩=some (.int .i64 P.g)∧W.cell? ⟨X,1,none⟩=some (.int .i64 P.k)∧W.cell? ⟨X,2,none⟩=some (.slice P.a P.len P.cap)∧W.cell? ⟨X,3,none⟩=some (.int .i64 P.ht)∧W.cell? ⟨X,4,none⟩=some (.int .i64 P.hv)∧W.cell? ⟨X,5,none⟩=some (.int .i64 P.hc)∧W.cell? ⟨X,6,none⟩=some (.int .i64 P.i)∧W.cell? ⟨X,7,none⟩=some (.int .i64 P.t)∧W.cell? ⟨X,8,none⟩=some (.bool P.m)∧W.cell? ⟨X,9,none⟩=some (.bool P.h)∧W.cell? ⟨w.heap.size,0,none⟩=some (.int .i64 0)∧W.cell? ⟨w.heap.size,1,none⟩=some (.int .i64 0)∧W.cell? ⟨w.heap.size,2,none⟩=some (.slice none 0 0)∧W.cell? ⟨w.heap.size,3,none⟩=some (.int .i64 0)∧W.cell? ⟨w.heap.size,4,none⟩=some (.int .i64 0)∧W.cell? ⟨w.heap.size,5,none⟩=some (.int .i64 0)∧W.cell? ⟨w.heap.size,6,none⟩=some (.int .i64 0)∧W.cell? ⟨w.heap.size,7,none⟩=some (.int .i64 0)∧W.cell? ⟨w.heap.size,8,none⟩=some (.bool false)∧W.cell? ⟨w.heap.size,9,none⟩=some (.bool false)∧W.frozen? ⟨w.heap.size,0,none⟩=false∧W.frozen? ⟨w.heap.size,1,none⟩=false∧W.frozen? ⟨w.heap.size,2,none⟩=false∧W.frozen? ⟨w.heap.size,3,none⟩=false∧W.frozen? ⟨w.heap.size,4,none⟩=false∧W.frozen? ⟨w.heap.size,5,none⟩=false∧W.frozen? ⟨w.heap.size,6,none⟩=false∧W.frozen? ⟨w.heap.size,7,none⟩=false∧W.frozen? ⟨w.heap.size,8,none⟩=false∧W.frozen? ⟨w.heap.size,9,none⟩=false :=
 ⟨h.rd.cells.2.1,h.rd.cells.2.2.1,h.rd.cells.2.2.2.2,cell_of_row _ _ 0 _ _ _ h.part,cell_of_row _ _ 1 _ _ _ h.part,cell_of_row _ _ 2 _ _ _ h.part,cell_of_row _ _ 3 _ _ _ h.part,cell_of_row _ _ 4 _ _ _ h.part,cell_of_row _ _ 5 _ _ _ h.part,cell_of_row _ _ 6 _ _ _ h.part,cell_of_row _ _ 7 _ _ _ h.part,cell_of_row _ _ 8 _ _ _ h.part,cell_of_row _ _ 9 _ _ _ h.part,cell_of_row _ _ 0 _ _ _ h.res,cell_of_row _ _ 1 _ _ _ h.res,cell_of_row _ _ 2 _ _ _ h.res,cell_of_row _ _ 3 _ _ _ h.res,cell_of_row _ _ 4 _ _ _ h.res,cell_of_row _ _ 5 _ _ _ h.res,cell_of_row _ _ 6 _ _ _ h.res,cell_of_row _ _ 7 _ _ _ h.res,cell_of_row _ _ 8 _ _ _ h.res,cell_of_row _ _ 9 _ _ _ h.res,frozen_of_row _ _ 0 _ _ h.res,frozen_of_row _ _ 1 _ _ h.res,frozen_of_row _ _ 2 _ _ h.res,frozen_of_row _ _ 3 _ _ h.res,frozen_of_row _ _ 4 _ _ h.res,frozen_of_row _ _ 5 _ _ h.res,frozen_of_row _ _ 6 _ _ h.res,frozen_of_row _ _ 7 _ _ h.res,frozen_of_row _ _ 8 _ _ h.res,frozen_of_row _ _ 9 _ _ h.res⟩
theorem MidC.after {w:World} {s:ByteArray} {b X:Nat} {P:PartC} {l:List EntryC} {st:RSt} {W W':World} (h:MidC w s b X P l st W) (hB:Below W.heap.size W W'):MidC w s b X P l st W' :=
 ⟨h.rd.below hB,(hB.block _ (Array.getElem?_eq_some_iff.1 h.part).1).trans h.part,(hB.block _ (Array.getElem?_eq_some_iff.1 h.res).1).trans h.res,h.ent.below hB,h.off,h.below.trans (hB.mono h.below.size),h.offb⟩
theorem HasE.moved {W W':World} {P:PartC} {l:List EntryC} {b:Nat} (h:HasE W P l) (hne:∀ k,inBlkE P.a P.len k→k≠b) (hF:FrameT (fun k=>k=b) W W'):HasE W' P l:=by
 refine ⟨h.1,h.2.1,h.2.2.1,h.2.2.2.1,fun h0=>?_⟩
 obtain ⟨c,off,e,hlt,hc⟩:=h.2.2.2.2 h0
 refine ⟨c,off,e,Nat.lt_of_lt_of_le hlt hF.size,fun j hj=>?_⟩
 exact (World.cell?_of_block (w:=W) (hF.block c hlt (hne c ⟨c,off,e,h0,rfl⟩))).trans (hc j hj)


set_option maxRecDepth 100000 in
set_option maxHeartbeats 8000000 in
theorem refRead5_any (s:ByteArray) (hs:s.size<4611686018427387904) (w:World) (hk:(numM s (numM s ⟨0,0⟩).2).1=5) (he2:(numM s (numM s ⟨0,0⟩).2).2.e=0) :
  Calls Tryz.prog 36 #[.string s] w (ReadPost s w):=by
 have G1:=Lib.hid (fun W (hW:CurAt (w.heap.size+1) s ⟨0,0⟩ W)=>curNum_any (w.heap.size+1) s hs ⟨0,0⟩ (rst0_ok s) W hW)
 have G2:=Lib.hid (fun W (hW:CurAt (w.heap.size+1) s (numM s ⟨0,0⟩).2 W)=>curNum_any (w.heap.size+1) s hs (numM s ⟨0,0⟩).2 (numM_ok (rst0_ok s)) W hW)
 rw [hk] at G2
 replace G2:=Lib.hid (fun W (hW:CurAt (w.heap.size+1) s (numM s ⟨0,0⟩).2 W)=>(show CReads 35 #[.pointer (some ⟨w.heap.size+1,0,none⟩)] (w.heap.size+1) s W (.int .i64 5) (numM s (numM s ⟨0,0⟩).2).2 from G2.out W hW))
 have HNT:numTo s 6 (numM s ⟨0,0⟩).2=(numM s (numM s ⟨0,0⟩).2):=by unfold numTo;rw [if_neg (by rw [hk];decide)]
 have HQ:=Lib.hid (show rawM s=bodyM s (numM s ⟨0,0⟩).1 5 (numM s (numM s ⟨0,0⟩).2).2 by unfold rawM;rw [HNT,hk])
 have hok2:(numM s (numM s ⟨0,0⟩).2).2.ok s:=numM_ok (numM_ok (rst0_ok s))
 have GM0:=Lib.hid (fun W (hW:CurAt (w.heap.size+1) s (numM s (numM s ⟨0,0⟩).2).2 W)=>(show Calls Tryz.prog 61 #[.pointer (some ⟨w.heap.size+1,0,none⟩),.bool true] W (fun e w'=>e=.returned (.tuple #[])∧CurAt (w.heap.size+1) s (numM s (numM s ⟨0,0⟩).2).2 w'∧FrameT (fun k=>k=w.heap.size+1) W w') from by have:=curMust_any (w.heap.size+1) s (numM s (numM s ⟨0,0⟩).2).2 true W hW;simpa [mustM] using this))
 clear hk HNT
 have HZ:((w.alloc (.cells #[.int .i64 0,.int .i64 0,.slice none 0 0,.int .i64 0,.int .i64 0,.int .i64 0,.int .i64 0,.int .i64 0,.bool false,.bool false] 37)).alloc (.cells #[.string s,.int .i64 0,.int .i64 0] 68)).heap[w.heap.size+1]?=some (.cells #[.string s,.int .i64 0,.int .i64 0] 68 (0,0)):=by have:=World.alloc_heap_new (w.alloc (.cells #[.int .i64 0,.int .i64 0,.slice none 0 0,.int .i64 0,.int .i64 0,.int .i64 0,.int .i64 0,.int .i64 0,.bool false,.bool false] 37)) (.cells #[.string s,.int .i64 0,.int .i64 0] 68);rwa [World.size_alloc] at this
 have H0:CurAt (w.heap.size+1) s ⟨0,0⟩ ((w.alloc (.cells #[.int .i64 0,.int .i64 0,.slice none 0 0,.int .i64 0,.int .i64 0,.int .i64 0,.int .i64 0,.int .i64 0,.bool false,.bool false] 37)).alloc (.cells #[.string s,.int .i64 0,.int .i64 0] 68)):=HZ
 clear HZ
 have hr0:((w.alloc (.cells #[.int .i64 0,.int .i64 0,.slice none 0 0,.int .i64 0,.int .i64 0,.int .i64 0,.int .i64 0,.int .i64 0,.bool false,.bool false] 37)).alloc (.cells #[.string s,.int .i64 0,.int .i64 0] 68)).heap[w.heap.size]?=some (.cells #[.int .i64 0,.int .i64 0,.slice none 0 0,.int .i64 0,.int .i64 0,.int .i64 0,.int .i64 0,.int .i64 0,.bool false,.bool false] 37 (0,0)):=((bel_alloc (Below.refl _ _) _).block _ (by simp)).trans (World.alloc_heap_new w _)
 have hBz:Below w.heap.size w ((w.alloc (.cells #[.int .i64 0,.int .i64 0,.slice none 0 0,.int .i64 0,.int .i64 0,.int .i64 0,.int .i64 0,.int .i64 0,.bool false,.bool false] 37)).alloc (.cells #[.string s,.int .i64 0,.int .i64 0] 68)):=bel_alloc (bel_alloc (Below.refl _ _) _) _
 have hBs:w.heap.size<((w.alloc (.cells #[.int .i64 0,.int .i64 0,.slice none 0 0,.int .i64 0,.int .i64 0,.int .i64 0,.int .i64 0,.int .i64 0,.bool false,.bool false] 37)).alloc (.cells #[.string s,.int .i64 0,.int .i64 0] 68)).heap.size:=by simp;omega
 have hBt:w.heap.size+2≤((w.alloc (.cells #[.int .i64 0,.int .i64 0,.slice none 0 0,.int .i64 0,.int .i64 0,.int .i64 0,.int .i64 0,.int .i64 0,.bool false,.bool false] 37)).alloc (.cells #[.string s,.int .i64 0,.int .i64 0] 68)).heap.size:=by simp
 have HQ2:=Lib.hid (show bodyM s (numM s ⟨0,0⟩).1 5 (numM s (numM s ⟨0,0⟩).2).2=(⟨(numM s ⟨0,0⟩).1,5,[],0,0,0,0,0,false,false⟩,(numM s (numM s ⟨0,0⟩).2).2) from by simp [bodyM])
 rw [HQ2.out] at HQ
 clear HQ2
 generalize (numM s (numM s ⟨0,0⟩).2)=R2 at *
 generalize (numM s ⟨0,0⟩)=R1 at *
 obtain ⟨n1,s1⟩:=R1
 obtain ⟨m2,s2⟩:=R2
 obtain ⟨aF,eF⟩:=s2
 dsimp only at *
 by_cases he:eF=0
 ·subst he
  by_cases hI:isB (⟨n1,5,none,0,0,0,0,0,0,0,false,false⟩:PartC) []=true
  ·have HE:=Lib.hid (show errM (rawM s)=0 by rw [errM,HQ.out];simp only [ReadC.part];rw [if_neg (by rintro ⟨_,h⟩;exact absurd (hI.symm.trans h) (by decide))])
   have GI:=Lib.hid (fun W (hE:HasE W (⟨n1,5,none,0,0,0,0,0,0,0,false,false⟩:PartC) [])=>(show Gives Tryz.prog 28 #[(⟨n1,5,none,0,0,0,0,0,0,0,false,false⟩:PartC).val] W (.bool true) from by have:=refIs_any (⟨n1,5,none,0,0,0,0,0,0,0,false,false⟩:PartC) [] W hE;rwa [show isB (⟨n1,5,none,0,0,0,0,0,0,0,false,false⟩:PartC) []=true from hI] at this))
   dsimp only [PartC.val] at GI
   have GM:=Lib.hid (fun W (hW:CurAt (w.heap.size+1) s ⟨aF,0⟩ W)=>(show Calls Tryz.prog 61 #[.pointer (some ⟨w.heap.size+1,0,none⟩),.bool true] W (fun e w'=>e=.returned (.tuple #[])∧CurAt (w.heap.size+1) s ⟨aF,0⟩ w'∧FrameT (fun k=>k=w.heap.size+1) W w') from by have:=curMust_any (w.heap.size+1) s ⟨aF,0⟩ true W hW;simpa [mustM] using this))
   clear hI
   go_enter Tryz.func36,Tryz.ntmps36
   go_wp2_with (first
    | (go_at_call 35;((with_reducible refine (G1.out _ H0).mono ?_);rintro e w1 ⟨rfl,H1,hF⟩;have hr1:=hF.get hr0 (by omega);have hs1:=Nat.le_trans hBt hF.size;have hB1:=hBz.trans (hF.toBelow (Nat.le_of_lt hBs) (fun k hk=>by omega));clear hF))
    | (go_at_call 35;((with_reducible refine (G2.out _ H1).mono ?_);rintro e w2 ⟨rfl,H2,hF⟩;have hX:w2.heap.size≠w.heap.size+1:=(by have:=hF.size;omega);have hXr:w2.heap.size≠w.heap.size:=(by have:=hF.size;omega);have hr2:=hF.get hr1 (by omega);have hB2:=hB1.trans (hF.toBelow hB1.size (fun k hk=>by omega));clear hF;have hA2:=bel_alloc (Below.refl w2.heap.size w2) (.cells #[.int .i64 n1,.int .i64 5,.slice none 0 0,.int .i64 0,.int .i64 0,.int .i64 0,.int .i64 0,.int .i64 0,.bool false,.bool false] 37);have H2a:=H2.below hA2;have hr2a:=(hA2.block _ (heap_ltP hr2)).trans hr2;have hp2a:=World.alloc_heap_new w2 (.cells #[.int .i64 n1,.int .i64 5,.slice none 0 0,.int .i64 0,.int .i64 0,.int .i64 0,.int .i64 0,.int .i64 0,.bool false,.bool false] 37);have hB2a:=hB2.trans (hA2.mono hB2.size);have hs2:=hB2.size;have y0:(w2.alloc (.cells #[.int .i64 n1,.int .i64 5,.slice none 0 0,.int .i64 0,.int .i64 0,.int .i64 0,.int .i64 0,.int .i64 0,.bool false,.bool false] 37)).cell? ⟨w2.heap.size,0,none⟩=some (.int .i64 n1):=cell_of_row _ _ 0 _ _ _ hp2a;have y1:(w2.alloc (.cells #[.int .i64 n1,.int .i64 5,.slice none 0 0,.int .i64 0,.int .i64 0,.int .i64 0,.int .i64 0,.int .i64 0,.bool false,.bool false] 37)).cell? ⟨w2.heap.size,1,none⟩=some (.int .i64 5):=cell_of_row _ _ 1 _ _ _ hp2a;clear hA2))
    | (go_at_call 61;((with_reducible refine (GM0.out _ H2a).mono ?_);rintro e w3 ⟨rfl,H3,hF⟩;have hr3:=hF.get hr2a (by omega);have hp3:=hF.get hp2a hX;have hB3:=hB2a.trans (hF.toBelow hB2a.size (fun k hk=>by omega));have hX3:=heap_ltP hp3;clear hF y0 y1;obtain ⟨_,e1,e2,_,_⟩:=H3.cells;dsimp only at e1 e2;have yk:w3.cell? ⟨w2.heap.size,1,none⟩=some (.int .i64 5):=cell_of_row _ _ 1 _ _ _ hp3;have HM:=Lib.hid (show MidC w s (w.heap.size+1) w2.heap.size (⟨n1,5,none,0,0,0,0,0,0,0,false,false⟩:PartC) [] ⟨aF,0⟩ w3 from ⟨H3,hp3,hr3,hasE_nil rfl rfl,fun k h=>absurd h inBlkE_nil,hB3,fun k h=>absurd h inBlkE_nil⟩);obtain ⟨m1,m2,mf,y0,y1,y2,y3,y4,y5,y6,y7,y8,y9,r0,r1,r2,r3,r4,r5,r6,r7,r8,r9,v0,v1,v2,v3,v4,v5,v6,v7,v8,v9⟩:=HM.out.cells;dsimp only at m1 m2 y0 y1 y2 y3 y4 y5 y6 y7 y8 y9))
    | (go_at_call 28;((with_reducible refine (GI.out _ HM.out.ent).mono ?_);rintro e w9 ⟨rfl,hB9⟩;have HM9:=Lib.hid (HM.out.after hB9);clear hB9 y0 y1 y2 y3 y4 y5 y6 y7 y8 y9 r0 r1 r2 r3 r4 r5 r6 r7 r8 r9 v0 v1 v2 v3 v4 v5 v6 v7 v8 v9 m1 m2 mf))
    | (go_at_call 61;((with_reducible refine (GM.out _ HM9.out.rd).mono ?_);rintro e w10 ⟨rfl,H10,hF⟩;have hX9:=heap_ltP HM9.out.part;have hr10:=hF.get HM9.out.res (by omega);have hp10:=hF.get HM9.out.part hX;have hB10:=HM9.out.below.trans (hF.toBelow HM9.out.below.size (fun k hk=>by omega));have HM10:=Lib.hid (show MidC w s (w.heap.size+1) w2.heap.size _ _ ⟨aF,0⟩ w10 from ⟨H10,hp10,hr10,HM9.out.ent.moved HM9.out.offb hF,HM9.out.off,hB10,HM9.out.offb⟩);clear hF hr10 hp10 hB10;obtain ⟨m1,m2,mf,y0,y1,y2,y3,y4,y5,y6,y7,y8,y9,r0,r1,r2,r3,r4,r5,r6,r7,r8,r9,v0,v1,v2,v3,v4,v5,v6,v7,v8,v9⟩:=HM10.out.cells;dsimp only at m1 m2 y0 y1 y2 y3 y4 y5 y6 y7 y8 y9)))
   go_region
   go_wp2
   have hq:=st10_block (W:=w10) HM10.out.res (.int .i64 n1) (.int .i64 5) (.slice none 0 0) (.int .i64 0) (.int .i64 0) (.int .i64 0) (.int .i64 0) (.int .i64 0) (.bool false) (.bool false)
   have hBF:=Lib.hid ((st10_below HM10.out.below (Nat.le_refl _) (.int .i64 n1) (.int .i64 5) (.slice none 0 0) (.int .i64 0) (.int .i64 0) (.int .i64 0) (.int .i64 0) (.int .i64 0) (.bool false) (.bool false)).drew)
   have hEF:=Lib.hid (HasE.put10 (R:=w.heap.size) HM10.out.ent HM10.out.off (.int .i64 n1) (.int .i64 5) (.slice none 0 0) (.int .i64 0) (.int .i64 0) (.int .i64 0) (.int .i64 0) (.int .i64 0) (.bool false) (.bool false))
   have hOF:=Lib.hid HM10.out.off
   simp only [st10] at hq hBF hEF
   obtain ⟨c0,c1,c2,c3,c4,c5,c6,c7,c8,c9⟩:=arr10q hq
   refine bodyPost_ret (v:=.tuple #[.agg #[.int .i64 n1,.int .i64 5,.slice none 0 0,.int .i64 0,.int .i64 0,.int .i64 0,.int .i64 0,.int .i64 0,.bool false,.bool false],.int .i64 aF,.int .i64 0]) (by simp [results,Tryz.results36,go_sem,c0,c1,c2,c3,c4,c5,c6,c7,c8,c9]) rfl ?_
   exact readPost_ok (⟨n1,5,none,0,0,0,0,0,0,0,false,false⟩:PartC) [] aF HE.out (by rw [HQ.out];rfl) (by rw [HQ.out]) (by rw [HQ.out]) rfl hEF.out hBF.out hOF.out
  ·have hI:=Bool.eq_false_iff.2 hI
   have HE:=Lib.hid (show errM (rawM s)=11 by rw [errM,HQ.out];simp only [ReadC.part];rw [if_pos ⟨trivial,hI⟩])
   have GI:=Lib.hid (fun W (hE:HasE W (⟨n1,5,none,0,0,0,0,0,0,0,false,false⟩:PartC) [])=>(show Gives Tryz.prog 28 #[(⟨n1,5,none,0,0,0,0,0,0,0,false,false⟩:PartC).val] W (.bool false) from by have:=refIs_any (⟨n1,5,none,0,0,0,0,0,0,0,false,false⟩:PartC) [] W hE;rwa [show isB (⟨n1,5,none,0,0,0,0,0,0,0,false,false⟩:PartC) []=false from hI] at this))
   dsimp only [PartC.val] at GI
   have GM:=Lib.hid (fun W (hW:CurAt (w.heap.size+1) s ⟨aF,0⟩ W)=>(show Calls Tryz.prog 61 #[.pointer (some ⟨w.heap.size+1,0,none⟩),.bool false] W (fun e w'=>e=.returned (.tuple #[])∧CurAt (w.heap.size+1) s ⟨aF,11⟩ w'∧FrameT (fun k=>k=w.heap.size+1) W w') from by have:=curMust_any (w.heap.size+1) s ⟨aF,0⟩ false W hW;simpa [mustM] using this))
   clear hI
   go_enter Tryz.func36,Tryz.ntmps36
   go_wp2_with (first
    | (go_at_call 35;((with_reducible refine (G1.out _ H0).mono ?_);rintro e w1 ⟨rfl,H1,hF⟩;have hr1:=hF.get hr0 (by omega);have hs1:=Nat.le_trans hBt hF.size;have hB1:=hBz.trans (hF.toBelow (Nat.le_of_lt hBs) (fun k hk=>by omega));clear hF))
    | (go_at_call 35;((with_reducible refine (G2.out _ H1).mono ?_);rintro e w2 ⟨rfl,H2,hF⟩;have hX:w2.heap.size≠w.heap.size+1:=(by have:=hF.size;omega);have hXr:w2.heap.size≠w.heap.size:=(by have:=hF.size;omega);have hr2:=hF.get hr1 (by omega);have hB2:=hB1.trans (hF.toBelow hB1.size (fun k hk=>by omega));clear hF;have hA2:=bel_alloc (Below.refl w2.heap.size w2) (.cells #[.int .i64 n1,.int .i64 5,.slice none 0 0,.int .i64 0,.int .i64 0,.int .i64 0,.int .i64 0,.int .i64 0,.bool false,.bool false] 37);have H2a:=H2.below hA2;have hr2a:=(hA2.block _ (heap_ltP hr2)).trans hr2;have hp2a:=World.alloc_heap_new w2 (.cells #[.int .i64 n1,.int .i64 5,.slice none 0 0,.int .i64 0,.int .i64 0,.int .i64 0,.int .i64 0,.int .i64 0,.bool false,.bool false] 37);have hB2a:=hB2.trans (hA2.mono hB2.size);have hs2:=hB2.size;have y0:(w2.alloc (.cells #[.int .i64 n1,.int .i64 5,.slice none 0 0,.int .i64 0,.int .i64 0,.int .i64 0,.int .i64 0,.int .i64 0,.bool false,.bool false] 37)).cell? ⟨w2.heap.size,0,none⟩=some (.int .i64 n1):=cell_of_row _ _ 0 _ _ _ hp2a;have y1:(w2.alloc (.cells #[.int .i64 n1,.int .i64 5,.slice none 0 0,.int .i64 0,.int .i64 0,.int .i64 0,.int .i64 0,.int .i64 0,.bool false,.bool false] 37)).cell? ⟨w2.heap.size,1,none⟩=some (.int .i64 5):=cell_of_row _ _ 1 _ _ _ hp2a;clear hA2))
    | (go_at_call 61;((with_reducible refine (GM0.out _ H2a).mono ?_);rintro e w3 ⟨rfl,H3,hF⟩;have hr3:=hF.get hr2a (by omega);have hp3:=hF.get hp2a hX;have hB3:=hB2a.trans (hF.toBelow hB2a.size (fun k hk=>by omega));have hX3:=heap_ltP hp3;clear hF y0 y1;obtain ⟨_,e1,e2,_,_⟩:=H3.cells;dsimp only at e1 e2;have yk:w3.cell? ⟨w2.heap.size,1,none⟩=some (.int .i64 5):=cell_of_row _ _ 1 _ _ _ hp3;have HM:=Lib.hid (show MidC w s (w.heap.size+1) w2.heap.size (⟨n1,5,none,0,0,0,0,0,0,0,false,false⟩:PartC) [] ⟨aF,0⟩ w3 from ⟨H3,hp3,hr3,hasE_nil rfl rfl,fun k h=>absurd h inBlkE_nil,hB3,fun k h=>absurd h inBlkE_nil⟩);obtain ⟨m1,m2,mf,y0,y1,y2,y3,y4,y5,y6,y7,y8,y9,r0,r1,r2,r3,r4,r5,r6,r7,r8,r9,v0,v1,v2,v3,v4,v5,v6,v7,v8,v9⟩:=HM.out.cells;dsimp only at m1 m2 y0 y1 y2 y3 y4 y5 y6 y7 y8 y9))
    | (go_at_call 28;((with_reducible refine (GI.out _ HM.out.ent).mono ?_);rintro e w9 ⟨rfl,hB9⟩;have HM9:=Lib.hid (HM.out.after hB9);clear hB9 y0 y1 y2 y3 y4 y5 y6 y7 y8 y9 r0 r1 r2 r3 r4 r5 r6 r7 r8 r9 v0 v1 v2 v3 v4 v5 v6 v7 v8 v9 m1 m2 mf))
    | (go_at_call 61;((with_reducible refine (GM.out _ HM9.out.rd).mono ?_);rintro e w10 ⟨rfl,H10,hF⟩;have hX9:=heap_ltP HM9.out.part;have hr10:=hF.get HM9.out.res (by omega);have hp10:=hF.get HM9.out.part hX;have hB10:=HM9.out.below.trans (hF.toBelow HM9.out.below.size (fun k hk=>by omega));have HM10:=Lib.hid (show MidC w s (w.heap.size+1) w2.heap.size _ _ ⟨aF,11⟩ w10 from ⟨H10,hp10,hr10,HM9.out.ent.moved HM9.out.offb hF,HM9.out.off,hB10,HM9.out.offb⟩);clear hF hr10 hp10 hB10;obtain ⟨m1,m2,mf,y0,y1,y2,y3,y4,y5,y6,y7,y8,y9,r0,r1,r2,r3,r4,r5,r6,r7,r8,r9,v0,v1,v2,v3,v4,v5,v6,v7,v8,v9⟩:=HM10.out.cells;dsimp only at m1 m2 y0 y1 y2 y3 y4 y5 y6 y7 y8 y9)))
   go_region
   go_wp2
   have hq:=st10_block (W:=w10) HM10.out.res (.int .i64 0) (.int .i64 0) (.slice none 0 0) (.int .i64 0) (.int .i64 0) (.int .i64 0) (.int .i64 0) (.int .i64 0) (.bool false) (.bool false)
   have hBF:=Lib.hid ((st10_below HM10.out.below (Nat.le_refl _) (.int .i64 0) (.int .i64 0) (.slice none 0 0) (.int .i64 0) (.int .i64 0) (.int .i64 0) (.int .i64 0) (.int .i64 0) (.bool false) (.bool false)).drew)
   simp only [st10] at hq hBF
   obtain ⟨c0,c1,c2,c3,c4,c5,c6,c7,c8,c9⟩:=arr10q hq
   refine bodyPost_ret (v:=.tuple #[.agg #[.int .i64 0,.int .i64 0,.slice none 0 0,.int .i64 0,.int .i64 0,.int .i64 0,.int .i64 0,.int .i64 0,.bool false,.bool false],.int .i64 0,.int .i64 11]) (by simp [results,Tryz.results36,go_sem,c0,c1,c2,c3,c4,c5,c6,c7,c8,c9]) rfl ?_
   exact readPost_err 11 HE.out (by decide) rfl hBF.out
 ·exact absurd he2 he

set_option maxRecDepth 100000 in
set_option maxHeartbeats 8000000 in
theorem refRead2_any (s:ByteArray) (hs:s.size<4611686018427387904) (w:World) (hk:(numM s (numM s ⟨0,0⟩).2).1=2) (he2:(numM s (numM s ⟨0,0⟩).2).2.e=0) :
  Calls Tryz.prog 36 #[.string s] w (ReadPost s w):=by
 have G1:=Lib.hid (fun W (hW:CurAt (w.heap.size+1) s ⟨0,0⟩ W)=>curNum_any (w.heap.size+1) s hs ⟨0,0⟩ (rst0_ok s) W hW)
 have G2:=Lib.hid (fun W (hW:CurAt (w.heap.size+1) s (numM s ⟨0,0⟩).2 W)=>curNum_any (w.heap.size+1) s hs (numM s ⟨0,0⟩).2 (numM_ok (rst0_ok s)) W hW)
 rw [hk] at G2
 replace G2:=Lib.hid (fun W (hW:CurAt (w.heap.size+1) s (numM s ⟨0,0⟩).2 W)=>(show CReads 35 #[.pointer (some ⟨w.heap.size+1,0,none⟩)] (w.heap.size+1) s W (.int .i64 2) (numM s (numM s ⟨0,0⟩).2).2 from G2.out W hW))
 have HNT:numTo s 6 (numM s ⟨0,0⟩).2=(numM s (numM s ⟨0,0⟩).2):=by unfold numTo;rw [if_neg (by rw [hk];decide)]
 have HQ:=Lib.hid (show rawM s=bodyM s (numM s ⟨0,0⟩).1 2 (numM s (numM s ⟨0,0⟩).2).2 by unfold rawM;rw [HNT,hk])
 have hok2:(numM s (numM s ⟨0,0⟩).2).2.ok s:=numM_ok (numM_ok (rst0_ok s))
 have GM0:=Lib.hid (fun W (hW:CurAt (w.heap.size+1) s (numM s (numM s ⟨0,0⟩).2).2 W)=>(show Calls Tryz.prog 61 #[.pointer (some ⟨w.heap.size+1,0,none⟩),.bool true] W (fun e w'=>e=.returned (.tuple #[])∧CurAt (w.heap.size+1) s (numM s (numM s ⟨0,0⟩).2).2 w'∧FrameT (fun k=>k=w.heap.size+1) W w') from by have:=curMust_any (w.heap.size+1) s (numM s (numM s ⟨0,0⟩).2).2 true W hW;simpa [mustM] using this))
 clear hk HNT
 have HZ:((w.alloc (.cells #[.int .i64 0,.int .i64 0,.slice none 0 0,.int .i64 0,.int .i64 0,.int .i64 0,.int .i64 0,.int .i64 0,.bool false,.bool false] 37)).alloc (.cells #[.string s,.int .i64 0,.int .i64 0] 68)).heap[w.heap.size+1]?=some (.cells #[.string s,.int .i64 0,.int .i64 0] 68 (0,0)):=by have:=World.alloc_heap_new (w.alloc (.cells #[.int .i64 0,.int .i64 0,.slice none 0 0,.int .i64 0,.int .i64 0,.int .i64 0,.int .i64 0,.int .i64 0,.bool false,.bool false] 37)) (.cells #[.string s,.int .i64 0,.int .i64 0] 68);rwa [World.size_alloc] at this
 have H0:CurAt (w.heap.size+1) s ⟨0,0⟩ ((w.alloc (.cells #[.int .i64 0,.int .i64 0,.slice none 0 0,.int .i64 0,.int .i64 0,.int .i64 0,.int .i64 0,.int .i64 0,.bool false,.bool false] 37)).alloc (.cells #[.string s,.int .i64 0,.int .i64 0] 68)):=HZ
 clear HZ
 have hr0:((w.alloc (.cells #[.int .i64 0,.int .i64 0,.slice none 0 0,.int .i64 0,.int .i64 0,.int .i64 0,.int .i64 0,.int .i64 0,.bool false,.bool false] 37)).alloc (.cells #[.string s,.int .i64 0,.int .i64 0] 68)).heap[w.heap.size]?=some (.cells #[.int .i64 0,.int .i64 0,.slice none 0 0,.int .i64 0,.int .i64 0,.int .i64 0,.int .i64 0,.int .i64 0,.bool false,.bool false] 37 (0,0)):=((bel_alloc (Below.refl _ _) _).block _ (by simp)).trans (World.alloc_heap_new w _)
 have hBz:Below w.heap.size w ((w.alloc (.cells #[.int .i64 0,.int .i64 0,.slice none 0 0,.int .i64 0,.int .i64 0,.int .i64 0,.int .i64 0,.int .i64 0,.bool false,.bool false] 37)).alloc (.cells #[.string s,.int .i64 0,.int .i64 0] 68)):=bel_alloc (bel_alloc (Below.refl _ _) _) _
 have hBs:w.heap.size<((w.alloc (.cells #[.int .i64 0,.int .i64 0,.slice none 0 0,.int .i64 0,.int .i64 0,.int .i64 0,.int .i64 0,.int .i64 0,.bool false,.bool false] 37)).alloc (.cells #[.string s,.int .i64 0,.int .i64 0] 68)).heap.size:=by simp;omega
 have hBt:w.heap.size+2≤((w.alloc (.cells #[.int .i64 0,.int .i64 0,.slice none 0 0,.int .i64 0,.int .i64 0,.int .i64 0,.int .i64 0,.int .i64 0,.bool false,.bool false] 37)).alloc (.cells #[.string s,.int .i64 0,.int .i64 0] 68)).heap.size:=by simp
 have G3:=Lib.hid (fun W (hW:CurAt (w.heap.size+1) s (numM s (numM s ⟨0,0⟩).2).2 W)=>curHard_any (w.heap.size+1) s hs _ hok2 W hW)
 have HQ2:=Lib.hid (show bodyM s (numM s ⟨0,0⟩).1 2 (numM s (numM s ⟨0,0⟩).2).2=(⟨(numM s ⟨0,0⟩).1,2,[],(hardM s (numM s (numM s ⟨0,0⟩).2).2).1.1,(hardM s (numM s (numM s ⟨0,0⟩).2).2).1.2.1,(hardM s (numM s (numM s ⟨0,0⟩).2).2).1.2.2,0,0,false,false⟩,(hardM s (numM s (numM s ⟨0,0⟩).2).2).2) from by simp [bodyM])
 rw [HQ2.out] at HQ
 clear HQ2 hok2
 generalize hardM s (numM s (numM s ⟨0,0⟩).2).2=R3 at *
 generalize (numM s (numM s ⟨0,0⟩).2)=R2 at *
 generalize (numM s ⟨0,0⟩)=R1 at *
 obtain ⟨n1,s1⟩:=R1
 obtain ⟨m2,s2⟩:=R2
 obtain ⟨⟨a,v,c⟩,s3⟩:=R3
 obtain ⟨aF,eF⟩:=s3
 dsimp only at *
 obtain ⟨a2,q2⟩:=s2
 dsimp only at *
 subst he2

 by_cases he:eF=0
 ·subst he
  by_cases hI:isB (⟨n1,2,none,0,0,a,v,c,0,0,false,false⟩:PartC) []=true
  ·have HE:=Lib.hid (show errM (rawM s)=0 by rw [errM,HQ.out];simp only [ReadC.part];rw [if_neg (by rintro ⟨_,h⟩;exact absurd (hI.symm.trans h) (by decide))])
   have GI:=Lib.hid (fun W (hE:HasE W (⟨n1,2,none,0,0,a,v,c,0,0,false,false⟩:PartC) [])=>(show Gives Tryz.prog 28 #[(⟨n1,2,none,0,0,a,v,c,0,0,false,false⟩:PartC).val] W (.bool true) from by have:=refIs_any (⟨n1,2,none,0,0,a,v,c,0,0,false,false⟩:PartC) [] W hE;rwa [show isB (⟨n1,2,none,0,0,a,v,c,0,0,false,false⟩:PartC) []=true from hI] at this))
   dsimp only [PartC.val] at GI
   have GM:=Lib.hid (fun W (hW:CurAt (w.heap.size+1) s ⟨aF,0⟩ W)=>(show Calls Tryz.prog 61 #[.pointer (some ⟨w.heap.size+1,0,none⟩),.bool true] W (fun e w'=>e=.returned (.tuple #[])∧CurAt (w.heap.size+1) s ⟨aF,0⟩ w'∧FrameT (fun k=>k=w.heap.size+1) W w') from by have:=curMust_any (w.heap.size+1) s ⟨aF,0⟩ true W hW;simpa [mustM] using this))
   clear hI
   go_enter Tryz.func36,Tryz.ntmps36
   go_wp2_with (first
    | (go_at_call 35;((with_reducible refine (G1.out _ H0).mono ?_);rintro e w1 ⟨rfl,H1,hF⟩;have hr1:=hF.get hr0 (by omega);have hs1:=Nat.le_trans hBt hF.size;have hB1:=hBz.trans (hF.toBelow (Nat.le_of_lt hBs) (fun k hk=>by omega));clear hF))
    | (go_at_call 35;((with_reducible refine (G2.out _ H1).mono ?_);rintro e w2 ⟨rfl,H2,hF⟩;have hX:w2.heap.size≠w.heap.size+1:=(by have:=hF.size;omega);have hXr:w2.heap.size≠w.heap.size:=(by have:=hF.size;omega);have hr2:=hF.get hr1 (by omega);have hB2:=hB1.trans (hF.toBelow hB1.size (fun k hk=>by omega));clear hF;have hA2:=bel_alloc (Below.refl w2.heap.size w2) (.cells #[.int .i64 n1,.int .i64 2,.slice none 0 0,.int .i64 0,.int .i64 0,.int .i64 0,.int .i64 0,.int .i64 0,.bool false,.bool false] 37);have H2a:=H2.below hA2;have hr2a:=(hA2.block _ (heap_ltP hr2)).trans hr2;have hp2a:=World.alloc_heap_new w2 (.cells #[.int .i64 n1,.int .i64 2,.slice none 0 0,.int .i64 0,.int .i64 0,.int .i64 0,.int .i64 0,.int .i64 0,.bool false,.bool false] 37);have hB2a:=hB2.trans (hA2.mono hB2.size);have hs2:=hB2.size;have y0:(w2.alloc (.cells #[.int .i64 n1,.int .i64 2,.slice none 0 0,.int .i64 0,.int .i64 0,.int .i64 0,.int .i64 0,.int .i64 0,.bool false,.bool false] 37)).cell? ⟨w2.heap.size,0,none⟩=some (.int .i64 n1):=cell_of_row _ _ 0 _ _ _ hp2a;have y1:(w2.alloc (.cells #[.int .i64 n1,.int .i64 2,.slice none 0 0,.int .i64 0,.int .i64 0,.int .i64 0,.int .i64 0,.int .i64 0,.bool false,.bool false] 37)).cell? ⟨w2.heap.size,1,none⟩=some (.int .i64 2):=cell_of_row _ _ 1 _ _ _ hp2a;clear hA2))
    | (go_at_call 61;((with_reducible refine (GM0.out _ H2a).mono ?_);rintro e w3 ⟨rfl,H3,hF⟩;have hr3:=hF.get hr2a (by omega);have hp3:=hF.get hp2a hX;have hB3:=hB2a.trans (hF.toBelow hB2a.size (fun k hk=>by omega));have hX3:=heap_ltP hp3;clear hF y0 y1;obtain ⟨_,e1,e2,_,_⟩:=H3.cells;dsimp only at e1 e2;have yk:w3.cell? ⟨w2.heap.size,1,none⟩=some (.int .i64 2):=cell_of_row _ _ 1 _ _ _ hp3;skip))
    | (go_at_call 63;((with_reducible refine (G3.out _ H3).mono ?_);rintro e w4 ⟨rfl,H4,hF⟩;have hr4:=hF.get hr3 (by omega);have hp4:=hF.get hp3 hX;have hB4:=hB3.trans (hF.toBelow hB3.size (fun k hk=>by omega));clear hF;have p4f3:=frozen_of_row _ _ 3 _ _ hp4;have p4k3:w4.cell? ⟨w2.heap.size,3,none⟩=some (.int .i64 0):=cell_of_row _ _ 3 _ _ _ hp4;have p4f4:=frozen_of_row _ _ 4 _ _ hp4;have p4k4:w4.cell? ⟨w2.heap.size,4,none⟩=some (.int .i64 0):=cell_of_row _ _ 4 _ _ _ hp4;have p4f5:=frozen_of_row _ _ 5 _ _ hp4;have p4k5:w4.cell? ⟨w2.heap.size,5,none⟩=some (.int .i64 0):=cell_of_row _ _ 5 _ _ _ hp4;have hp4a:=Go.Joins.block_setCell (Go.Joins.block_setCell (Go.Joins.block_setCell (hp4) (.int .i64 a) (i:=3)) (.int .i64 v) (i:=4)) (.int .i64 c) (i:=5);simp only [List.setIfInBounds_toArray,List.set_cons_succ,List.set_cons_zero] at hp4a;have H4a:=(((H4).st (i:=3) (v:=.int .i64 a) (Ne.symm hX)).st (i:=4) (v:=.int .i64 v) (Ne.symm hX)).st (i:=5) (v:=.int .i64 c) (Ne.symm hX);have hr4a:=blk_st (i:=5) (v:=.int .i64 c) (blk_st (i:=4) (v:=.int .i64 v) (blk_st (i:=3) (v:=.int .i64 a) (hr4) (Ne.symm hXr)) (Ne.symm hXr)) (Ne.symm hXr);have hB4a:=(((hB4).setCell (p:=⟨w2.heap.size,3,none⟩) (show w.heap.size≤w2.heap.size by omega) (.int .i64 a)).setCell (p:=⟨w2.heap.size,4,none⟩) (show w.heap.size≤w2.heap.size by omega) (.int .i64 v)).setCell (p:=⟨w2.heap.size,5,none⟩) (show w.heap.size≤w2.heap.size by omega) (.int .i64 c);have HM:=Lib.hid (show MidC w s (w.heap.size+1) w2.heap.size (⟨n1,2,none,0,0,a,v,c,0,0,false,false⟩:PartC) [] ⟨aF,0⟩ (((w4.setCell ⟨w2.heap.size,3,none⟩ (.int .i64 a)).setCell ⟨w2.heap.size,4,none⟩ (.int .i64 v)).setCell ⟨w2.heap.size,5,none⟩ (.int .i64 c)) from ⟨H4a,hp4a,hr4a,hasE_nil rfl rfl,fun k h=>absurd h inBlkE_nil,hB4a,fun k h=>absurd h inBlkE_nil⟩);obtain ⟨m1,m2,mf,y0,y1,y2,y3,y4,y5,y6,y7,y8,y9,r0,r1,r2,r3,r4,r5,r6,r7,r8,r9,v0,v1,v2,v3,v4,v5,v6,v7,v8,v9⟩:=HM.out.cells;dsimp only at m1 m2 y0 y1 y2 y3 y4 y5 y6 y7 y8 y9))
    | (go_at_call 28;((with_reducible refine (GI.out _ HM.out.ent).mono ?_);rintro e w9 ⟨rfl,hB9⟩;have HM9:=Lib.hid (HM.out.after hB9);clear hB9 y0 y1 y2 y3 y4 y5 y6 y7 y8 y9 r0 r1 r2 r3 r4 r5 r6 r7 r8 r9 v0 v1 v2 v3 v4 v5 v6 v7 v8 v9 m1 m2 mf))
    | (go_at_call 61;((with_reducible refine (GM.out _ HM9.out.rd).mono ?_);rintro e w10 ⟨rfl,H10,hF⟩;have hX9:=heap_ltP HM9.out.part;have hr10:=hF.get HM9.out.res (by omega);have hp10:=hF.get HM9.out.part hX;have hB10:=HM9.out.below.trans (hF.toBelow HM9.out.below.size (fun k hk=>by omega));have HM10:=Lib.hid (show MidC w s (w.heap.size+1) w2.heap.size _ _ ⟨aF,0⟩ w10 from ⟨H10,hp10,hr10,HM9.out.ent.moved HM9.out.offb hF,HM9.out.off,hB10,HM9.out.offb⟩);clear hF hr10 hp10 hB10;obtain ⟨m1,m2,mf,y0,y1,y2,y3,y4,y5,y6,y7,y8,y9,r0,r1,r2,r3,r4,r5,r6,r7,r8,r9,v0,v1,v2,v3,v4,v5,v6,v7,v8,v9⟩:=HM10.out.cells;dsimp only at m1 m2 y0 y1 y2 y3 y4 y5 y6 y7 y8 y9)))
   go_region
   go_wp2
   have hq:=st10_block (W:=w10) HM10.out.res (.int .i64 n1) (.int .i64 2) (.slice none 0 0) (.int .i64 a) (.int .i64 v) (.int .i64 c) (.int .i64 0) (.int .i64 0) (.bool false) (.bool false)
   have hBF:=Lib.hid ((st10_below HM10.out.below (Nat.le_refl _) (.int .i64 n1) (.int .i64 2) (.slice none 0 0) (.int .i64 a) (.int .i64 v) (.int .i64 c) (.int .i64 0) (.int .i64 0) (.bool false) (.bool false)).drew)
   have hEF:=Lib.hid (HasE.put10 (R:=w.heap.size) HM10.out.ent HM10.out.off (.int .i64 n1) (.int .i64 2) (.slice none 0 0) (.int .i64 a) (.int .i64 v) (.int .i64 c) (.int .i64 0) (.int .i64 0) (.bool false) (.bool false))
   have hOF:=Lib.hid HM10.out.off
   simp only [st10] at hq hBF hEF
   obtain ⟨c0,c1,c2,c3,c4,c5,c6,c7,c8,c9⟩:=arr10q hq
   refine bodyPost_ret (v:=.tuple #[.agg #[.int .i64 n1,.int .i64 2,.slice none 0 0,.int .i64 a,.int .i64 v,.int .i64 c,.int .i64 0,.int .i64 0,.bool false,.bool false],.int .i64 aF,.int .i64 0]) (by simp [results,Tryz.results36,go_sem,c0,c1,c2,c3,c4,c5,c6,c7,c8,c9]) rfl ?_
   exact readPost_ok (⟨n1,2,none,0,0,a,v,c,0,0,false,false⟩:PartC) [] aF HE.out (by rw [HQ.out];rfl) (by rw [HQ.out]) (by rw [HQ.out]) rfl hEF.out hBF.out hOF.out
  ·have hI:=Bool.eq_false_iff.2 hI
   have HE:=Lib.hid (show errM (rawM s)=11 by rw [errM,HQ.out];simp only [ReadC.part];rw [if_pos ⟨trivial,hI⟩])
   have GI:=Lib.hid (fun W (hE:HasE W (⟨n1,2,none,0,0,a,v,c,0,0,false,false⟩:PartC) [])=>(show Gives Tryz.prog 28 #[(⟨n1,2,none,0,0,a,v,c,0,0,false,false⟩:PartC).val] W (.bool false) from by have:=refIs_any (⟨n1,2,none,0,0,a,v,c,0,0,false,false⟩:PartC) [] W hE;rwa [show isB (⟨n1,2,none,0,0,a,v,c,0,0,false,false⟩:PartC) []=false from hI] at this))
   dsimp only [PartC.val] at GI
   have GM:=Lib.hid (fun W (hW:CurAt (w.heap.size+1) s ⟨aF,0⟩ W)=>(show Calls Tryz.prog 61 #[.pointer (some ⟨w.heap.size+1,0,none⟩),.bool false] W (fun e w'=>e=.returned (.tuple #[])∧CurAt (w.heap.size+1) s ⟨aF,11⟩ w'∧FrameT (fun k=>k=w.heap.size+1) W w') from by have:=curMust_any (w.heap.size+1) s ⟨aF,0⟩ false W hW;simpa [mustM] using this))
   clear hI
   go_enter Tryz.func36,Tryz.ntmps36
   go_wp2_with (first
    | (go_at_call 35;((with_reducible refine (G1.out _ H0).mono ?_);rintro e w1 ⟨rfl,H1,hF⟩;have hr1:=hF.get hr0 (by omega);have hs1:=Nat.le_trans hBt hF.size;have hB1:=hBz.trans (hF.toBelow (Nat.le_of_lt hBs) (fun k hk=>by omega));clear hF))
    | (go_at_call 35;((with_reducible refine (G2.out _ H1).mono ?_);rintro e w2 ⟨rfl,H2,hF⟩;have hX:w2.heap.size≠w.heap.size+1:=(by have:=hF.size;omega);have hXr:w2.heap.size≠w.heap.size:=(by have:=hF.size;omega);have hr2:=hF.get hr1 (by omega);have hB2:=hB1.trans (hF.toBelow hB1.size (fun k hk=>by omega));clear hF;have hA2:=bel_alloc (Below.refl w2.heap.size w2) (.cells #[.int .i64 n1,.int .i64 2,.slice none 0 0,.int .i64 0,.int .i64 0,.int .i64 0,.int .i64 0,.int .i64 0,.bool false,.bool false] 37);have H2a:=H2.below hA2;have hr2a:=(hA2.block _ (heap_ltP hr2)).trans hr2;have hp2a:=World.alloc_heap_new w2 (.cells #[.int .i64 n1,.int .i64 2,.slice none 0 0,.int .i64 0,.int .i64 0,.int .i64 0,.int .i64 0,.int .i64 0,.bool false,.bool false] 37);have hB2a:=hB2.trans (hA2.mono hB2.size);have hs2:=hB2.size;have y0:(w2.alloc (.cells #[.int .i64 n1,.int .i64 2,.slice none 0 0,.int .i64 0,.int .i64 0,.int .i64 0,.int .i64 0,.int .i64 0,.bool false,.bool false] 37)).cell? ⟨w2.heap.size,0,none⟩=some (.int .i64 n1):=cell_of_row _ _ 0 _ _ _ hp2a;have y1:(w2.alloc (.cells #[.int .i64 n1,.int .i64 2,.slice none 0 0,.int .i64 0,.int .i64 0,.int .i64 0,.int .i64 0,.int .i64 0,.bool false,.bool false] 37)).cell? ⟨w2.heap.size,1,none⟩=some (.int .i64 2):=cell_of_row _ _ 1 _ _ _ hp2a;clear hA2))
    | (go_at_call 61;((with_reducible refine (GM0.out _ H2a).mono ?_);rintro e w3 ⟨rfl,H3,hF⟩;have hr3:=hF.get hr2a (by omega);have hp3:=hF.get hp2a hX;have hB3:=hB2a.trans (hF.toBelow hB2a.size (fun k hk=>by omega));have hX3:=heap_ltP hp3;clear hF y0 y1;obtain ⟨_,e1,e2,_,_⟩:=H3.cells;dsimp only at e1 e2;have yk:w3.cell? ⟨w2.heap.size,1,none⟩=some (.int .i64 2):=cell_of_row _ _ 1 _ _ _ hp3;skip))
    | (go_at_call 63;((with_reducible refine (G3.out _ H3).mono ?_);rintro e w4 ⟨rfl,H4,hF⟩;have hr4:=hF.get hr3 (by omega);have hp4:=hF.get hp3 hX;have hB4:=hB3.trans (hF.toBelow hB3.size (fun k hk=>by omega));clear hF;have p4f3:=frozen_of_row _ _ 3 _ _ hp4;have p4k3:w4.cell? ⟨w2.heap.size,3,none⟩=some (.int .i64 0):=cell_of_row _ _ 3 _ _ _ hp4;have p4f4:=frozen_of_row _ _ 4 _ _ hp4;have p4k4:w4.cell? ⟨w2.heap.size,4,none⟩=some (.int .i64 0):=cell_of_row _ _ 4 _ _ _ hp4;have p4f5:=frozen_of_row _ _ 5 _ _ hp4;have p4k5:w4.cell? ⟨w2.heap.size,5,none⟩=some (.int .i64 0):=cell_of_row _ _ 5 _ _ _ hp4;have hp4a:=Go.Joins.block_setCell (Go.Joins.block_setCell (Go.Joins.block_setCell (hp4) (.int .i64 a) (i:=3)) (.int .i64 v) (i:=4)) (.int .i64 c) (i:=5);simp only [List.setIfInBounds_toArray,List.set_cons_succ,List.set_cons_zero] at hp4a;have H4a:=(((H4).st (i:=3) (v:=.int .i64 a) (Ne.symm hX)).st (i:=4) (v:=.int .i64 v) (Ne.symm hX)).st (i:=5) (v:=.int .i64 c) (Ne.symm hX);have hr4a:=blk_st (i:=5) (v:=.int .i64 c) (blk_st (i:=4) (v:=.int .i64 v) (blk_st (i:=3) (v:=.int .i64 a) (hr4) (Ne.symm hXr)) (Ne.symm hXr)) (Ne.symm hXr);have hB4a:=(((hB4).setCell (p:=⟨w2.heap.size,3,none⟩) (show w.heap.size≤w2.heap.size by omega) (.int .i64 a)).setCell (p:=⟨w2.heap.size,4,none⟩) (show w.heap.size≤w2.heap.size by omega) (.int .i64 v)).setCell (p:=⟨w2.heap.size,5,none⟩) (show w.heap.size≤w2.heap.size by omega) (.int .i64 c);have HM:=Lib.hid (show MidC w s (w.heap.size+1) w2.heap.size (⟨n1,2,none,0,0,a,v,c,0,0,false,false⟩:PartC) [] ⟨aF,0⟩ (((w4.setCell ⟨w2.heap.size,3,none⟩ (.int .i64 a)).setCell ⟨w2.heap.size,4,none⟩ (.int .i64 v)).setCell ⟨w2.heap.size,5,none⟩ (.int .i64 c)) from ⟨H4a,hp4a,hr4a,hasE_nil rfl rfl,fun k h=>absurd h inBlkE_nil,hB4a,fun k h=>absurd h inBlkE_nil⟩);obtain ⟨m1,m2,mf,y0,y1,y2,y3,y4,y5,y6,y7,y8,y9,r0,r1,r2,r3,r4,r5,r6,r7,r8,r9,v0,v1,v2,v3,v4,v5,v6,v7,v8,v9⟩:=HM.out.cells;dsimp only at m1 m2 y0 y1 y2 y3 y4 y5 y6 y7 y8 y9))
    | (go_at_call 28;((with_reducible refine (GI.out _ HM.out.ent).mono ?_);rintro e w9 ⟨rfl,hB9⟩;have HM9:=Lib.hid (HM.out.after hB9);clear hB9 y0 y1 y2 y3 y4 y5 y6 y7 y8 y9 r0 r1 r2 r3 r4 r5 r6 r7 r8 r9 v0 v1 v2 v3 v4 v5 v6 v7 v8 v9 m1 m2 mf))
    | (go_at_call 61;((with_reducible refine (GM.out _ HM9.out.rd).mono ?_);rintro e w10 ⟨rfl,H10,hF⟩;have hX9:=heap_ltP HM9.out.part;have hr10:=hF.get HM9.out.res (by omega);have hp10:=hF.get HM9.out.part hX;have hB10:=HM9.out.below.trans (hF.toBelow HM9.out.below.size (fun k hk=>by omega));have HM10:=Lib.hid (show MidC w s (w.heap.size+1) w2.heap.size _ _ ⟨aF,11⟩ w10 from ⟨H10,hp10,hr10,HM9.out.ent.moved HM9.out.offb hF,HM9.out.off,hB10,HM9.out.offb⟩);clear hF hr10 hp10 hB10;obtain ⟨m1,m2,mf,y0,y1,y2,y3,y4,y5,y6,y7,y8,y9,r0,r1,r2,r3,r4,r5,r6,r7,r8,r9,v0,v1,v2,v3,v4,v5,v6,v7,v8,v9⟩:=HM10.out.cells;dsimp only at m1 m2 y0 y1 y2 y3 y4 y5 y6 y7 y8 y9)))
   go_region
   go_wp2
   have hq:=st10_block (W:=w10) HM10.out.res (.int .i64 0) (.int .i64 0) (.slice none 0 0) (.int .i64 0) (.int .i64 0) (.int .i64 0) (.int .i64 0) (.int .i64 0) (.bool false) (.bool false)
   have hBF:=Lib.hid ((st10_below HM10.out.below (Nat.le_refl _) (.int .i64 0) (.int .i64 0) (.slice none 0 0) (.int .i64 0) (.int .i64 0) (.int .i64 0) (.int .i64 0) (.int .i64 0) (.bool false) (.bool false)).drew)
   simp only [st10] at hq hBF
   obtain ⟨c0,c1,c2,c3,c4,c5,c6,c7,c8,c9⟩:=arr10q hq
   refine bodyPost_ret (v:=.tuple #[.agg #[.int .i64 0,.int .i64 0,.slice none 0 0,.int .i64 0,.int .i64 0,.int .i64 0,.int .i64 0,.int .i64 0,.bool false,.bool false],.int .i64 0,.int .i64 11]) (by simp [results,Tryz.results36,go_sem,c0,c1,c2,c3,c4,c5,c6,c7,c8,c9]) rfl ?_
   exact readPost_err 11 HE.out (by decide) rfl hBF.out
 ·have HE:=Lib.hid (show errM (rawM s)=eF by rw [errM,HQ.out];dsimp only;rw [if_neg (by rintro ⟨h,_⟩;exact he h)])
  have he1:(0:Int)<(eF:Int):=by omega
  have HN:=Lib.hid he
  have GM:=Lib.hid (fun (bb:Bool) W (hW:CurAt (w.heap.size+1) s ⟨aF,eF⟩ W)=>(show Calls Tryz.prog 61 #[.pointer (some ⟨w.heap.size+1,0,none⟩),.bool bb] W (fun e w'=>e=.returned (.tuple #[])∧CurAt (w.heap.size+1) s ⟨aF,eF⟩ w'∧FrameT (fun k=>k=w.heap.size+1) W w') from by have:=curMust_any (w.heap.size+1) s ⟨aF,eF⟩ bb W hW;simpa [mustM,he] using this))
  clear he
  go_enter Tryz.func36,Tryz.ntmps36
  go_wp2_with (first
   | (go_at_call 35;((with_reducible refine (G1.out _ H0).mono ?_);rintro e w1 ⟨rfl,H1,hF⟩;have hr1:=hF.get hr0 (by omega);have hs1:=Nat.le_trans hBt hF.size;have hB1:=hBz.trans (hF.toBelow (Nat.le_of_lt hBs) (fun k hk=>by omega));clear hF))
   | (go_at_call 35;((with_reducible refine (G2.out _ H1).mono ?_);rintro e w2 ⟨rfl,H2,hF⟩;have hX:w2.heap.size≠w.heap.size+1:=(by have:=hF.size;omega);have hXr:w2.heap.size≠w.heap.size:=(by have:=hF.size;omega);have hr2:=hF.get hr1 (by omega);have hB2:=hB1.trans (hF.toBelow hB1.size (fun k hk=>by omega));clear hF;have hA2:=bel_alloc (Below.refl w2.heap.size w2) (.cells #[.int .i64 n1,.int .i64 2,.slice none 0 0,.int .i64 0,.int .i64 0,.int .i64 0,.int .i64 0,.int .i64 0,.bool false,.bool false] 37);have H2a:=H2.below hA2;have hr2a:=(hA2.block _ (heap_ltP hr2)).trans hr2;have hp2a:=World.alloc_heap_new w2 (.cells #[.int .i64 n1,.int .i64 2,.slice none 0 0,.int .i64 0,.int .i64 0,.int .i64 0,.int .i64 0,.int .i64 0,.bool false,.bool false] 37);have hB2a:=hB2.trans (hA2.mono hB2.size);have hs2:=hB2.size;have y0:(w2.alloc (.cells #[.int .i64 n1,.int .i64 2,.slice none 0 0,.int .i64 0,.int .i64 0,.int .i64 0,.int .i64 0,.int .i64 0,.bool false,.bool false] 37)).cell? ⟨w2.heap.size,0,none⟩=some (.int .i64 n1):=cell_of_row _ _ 0 _ _ _ hp2a;have y1:(w2.alloc (.cells #[.int .i64 n1,.int .i64 2,.slice none 0 0,.int .i64 0,.int .i64 0,.int .i64 0,.int .i64 0,.int .i64 0,.bool false,.bool false] 37)).cell? ⟨w2.heap.size,1,none⟩=some (.int .i64 2):=cell_of_row _ _ 1 _ _ _ hp2a;clear hA2))
   | (go_at_call 61;((with_reducible refine (GM0.out _ H2a).mono ?_);rintro e w3 ⟨rfl,H3,hF⟩;have hr3:=hF.get hr2a (by omega);have hp3:=hF.get hp2a hX;have hB3:=hB2a.trans (hF.toBelow hB2a.size (fun k hk=>by omega));have hX3:=heap_ltP hp3;clear hF y0 y1;obtain ⟨_,e1,e2,_,_⟩:=H3.cells;dsimp only at e1 e2;have yk:w3.cell? ⟨w2.heap.size,1,none⟩=some (.int .i64 2):=cell_of_row _ _ 1 _ _ _ hp3;skip))
   | (go_at_call 63;((with_reducible refine (G3.out _ H3).mono ?_);rintro e w4 ⟨rfl,H4,hF⟩;have hr4:=hF.get hr3 (by omega);have hp4:=hF.get hp3 hX;have hB4:=hB3.trans (hF.toBelow hB3.size (fun k hk=>by omega));clear hF;have p4f3:=frozen_of_row _ _ 3 _ _ hp4;have p4k3:w4.cell? ⟨w2.heap.size,3,none⟩=some (.int .i64 0):=cell_of_row _ _ 3 _ _ _ hp4;have p4f4:=frozen_of_row _ _ 4 _ _ hp4;have p4k4:w4.cell? ⟨w2.heap.size,4,none⟩=some (.int .i64 0):=cell_of_row _ _ 4 _ _ _ hp4;have p4f5:=frozen_of_row _ _ 5 _ _ hp4;have p4k5:w4.cell? ⟨w2.heap.size,5,none⟩=some (.int .i64 0):=cell_of_row _ _ 5 _ _ _ hp4;have hp4a:=Go.Joins.block_setCell (Go.Joins.block_setCell (Go.Joins.block_setCell (hp4) (.int .i64 a) (i:=3)) (.int .i64 v) (i:=4)) (.int .i64 c) (i:=5);simp only [List.setIfInBounds_toArray,List.set_cons_succ,List.set_cons_zero] at hp4a;have H4a:=(((H4).st (i:=3) (v:=.int .i64 a) (Ne.symm hX)).st (i:=4) (v:=.int .i64 v) (Ne.symm hX)).st (i:=5) (v:=.int .i64 c) (Ne.symm hX);have hr4a:=blk_st (i:=5) (v:=.int .i64 c) (blk_st (i:=4) (v:=.int .i64 v) (blk_st (i:=3) (v:=.int .i64 a) (hr4) (Ne.symm hXr)) (Ne.symm hXr)) (Ne.symm hXr);have hB4a:=(((hB4).setCell (p:=⟨w2.heap.size,3,none⟩) (show w.heap.size≤w2.heap.size by omega) (.int .i64 a)).setCell (p:=⟨w2.heap.size,4,none⟩) (show w.heap.size≤w2.heap.size by omega) (.int .i64 v)).setCell (p:=⟨w2.heap.size,5,none⟩) (show w.heap.size≤w2.heap.size by omega) (.int .i64 c);have HM:=Lib.hid (show MidC w s (w.heap.size+1) w2.heap.size (⟨n1,2,none,0,0,a,v,c,0,0,false,false⟩:PartC) [] ⟨aF,eF⟩ (((w4.setCell ⟨w2.heap.size,3,none⟩ (.int .i64 a)).setCell ⟨w2.heap.size,4,none⟩ (.int .i64 v)).setCell ⟨w2.heap.size,5,none⟩ (.int .i64 c)) from ⟨H4a,hp4a,hr4a,hasE_nil rfl rfl,fun k h=>absurd h inBlkE_nil,hB4a,fun k h=>absurd h inBlkE_nil⟩);obtain ⟨m1,m2,mf,y0,y1,y2,y3,y4,y5,y6,y7,y8,y9,r0,r1,r2,r3,r4,r5,r6,r7,r8,r9,v0,v1,v2,v3,v4,v5,v6,v7,v8,v9⟩:=HM.out.cells;dsimp only at m1 m2 y0 y1 y2 y3 y4 y5 y6 y7 y8 y9))
   | (go_at_call 28;((with_reducible refine (refIs_any _ _ _ HM.out.ent).mono ?_);rintro e w9 ⟨rfl,hB9⟩;have HM9:=Lib.hid (HM.out.after hB9);clear hB9 y0 y1 y2 y3 y4 y5 y6 y7 y8 y9 r0 r1 r2 r3 r4 r5 r6 r7 r8 r9 v0 v1 v2 v3 v4 v5 v6 v7 v8 v9 m1 m2 mf))
   | (go_at_call 61;((with_reducible refine (GM.out _ _ HM9.out.rd).mono ?_);rintro e w10 ⟨rfl,H10,hF⟩;have hX9:=heap_ltP HM9.out.part;have hr10:=hF.get HM9.out.res (by omega);have hp10:=hF.get HM9.out.part hX;have hB10:=HM9.out.below.trans (hF.toBelow HM9.out.below.size (fun k hk=>by omega));have HM10:=Lib.hid (show MidC w s (w.heap.size+1) w2.heap.size _ _ ⟨aF,eF⟩ w10 from ⟨H10,hp10,hr10,HM9.out.ent.moved HM9.out.offb hF,HM9.out.off,hB10,HM9.out.offb⟩);clear hF hr10 hp10 hB10;obtain ⟨m1,m2,mf,y0,y1,y2,y3,y4,y5,y6,y7,y8,y9,r0,r1,r2,r3,r4,r5,r6,r7,r8,r9,v0,v1,v2,v3,v4,v5,v6,v7,v8,v9⟩:=HM10.out.cells;dsimp only at m1 m2 y0 y1 y2 y3 y4 y5 y6 y7 y8 y9)))
  go_region
  go_wp2
  have hq:=st10_block (W:=w10) HM10.out.res (.int .i64 0) (.int .i64 0) (.slice none 0 0) (.int .i64 0) (.int .i64 0) (.int .i64 0) (.int .i64 0) (.int .i64 0) (.bool false) (.bool false)
  have hBF:=Lib.hid ((st10_below HM10.out.below (Nat.le_refl _) (.int .i64 0) (.int .i64 0) (.slice none 0 0) (.int .i64 0) (.int .i64 0) (.int .i64 0) (.int .i64 0) (.int .i64 0) (.bool false) (.bool false)).drew)
  simp only [st10] at hq hBF
  obtain ⟨c0,c1,c2,c3,c4,c5,c6,c7,c8,c9⟩:=arr10q hq
  refine bodyPost_ret (v:=.tuple #[.agg #[.int .i64 0,.int .i64 0,.slice none 0 0,.int .i64 0,.int .i64 0,.int .i64 0,.int .i64 0,.int .i64 0,.bool false,.bool false],.int .i64 0,.int .i64 eF]) (by simp [results,Tryz.results36,go_sem,c0,c1,c2,c3,c4,c5,c6,c7,c8,c9]) rfl ?_
  exact readPost_err eF HE.out HN.out rfl hBF.out

set_option maxRecDepth 100000 in
set_option maxHeartbeats 8000000 in
theorem refRead3_any (s:ByteArray) (hs:s.size<4611686018427387904) (w:World) (hk:(numM s (numM s ⟨0,0⟩).2).1=3) (he2:(numM s (numM s ⟨0,0⟩).2).2.e=0) :
  Calls Tryz.prog 36 #[.string s] w (ReadPost s w):=by
 have G1:=Lib.hid (fun W (hW:CurAt (w.heap.size+1) s ⟨0,0⟩ W)=>curNum_any (w.heap.size+1) s hs ⟨0,0⟩ (rst0_ok s) W hW)
 have G2:=Lib.hid (fun W (hW:CurAt (w.heap.size+1) s (numM s ⟨0,0⟩).2 W)=>curNum_any (w.heap.size+1) s hs (numM s ⟨0,0⟩).2 (numM_ok (rst0_ok s)) W hW)
 rw [hk] at G2
 replace G2:=Lib.hid (fun W (hW:CurAt (w.heap.size+1) s (numM s ⟨0,0⟩).2 W)=>(show CReads 35 #[.pointer (some ⟨w.heap.size+1,0,none⟩)] (w.heap.size+1) s W (.int .i64 3) (numM s (numM s ⟨0,0⟩).2).2 from G2.out W hW))
 have HNT:numTo s 6 (numM s ⟨0,0⟩).2=(numM s (numM s ⟨0,0⟩).2):=by unfold numTo;rw [if_neg (by rw [hk];decide)]
 have HQ:=Lib.hid (show rawM s=bodyM s (numM s ⟨0,0⟩).1 3 (numM s (numM s ⟨0,0⟩).2).2 by unfold rawM;rw [HNT,hk])
 have hok2:(numM s (numM s ⟨0,0⟩).2).2.ok s:=numM_ok (numM_ok (rst0_ok s))
 have GM0:=Lib.hid (fun W (hW:CurAt (w.heap.size+1) s (numM s (numM s ⟨0,0⟩).2).2 W)=>(show Calls Tryz.prog 61 #[.pointer (some ⟨w.heap.size+1,0,none⟩),.bool true] W (fun e w'=>e=.returned (.tuple #[])∧CurAt (w.heap.size+1) s (numM s (numM s ⟨0,0⟩).2).2 w'∧FrameT (fun k=>k=w.heap.size+1) W w') from by have:=curMust_any (w.heap.size+1) s (numM s (numM s ⟨0,0⟩).2).2 true W hW;simpa [mustM] using this))
 clear hk HNT
 have HZ:((w.alloc (.cells #[.int .i64 0,.int .i64 0,.slice none 0 0,.int .i64 0,.int .i64 0,.int .i64 0,.int .i64 0,.int .i64 0,.bool false,.bool false] 37)).alloc (.cells #[.string s,.int .i64 0,.int .i64 0] 68)).heap[w.heap.size+1]?=some (.cells #[.string s,.int .i64 0,.int .i64 0] 68 (0,0)):=by have:=World.alloc_heap_new (w.alloc (.cells #[.int .i64 0,.int .i64 0,.slice none 0 0,.int .i64 0,.int .i64 0,.int .i64 0,.int .i64 0,.int .i64 0,.bool false,.bool false] 37)) (.cells #[.string s,.int .i64 0,.int .i64 0] 68);rwa [World.size_alloc] at this
 have H0:CurAt (w.heap.size+1) s ⟨0,0⟩ ((w.alloc (.cells #[.int .i64 0,.int .i64 0,.slice none 0 0,.int .i64 0,.int .i64 0,.int .i64 0,.int .i64 0,.int .i64 0,.bool false,.bool false] 37)).alloc (.cells #[.string s,.int .i64 0,.int .i64 0] 68)):=HZ
 clear HZ
 have hr0:((w.alloc (.cells #[.int .i64 0,.int .i64 0,.slice none 0 0,.int .i64 0,.int .i64 0,.int .i64 0,.int .i64 0,.int .i64 0,.bool false,.bool false] 37)).alloc (.cells #[.string s,.int .i64 0,.int .i64 0] 68)).heap[w.heap.size]?=some (.cells #[.int .i64 0,.int .i64 0,.slice none 0 0,.int .i64 0,.int .i64 0,.int .i64 0,.int .i64 0,.int .i64 0,.bool false,.bool false] 37 (0,0)):=((bel_alloc (Below.refl _ _) _).block _ (by simp)).trans (World.alloc_heap_new w _)
 have hBz:Below w.heap.size w ((w.alloc (.cells #[.int .i64 0,.int .i64 0,.slice none 0 0,.int .i64 0,.int .i64 0,.int .i64 0,.int .i64 0,.int .i64 0,.bool false,.bool false] 37)).alloc (.cells #[.string s,.int .i64 0,.int .i64 0] 68)):=bel_alloc (bel_alloc (Below.refl _ _) _) _
 have hBs:w.heap.size<((w.alloc (.cells #[.int .i64 0,.int .i64 0,.slice none 0 0,.int .i64 0,.int .i64 0,.int .i64 0,.int .i64 0,.int .i64 0,.bool false,.bool false] 37)).alloc (.cells #[.string s,.int .i64 0,.int .i64 0] 68)).heap.size:=by simp;omega
 have hBt:w.heap.size+2≤((w.alloc (.cells #[.int .i64 0,.int .i64 0,.slice none 0 0,.int .i64 0,.int .i64 0,.int .i64 0,.int .i64 0,.int .i64 0,.bool false,.bool false] 37)).alloc (.cells #[.string s,.int .i64 0,.int .i64 0] 68)).heap.size:=by simp
 have hok3:=numM_ok hok2
 have G3:=Lib.hid (fun W (hW:CurAt (w.heap.size+1) s (numM s (numM s ⟨0,0⟩).2).2 W)=>curNum_any (w.heap.size+1) s hs _ hok2 W hW)
 have G4:=Lib.hid (fun W (hW:CurAt (w.heap.size+1) s (numM s (numM s (numM s ⟨0,0⟩).2).2).2 W)=>curNum_any (w.heap.size+1) s hs _ hok3 W hW)
 have HQ2:=Lib.hid (show bodyM s (numM s ⟨0,0⟩).1 3 (numM s (numM s ⟨0,0⟩).2).2=(⟨(numM s ⟨0,0⟩).1,3,[],0,0,0,(numM s (numM s (numM s ⟨0,0⟩).2).2).1,(numM s (numM s (numM s (numM s ⟨0,0⟩).2).2).2).1,false,false⟩,(numM s (numM s (numM s (numM s ⟨0,0⟩).2).2).2).2) from by simp [bodyM])
 rw [HQ2.out] at HQ
 clear HQ2 hok2 hok3
 generalize numM s (numM s (numM s (numM s ⟨0,0⟩).2).2).2=R4 at *
 generalize numM s (numM s (numM s ⟨0,0⟩).2).2=R3 at *
 generalize (numM s (numM s ⟨0,0⟩).2)=R2 at *
 generalize (numM s ⟨0,0⟩)=R1 at *
 obtain ⟨n1,s1⟩:=R1
 obtain ⟨m2,s2⟩:=R2
 obtain ⟨i,s3⟩:=R3
 obtain ⟨t,s4⟩:=R4
 obtain ⟨aF,eF⟩:=s4
 dsimp only at *
 obtain ⟨a2,q2⟩:=s2
 dsimp only at *
 subst he2

 by_cases he:eF=0
 ·subst he
  by_cases hI:isB (⟨n1,3,none,0,0,0,0,0,i,t,false,false⟩:PartC) []=true
  ·have HE:=Lib.hid (show errM (rawM s)=0 by rw [errM,HQ.out];simp only [ReadC.part];rw [if_neg (by rintro ⟨_,h⟩;exact absurd (hI.symm.trans h) (by decide))])
   have GI:=Lib.hid (fun W (hE:HasE W (⟨n1,3,none,0,0,0,0,0,i,t,false,false⟩:PartC) [])=>(show Gives Tryz.prog 28 #[(⟨n1,3,none,0,0,0,0,0,i,t,false,false⟩:PartC).val] W (.bool true) from by have:=refIs_any (⟨n1,3,none,0,0,0,0,0,i,t,false,false⟩:PartC) [] W hE;rwa [show isB (⟨n1,3,none,0,0,0,0,0,i,t,false,false⟩:PartC) []=true from hI] at this))
   dsimp only [PartC.val] at GI
   have GM:=Lib.hid (fun W (hW:CurAt (w.heap.size+1) s ⟨aF,0⟩ W)=>(show Calls Tryz.prog 61 #[.pointer (some ⟨w.heap.size+1,0,none⟩),.bool true] W (fun e w'=>e=.returned (.tuple #[])∧CurAt (w.heap.size+1) s ⟨aF,0⟩ w'∧FrameT (fun k=>k=w.heap.size+1) W w') from by have:=curMust_any (w.heap.size+1) s ⟨aF,0⟩ true W hW;simpa [mustM] using this))
   clear hI
   go_enter Tryz.func36,Tryz.ntmps36
   go_wp2_with (first
    | (go_at_call 35;((with_reducible refine (G1.out _ H0).mono ?_);rintro e w1 ⟨rfl,H1,hF⟩;have hr1:=hF.get hr0 (by omega);have hs1:=Nat.le_trans hBt hF.size;have hB1:=hBz.trans (hF.toBelow (Nat.le_of_lt hBs) (fun k hk=>by omega));clear hF))
    | (go_at_call 35;((with_reducible refine (G2.out _ H1).mono ?_);rintro e w2 ⟨rfl,H2,hF⟩;have hX:w2.heap.size≠w.heap.size+1:=(by have:=hF.size;omega);have hXr:w2.heap.size≠w.heap.size:=(by have:=hF.size;omega);have hr2:=hF.get hr1 (by omega);have hB2:=hB1.trans (hF.toBelow hB1.size (fun k hk=>by omega));clear hF;have hA2:=bel_alloc (Below.refl w2.heap.size w2) (.cells #[.int .i64 n1,.int .i64 3,.slice none 0 0,.int .i64 0,.int .i64 0,.int .i64 0,.int .i64 0,.int .i64 0,.bool false,.bool false] 37);have H2a:=H2.below hA2;have hr2a:=(hA2.block _ (heap_ltP hr2)).trans hr2;have hp2a:=World.alloc_heap_new w2 (.cells #[.int .i64 n1,.int .i64 3,.slice none 0 0,.int .i64 0,.int .i64 0,.int .i64 0,.int .i64 0,.int .i64 0,.bool false,.bool false] 37);have hB2a:=hB2.trans (hA2.mono hB2.size);have hs2:=hB2.size;have y0:(w2.alloc (.cells #[.int .i64 n1,.int .i64 3,.slice none 0 0,.int .i64 0,.int .i64 0,.int .i64 0,.int .i64 0,.int .i64 0,.bool false,.bool false] 37)).cell? ⟨w2.heap.size,0,none⟩=some (.int .i64 n1):=cell_of_row _ _ 0 _ _ _ hp2a;have y1:(w2.alloc (.cells #[.int .i64 n1,.int .i64 3,.slice none 0 0,.int .i64 0,.int .i64 0,.int .i64 0,.int .i64 0,.int .i64 0,.bool false,.bool false] 37)).cell? ⟨w2.heap.size,1,none⟩=some (.int .i64 3):=cell_of_row _ _ 1 _ _ _ hp2a;clear hA2))
    | (go_at_call 61;((with_reducible refine (GM0.out _ H2a).mono ?_);rintro e w3 ⟨rfl,H3,hF⟩;have hr3:=hF.get hr2a (by omega);have hp3:=hF.get hp2a hX;have hB3:=hB2a.trans (hF.toBelow hB2a.size (fun k hk=>by omega));have hX3:=heap_ltP hp3;clear hF y0 y1;obtain ⟨_,e1,e2,_,_⟩:=H3.cells;dsimp only at e1 e2;have yk:w3.cell? ⟨w2.heap.size,1,none⟩=some (.int .i64 3):=cell_of_row _ _ 1 _ _ _ hp3;skip))
    | (go_at_call 35;((with_reducible refine (G3.out _ H3).mono ?_);rintro e w4 ⟨rfl,H4,hF⟩;have hr4:=hF.get hr3 (by omega);have hp4:=hF.get hp3 hX;have hB4:=hB3.trans (hF.toBelow hB3.size (fun k hk=>by omega));clear hF;have p4f6:=frozen_of_row _ _ 6 _ _ hp4;have p4k6:w4.cell? ⟨w2.heap.size,6,none⟩=some (.int .i64 0):=cell_of_row _ _ 6 _ _ _ hp4;have hp4a:=Go.Joins.block_setCell (hp4) (.int .i64 i) (i:=6);simp only [List.setIfInBounds_toArray,List.set_cons_succ,List.set_cons_zero] at hp4a;have H4a:=(H4).st (i:=6) (v:=.int .i64 i) (Ne.symm hX);have hr4a:=blk_st (i:=6) (v:=.int .i64 i) (hr4) (Ne.symm hXr);have hB4a:=(hB4).setCell (p:=⟨w2.heap.size,6,none⟩) (show w.heap.size≤w2.heap.size by omega) (.int .i64 i)))
    | (go_at_call 35;((with_reducible refine (G4.out _ H4a).mono ?_);rintro e w5 ⟨rfl,H5,hF⟩;have hr5:=hF.get hr4a (by omega);have hp5:=hF.get hp4a hX;have hB5:=hB4a.trans (hF.toBelow hB4a.size (fun k hk=>by omega));clear hF;have p5f7:=frozen_of_row _ _ 7 _ _ hp5;have p5k7:w5.cell? ⟨w2.heap.size,7,none⟩=some (.int .i64 0):=cell_of_row _ _ 7 _ _ _ hp5;have hp5a:=Go.Joins.block_setCell (hp5) (.int .i64 t) (i:=7);simp only [List.setIfInBounds_toArray,List.set_cons_succ,List.set_cons_zero] at hp5a;have H5a:=(H5).st (i:=7) (v:=.int .i64 t) (Ne.symm hX);have hr5a:=blk_st (i:=7) (v:=.int .i64 t) (hr5) (Ne.symm hXr);have hB5a:=(hB5).setCell (p:=⟨w2.heap.size,7,none⟩) (show w.heap.size≤w2.heap.size by omega) (.int .i64 t);have HM:=Lib.hid (show MidC w s (w.heap.size+1) w2.heap.size (⟨n1,3,none,0,0,0,0,0,i,t,false,false⟩:PartC) [] ⟨aF,0⟩ (w5.setCell ⟨w2.heap.size,7,none⟩ (.int .i64 t)) from ⟨H5a,hp5a,hr5a,hasE_nil rfl rfl,fun k h=>absurd h inBlkE_nil,hB5a,fun k h=>absurd h inBlkE_nil⟩);obtain ⟨m1,m2,mf,y0,y1,y2,y3,y4,y5,y6,y7,y8,y9,r0,r1,r2,r3,r4,r5,r6,r7,r8,r9,v0,v1,v2,v3,v4,v5,v6,v7,v8,v9⟩:=HM.out.cells;dsimp only at m1 m2 y0 y1 y2 y3 y4 y5 y6 y7 y8 y9))
    | (go_at_call 28;((with_reducible refine (GI.out _ HM.out.ent).mono ?_);rintro e w9 ⟨rfl,hB9⟩;have HM9:=Lib.hid (HM.out.after hB9);clear hB9 y0 y1 y2 y3 y4 y5 y6 y7 y8 y9 r0 r1 r2 r3 r4 r5 r6 r7 r8 r9 v0 v1 v2 v3 v4 v5 v6 v7 v8 v9 m1 m2 mf))
    | (go_at_call 61;((with_reducible refine (GM.out _ HM9.out.rd).mono ?_);rintro e w10 ⟨rfl,H10,hF⟩;have hX9:=heap_ltP HM9.out.part;have hr10:=hF.get HM9.out.res (by omega);have hp10:=hF.get HM9.out.part hX;have hB10:=HM9.out.below.trans (hF.toBelow HM9.out.below.size (fun k hk=>by omega));have HM10:=Lib.hid (show MidC w s (w.heap.size+1) w2.heap.size _ _ ⟨aF,0⟩ w10 from ⟨H10,hp10,hr10,HM9.out.ent.moved HM9.out.offb hF,HM9.out.off,hB10,HM9.out.offb⟩);clear hF hr10 hp10 hB10;obtain ⟨m1,m2,mf,y0,y1,y2,y3,y4,y5,y6,y7,y8,y9,r0,r1,r2,r3,r4,r5,r6,r7,r8,r9,v0,v1,v2,v3,v4,v5,v6,v7,v8,v9⟩:=HM10.out.cells;dsimp only at m1 m2 y0 y1 y2 y3 y4 y5 y6 y7 y8 y9)))
   go_region
   go_wp2
   have hq:=st10_block (W:=w10) HM10.out.res (.int .i64 n1) (.int .i64 3) (.slice none 0 0) (.int .i64 0) (.int .i64 0) (.int .i64 0) (.int .i64 i) (.int .i64 t) (.bool false) (.bool false)
   have hBF:=Lib.hid ((st10_below HM10.out.below (Nat.le_refl _) (.int .i64 n1) (.int .i64 3) (.slice none 0 0) (.int .i64 0) (.int .i64 0) (.int .i64 0) (.int .i64 i) (.int .i64 t) (.bool false) (.bool false)).drew)
   have hEF:=Lib.hid (HasE.put10 (R:=w.heap.size) HM10.out.ent HM10.out.off (.int .i64 n1) (.int .i64 3) (.slice none 0 0) (.int .i64 0) (.int .i64 0) (.int .i64 0) (.int .i64 i) (.int .i64 t) (.bool false) (.bool false))
   have hOF:=Lib.hid HM10.out.off
   simp only [st10] at hq hBF hEF
   obtain ⟨c0,c1,c2,c3,c4,c5,c6,c7,c8,c9⟩:=arr10q hq
   refine bodyPost_ret (v:=.tuple #[.agg #[.int .i64 n1,.int .i64 3,.slice none 0 0,.int .i64 0,.int .i64 0,.int .i64 0,.int .i64 i,.int .i64 t,.bool false,.bool false],.int .i64 aF,.int .i64 0]) (by simp [results,Tryz.results36,go_sem,c0,c1,c2,c3,c4,c5,c6,c7,c8,c9]) rfl ?_
   exact readPost_ok (⟨n1,3,none,0,0,0,0,0,i,t,false,false⟩:PartC) [] aF HE.out (by rw [HQ.out];rfl) (by rw [HQ.out]) (by rw [HQ.out]) rfl hEF.out hBF.out hOF.out
  ·have hI:=Bool.eq_false_iff.2 hI
   have HE:=Lib.hid (show errM (rawM s)=11 by rw [errM,HQ.out];simp only [ReadC.part];rw [if_pos ⟨trivial,hI⟩])
   have GI:=Lib.hid (fun W (hE:HasE W (⟨n1,3,none,0,0,0,0,0,i,t,false,false⟩:PartC) [])=>(show Gives Tryz.prog 28 #[(⟨n1,3,none,0,0,0,0,0,i,t,false,false⟩:PartC).val] W (.bool false) from by have:=refIs_any (⟨n1,3,none,0,0,0,0,0,i,t,false,false⟩:PartC) [] W hE;rwa [show isB (⟨n1,3,none,0,0,0,0,0,i,t,false,false⟩:PartC) []=false from hI] at this))
   dsimp only [PartC.val] at GI
   have GM:=Lib.hid (fun W (hW:CurAt (w.heap.size+1) s ⟨aF,0⟩ W)=>(show Calls Tryz.prog 61 #[.pointer (some ⟨w.heap.size+1,0,none⟩),.bool false] W (fun e w'=>e=.returned (.tuple #[])∧CurAt (w.heap.size+1) s ⟨aF,11⟩ w'∧FrameT (fun k=>k=w.heap.size+1) W w') from by have:=curMust_any (w.heap.size+1) s ⟨aF,0⟩ false W hW;simpa [mustM] using this))
   clear hI
   go_enter Tryz.func36,Tryz.ntmps36
   go_wp2_with (first
    | (go_at_call 35;((with_reducible refine (G1.out _ H0).mono ?_);rintro e w1 ⟨rfl,H1,hF⟩;have hr1:=hF.get hr0 (by omega);have hs1:=Nat.le_trans hBt hF.size;have hB1:=hBz.trans (hF.toBelow (Nat.le_of_lt hBs) (fun k hk=>by omega));clear hF))
    | (go_at_call 35;((with_reducible refine (G2.out _ H1).mono ?_);rintro e w2 ⟨rfl,H2,hF⟩;have hX:w2.heap.size≠w.heap.size+1:=(by have:=hF.size;omega);have hXr:w2.heap.size≠w.heap.size:=(by have:=hF.size;omega);have hr2:=hF.get hr1 (by omega);have hB2:=hB1.trans (hF.toBelow hB1.size (fun k hk=>by omega));clear hF;have hA2:=bel_alloc (Below.refl w2.heap.size w2) (.cells #[.int .i64 n1,.int .i64 3,.slice none 0 0,.int .i64 0,.int .i64 0,.int .i64 0,.int .i64 0,.int .i64 0,.bool false,.bool false] 37);have H2a:=H2.below hA2;have hr2a:=(hA2.block _ (heap_ltP hr2)).trans hr2;have hp2a:=World.alloc_heap_new w2 (.cells #[.int .i64 n1,.int .i64 3,.slice none 0 0,.int .i64 0,.int .i64 0,.int .i64 0,.int .i64 0,.int .i64 0,.bool false,.bool false] 37);have hB2a:=hB2.trans (hA2.mono hB2.size);have hs2:=hB2.size;have y0:(w2.alloc (.cells #[.int .i64 n1,.int .i64 3,.slice none 0 0,.int .i64 0,.int .i64 0,.int .i64 0,.int .i64 0,.int .i64 0,.bool false,.bool false] 37)).cell? ⟨w2.heap.size,0,none⟩=some (.int .i64 n1):=cell_of_row _ _ 0 _ _ _ hp2a;have y1:(w2.alloc (.cells #[.int .i64 n1,.int .i64 3,.slice none 0 0,.int .i64 0,.int .i64 0,.int .i64 0,.int .i64 0,.int .i64 0,.bool false,.bool false] 37)).cell? ⟨w2.heap.size,1,none⟩=some (.int .i64 3):=cell_of_row _ _ 1 _ _ _ hp2a;clear hA2))
    | (go_at_call 61;((with_reducible refine (GM0.out _ H2a).mono ?_);rintro e w3 ⟨rfl,H3,hF⟩;have hr3:=hF.get hr2a (by omega);have hp3:=hF.get hp2a hX;have hB3:=hB2a.trans (hF.toBelow hB2a.size (fun k hk=>by omega));have hX3:=heap_ltP hp3;clear hF y0 y1;obtain ⟨_,e1,e2,_,_⟩:=H3.cells;dsimp only at e1 e2;have yk:w3.cell? ⟨w2.heap.size,1,none⟩=some (.int .i64 3):=cell_of_row _ _ 1 _ _ _ hp3;skip))
    | (go_at_call 35;((with_reducible refine (G3.out _ H3).mono ?_);rintro e w4 ⟨rfl,H4,hF⟩;have hr4:=hF.get hr3 (by omega);have hp4:=hF.get hp3 hX;have hB4:=hB3.trans (hF.toBelow hB3.size (fun k hk=>by omega));clear hF;have p4f6:=frozen_of_row _ _ 6 _ _ hp4;have p4k6:w4.cell? ⟨w2.heap.size,6,none⟩=some (.int .i64 0):=cell_of_row _ _ 6 _ _ _ hp4;have hp4a:=Go.Joins.block_setCell (hp4) (.int .i64 i) (i:=6);simp only [List.setIfInBounds_toArray,List.set_cons_succ,List.set_cons_zero] at hp4a;have H4a:=(H4).st (i:=6) (v:=.int .i64 i) (Ne.symm hX);have hr4a:=blk_st (i:=6) (v:=.int .i64 i) (hr4) (Ne.symm hXr);have hB4a:=(hB4).setCell (p:=⟨w2.heap.size,6,none⟩) (show w.heap.size≤w2.heap.size by omega) (.int .i64 i)))
    | (go_at_call 35;((with_reducible refine (G4.out _ H4a).mono ?_);rintro e w5 ⟨rfl,H5,hF⟩;have hr5:=hF.get hr4a (by omega);have hp5:=hF.get hp4a hX;have hB5:=hB4a.trans (hF.toBelow hB4a.size (fun k hk=>by omega));clear hF;have p5f7:=frozen_of_row _ _ 7 _ _ hp5;have p5k7:w5.cell? ⟨w2.heap.size,7,none⟩=some (.int .i64 0):=cell_of_row _ _ 7 _ _ _ hp5;have hp5a:=Go.Joins.block_setCell (hp5) (.int .i64 t) (i:=7);simp only [List.setIfInBounds_toArray,List.set_cons_succ,List.set_cons_zero] at hp5a;have H5a:=(H5).st (i:=7) (v:=.int .i64 t) (Ne.symm hX);have hr5a:=blk_st (i:=7) (v:=.int .i64 t) (hr5) (Ne.symm hXr);have hB5a:=(hB5).setCell (p:=⟨w2.heap.size,7,none⟩) (show w.heap.size≤w2.heap.size by omega) (.int .i64 t);have HM:=Lib.hid (show MidC w s (w.heap.size+1) w2.heap.size (⟨n1,3,none,0,0,0,0,0,i,t,false,false⟩:PartC) [] ⟨aF,0⟩ (w5.setCell ⟨w2.heap.size,7,none⟩ (.int .i64 t)) from ⟨H5a,hp5a,hr5a,hasE_nil rfl rfl,fun k h=>absurd h inBlkE_nil,hB5a,fun k h=>absurd h inBlkE_nil⟩);obtain ⟨m1,m2,mf,y0,y1,y2,y3,y4,y5,y6,y7,y8,y9,r0,r1,r2,r3,r4,r5,r6,r7,r8,r9,v0,v1,v2,v3,v4,v5,v6,v7,v8,v9⟩:=HM.out.cells;dsimp only at m1 m2 y0 y1 y2 y3 y4 y5 y6 y7 y8 y9))
    | (go_at_call 28;((with_reducible refine (GI.out _ HM.out.ent).mono ?_);rintro e w9 ⟨rfl,hB9⟩;have HM9:=Lib.hid (HM.out.after hB9);clear hB9 y0 y1 y2 y3 y4 y5 y6 y7 y8 y9 r0 r1 r2 r3 r4 r5 r6 r7 r8 r9 v0 v1 v2 v3 v4 v5 v6 v7 v8 v9 m1 m2 mf))
    | (go_at_call 61;((with_reducible refine (GM.out _ HM9.out.rd).mono ?_);rintro e w10 ⟨rfl,H10,hF⟩;have hX9:=heap_ltP HM9.out.part;have hr10:=hF.get HM9.out.res (by omega);have hp10:=hF.get HM9.out.part hX;have hB10:=HM9.out.below.trans (hF.toBelow HM9.out.below.size (fun k hk=>by omega));have HM10:=Lib.hid (show MidC w s (w.heap.size+1) w2.heap.size _ _ ⟨aF,11⟩ w10 from ⟨H10,hp10,hr10,HM9.out.ent.moved HM9.out.offb hF,HM9.out.off,hB10,HM9.out.offb⟩);clear hF hr10 hp10 hB10;obtain ⟨m1,m2,mf,y0,y1,y2,y3,y4,y5,y6,y7,y8,y9,r0,r1,r2,r3,r4,r5,r6,r7,r8,r9,v0,v1,v2,v3,v4,v5,v6,v7,v8,v9⟩:=HM10.out.cells;dsimp only at m1 m2 y0 y1 y2 y3 y4 y5 y6 y7 y8 y9)))
   go_region
   go_wp2
   have hq:=st10_block (W:=w10) HM10.out.res (.int .i64 0) (.int .i64 0) (.slice none 0 0) (.int .i64 0) (.int .i64 0) (.int .i64 0) (.int .i64 0) (.int .i64 0) (.bool false) (.bool false)
   have hBF:=Lib.hid ((st10_below HM10.out.below (Nat.le_refl _) (.int .i64 0) (.int .i64 0) (.slice none 0 0) (.int .i64 0) (.int .i64 0) (.int .i64 0) (.int .i64 0) (.int .i64 0) (.bool false) (.bool false)).drew)
   simp only [st10] at hq hBF
   obtain ⟨c0,c1,c2,c3,c4,c5,c6,c7,c8,c9⟩:=arr10q hq
   refine bodyPost_ret (v:=.tuple #[.agg #[.int .i64 0,.int .i64 0,.slice none 0 0,.int .i64 0,.int .i64 0,.int .i64 0,.int .i64 0,.int .i64 0,.bool false,.bool false],.int .i64 0,.int .i64 11]) (by simp [results,Tryz.results36,go_sem,c0,c1,c2,c3,c4,c5,c6,c7,c8,c9]) rfl ?_
   exact readPost_err 11 HE.out (by decide) rfl hBF.out
 ·have HE:=Lib.hid (show errM (rawM s)=eF by rw [errM,HQ.out];dsimp only;rw [if_neg (by rintro ⟨h,_⟩;exact he h)])
  have he1:(0:Int)<(eF:Int):=by omega
  have HN:=Lib.hid he
  have GM:=Lib.hid (fun (bb:Bool) W (hW:CurAt (w.heap.size+1) s ⟨aF,eF⟩ W)=>(show Calls Tryz.prog 61 #[.pointer (some ⟨w.heap.size+1,0,none⟩),.bool bb] W (fun e w'=>e=.returned (.tuple #[])∧CurAt (w.heap.size+1) s ⟨aF,eF⟩ w'∧FrameT (fun k=>k=w.heap.size+1) W w') from by have:=curMust_any (w.heap.size+1) s ⟨aF,eF⟩ bb W hW;simpa [mustM,he] using this))
  clear he
  go_enter Tryz.func36,Tryz.ntmps36
  go_wp2_with (first
   | (go_at_call 35;((with_reducible refine (G1.out _ H0).mono ?_);rintro e w1 ⟨rfl,H1,hF⟩;have hr1:=hF.get hr0 (by omega);have hs1:=Nat.le_trans hBt hF.size;have hB1:=hBz.trans (hF.toBelow (Nat.le_of_lt hBs) (fun k hk=>by omega));clear hF))
   | (go_at_call 35;((with_reducible refine (G2.out _ H1).mono ?_);rintro e w2 ⟨rfl,H2,hF⟩;have hX:w2.heap.size≠w.heap.size+1:=(by have:=hF.size;omega);have hXr:w2.heap.size≠w.heap.size:=(by have:=hF.size;omega);have hr2:=hF.get hr1 (by omega);have hB2:=hB1.trans (hF.toBelow hB1.size (fun k hk=>by omega));clear hF;have hA2:=bel_alloc (Below.refl w2.heap.size w2) (.cells #[.int .i64 n1,.int .i64 3,.slice none 0 0,.int .i64 0,.int .i64 0,.int .i64 0,.int .i64 0,.int .i64 0,.bool false,.bool false] 37);have H2a:=H2.below hA2;have hr2a:=(hA2.block _ (heap_ltP hr2)).trans hr2;have hp2a:=World.alloc_heap_new w2 (.cells #[.int .i64 n1,.int .i64 3,.slice none 0 0,.int .i64 0,.int .i64 0,.int .i64 0,.int .i64 0,.int .i64 0,.bool false,.bool false] 37);have hB2a:=hB2.trans (hA2.mono hB2.size);have hs2:=hB2.size;have y0:(w2.alloc (.cells #[.int .i64 n1,.int .i64 3,.slice none 0 0,.int .i64 0,.int .i64 0,.int .i64 0,.int .i64 0,.int .i64 0,.bool false,.bool false] 37)).cell? ⟨w2.heap.size,0,none⟩=some (.int .i64 n1):=cell_of_row _ _ 0 _ _ _ hp2a;have y1:(w2.alloc (.cells #[.int .i64 n1,.int .i64 3,.slice none 0 0,.int .i64 0,.int .i64 0,.int .i64 0,.int .i64 0,.int .i64 0,.bool false,.bool false] 37)).cell? ⟨w2.heap.size,1,none⟩=some (.int .i64 3):=cell_of_row _ _ 1 _ _ _ hp2a;clear hA2))
   | (go_at_call 61;((with_reducible refine (GM0.out _ H2a).mono ?_);rintro e w3 ⟨rfl,H3,hF⟩;have hr3:=hF.get hr2a (by omega);have hp3:=hF.get hp2a hX;have hB3:=hB2a.trans (hF.toBelow hB2a.size (fun k hk=>by omega));have hX3:=heap_ltP hp3;clear hF y0 y1;obtain ⟨_,e1,e2,_,_⟩:=H3.cells;dsimp only at e1 e2;have yk:w3.cell? ⟨w2.heap.size,1,none⟩=some (.int .i64 3):=cell_of_row _ _ 1 _ _ _ hp3;skip))
   | (go_at_call 35;((with_reducible refine (G3.out _ H3).mono ?_);rintro e w4 ⟨rfl,H4,hF⟩;have hr4:=hF.get hr3 (by omega);have hp4:=hF.get hp3 hX;have hB4:=hB3.trans (hF.toBelow hB3.size (fun k hk=>by omega));clear hF;have p4f6:=frozen_of_row _ _ 6 _ _ hp4;have p4k6:w4.cell? ⟨w2.heap.size,6,none⟩=some (.int .i64 0):=cell_of_row _ _ 6 _ _ _ hp4;have hp4a:=Go.Joins.block_setCell (hp4) (.int .i64 i) (i:=6);simp only [List.setIfInBounds_toArray,List.set_cons_succ,List.set_cons_zero] at hp4a;have H4a:=(H4).st (i:=6) (v:=.int .i64 i) (Ne.symm hX);have hr4a:=blk_st (i:=6) (v:=.int .i64 i) (hr4) (Ne.symm hXr);have hB4a:=(hB4).setCell (p:=⟨w2.heap.size,6,none⟩) (show w.heap.size≤w2.heap.size by omega) (.int .i64 i)))
   | (go_at_call 35;((with_reducible refine (G4.out _ H4a).mono ?_);rintro e w5 ⟨rfl,H5,hF⟩;have hr5:=hF.get hr4a (by omega);have hp5:=hF.get hp4a hX;have hB5:=hB4a.trans (hF.toBelow hB4a.size (fun k hk=>by omega));clear hF;have p5f7:=frozen_of_row _ _ 7 _ _ hp5;have p5k7:w5.cell? ⟨w2.heap.size,7,none⟩=some (.int .i64 0):=cell_of_row _ _ 7 _ _ _ hp5;have hp5a:=Go.Joins.block_setCell (hp5) (.int .i64 t) (i:=7);simp only [List.setIfInBounds_toArray,List.set_cons_succ,List.set_cons_zero] at hp5a;have H5a:=(H5).st (i:=7) (v:=.int .i64 t) (Ne.symm hX);have hr5a:=blk_st (i:=7) (v:=.int .i64 t) (hr5) (Ne.symm hXr);have hB5a:=(hB5).setCell (p:=⟨w2.heap.size,7,none⟩) (show w.heap.size≤w2.heap.size by omega) (.int .i64 t);have HM:=Lib.hid (show MidC w s (w.heap.size+1) w2.heap.size (⟨n1,3,none,0,0,0,0,0,i,t,false,false⟩:PartC) [] ⟨aF,eF⟩ (w5.setCell ⟨w2.heap.size,7,none⟩ (.int .i64 t)) from ⟨H5a,hp5a,hr5a,hasE_nil rfl rfl,fun k h=>absurd h inBlkE_nil,hB5a,fun k h=>absurd h inBlkE_nil⟩);obtain ⟨m1,m2,mf,y0,y1,y2,y3,y4,y5,y6,y7,y8,y9,r0,r1,r2,r3,r4,r5,r6,r7,r8,r9,v0,v1,v2,v3,v4,v5,v6,v7,v8,v9⟩:=HM.out.cells;dsimp only at m1 m2 y0 y1 y2 y3 y4 y5 y6 y7 y8 y9))
   | (go_at_call 28;((with_reducible refine (refIs_any _ _ _ HM.out.ent).mono ?_);rintro e w9 ⟨rfl,hB9⟩;have HM9:=Lib.hid (HM.out.after hB9);clear hB9 y0 y1 y2 y3 y4 y5 y6 y7 y8 y9 r0 r1 r2 r3 r4 r5 r6 r7 r8 r9 v0 v1 v2 v3 v4 v5 v6 v7 v8 v9 m1 m2 mf))
   | (go_at_call 61;((with_reducible refine (GM.out _ _ HM9.out.rd).mono ?_);rintro e w10 ⟨rfl,H10,hF⟩;have hX9:=heap_ltP HM9.out.part;have hr10:=hF.get HM9.out.res (by omega);have hp10:=hF.get HM9.out.part hX;have hB10:=HM9.out.below.trans (hF.toBelow HM9.out.below.size (fun k hk=>by omega));have HM10:=Lib.hid (show MidC w s (w.heap.size+1) w2.heap.size _ _ ⟨aF,eF⟩ w10 from ⟨H10,hp10,hr10,HM9.out.ent.moved HM9.out.offb hF,HM9.out.off,hB10,HM9.out.offb⟩);clear hF hr10 hp10 hB10;obtain ⟨m1,m2,mf,y0,y1,y2,y3,y4,y5,y6,y7,y8,y9,r0,r1,r2,r3,r4,r5,r6,r7,r8,r9,v0,v1,v2,v3,v4,v5,v6,v7,v8,v9⟩:=HM10.out.cells;dsimp only at m1 m2 y0 y1 y2 y3 y4 y5 y6 y7 y8 y9)))
  go_region
  go_wp2
  have hq:=st10_block (W:=w10) HM10.out.res (.int .i64 0) (.int .i64 0) (.slice none 0 0) (.int .i64 0) (.int .i64 0) (.int .i64 0) (.int .i64 0) (.int .i64 0) (.bool false) (.bool false)
  have hBF:=Lib.hid ((st10_below HM10.out.below (Nat.le_refl _) (.int .i64 0) (.int .i64 0) (.slice none 0 0) (.int .i64 0) (.int .i64 0) (.int .i64 0) (.int .i64 0) (.int .i64 0) (.bool false) (.bool false)).drew)
  simp only [st10] at hq hBF
  obtain ⟨c0,c1,c2,c3,c4,c5,c6,c7,c8,c9⟩:=arr10q hq
  refine bodyPost_ret (v:=.tuple #[.agg #[.int .i64 0,.int .i64 0,.slice none 0 0,.int .i64 0,.int .i64 0,.int .i64 0,.int .i64 0,.int .i64 0,.bool false,.bool false],.int .i64 0,.int .i64 eF]) (by simp [results,Tryz.results36,go_sem,c0,c1,c2,c3,c4,c5,c6,c7,c8,c9]) rfl ?_
  exact readPost_err eF HE.out HN.out rfl hBF.out

set_option maxRecDepth 100000 in
set_option maxHeartbeats 8000000 in
theorem refRead4_any (s:ByteArray) (hs:s.size<4611686018427387904) (w:World) (hk:(numM s (numM s ⟨0,0⟩).2).1=4) (he2:(numM s (numM s ⟨0,0⟩).2).2.e=0) :
  Calls Tryz.prog 36 #[.string s] w (ReadPost s w):=by
 have G1:=Lib.hid (fun W (hW:CurAt (w.heap.size+1) s ⟨0,0⟩ W)=>curNum_any (w.heap.size+1) s hs ⟨0,0⟩ (rst0_ok s) W hW)
 have G2:=Lib.hid (fun W (hW:CurAt (w.heap.size+1) s (numM s ⟨0,0⟩).2 W)=>curNum_any (w.heap.size+1) s hs (numM s ⟨0,0⟩).2 (numM_ok (rst0_ok s)) W hW)
 rw [hk] at G2
 replace G2:=Lib.hid (fun W (hW:CurAt (w.heap.size+1) s (numM s ⟨0,0⟩).2 W)=>(show CReads 35 #[.pointer (some ⟨w.heap.size+1,0,none⟩)] (w.heap.size+1) s W (.int .i64 4) (numM s (numM s ⟨0,0⟩).2).2 from G2.out W hW))
 have HNT:numTo s 6 (numM s ⟨0,0⟩).2=(numM s (numM s ⟨0,0⟩).2):=by unfold numTo;rw [if_neg (by rw [hk];decide)]
 have HQ:=Lib.hid (show rawM s=bodyM s (numM s ⟨0,0⟩).1 4 (numM s (numM s ⟨0,0⟩).2).2 by unfold rawM;rw [HNT,hk])
 have hok2:(numM s (numM s ⟨0,0⟩).2).2.ok s:=numM_ok (numM_ok (rst0_ok s))
 have GM0:=Lib.hid (fun W (hW:CurAt (w.heap.size+1) s (numM s (numM s ⟨0,0⟩).2).2 W)=>(show Calls Tryz.prog 61 #[.pointer (some ⟨w.heap.size+1,0,none⟩),.bool true] W (fun e w'=>e=.returned (.tuple #[])∧CurAt (w.heap.size+1) s (numM s (numM s ⟨0,0⟩).2).2 w'∧FrameT (fun k=>k=w.heap.size+1) W w') from by have:=curMust_any (w.heap.size+1) s (numM s (numM s ⟨0,0⟩).2).2 true W hW;simpa [mustM] using this))
 clear hk HNT
 have HZ:((w.alloc (.cells #[.int .i64 0,.int .i64 0,.slice none 0 0,.int .i64 0,.int .i64 0,.int .i64 0,.int .i64 0,.int .i64 0,.bool false,.bool false] 37)).alloc (.cells #[.string s,.int .i64 0,.int .i64 0] 68)).heap[w.heap.size+1]?=some (.cells #[.string s,.int .i64 0,.int .i64 0] 68 (0,0)):=by have:=World.alloc_heap_new (w.alloc (.cells #[.int .i64 0,.int .i64 0,.slice none 0 0,.int .i64 0,.int .i64 0,.int .i64 0,.int .i64 0,.int .i64 0,.bool false,.bool false] 37)) (.cells #[.string s,.int .i64 0,.int .i64 0] 68);rwa [World.size_alloc] at this
 have H0:CurAt (w.heap.size+1) s ⟨0,0⟩ ((w.alloc (.cells #[.int .i64 0,.int .i64 0,.slice none 0 0,.int .i64 0,.int .i64 0,.int .i64 0,.int .i64 0,.int .i64 0,.bool false,.bool false] 37)).alloc (.cells #[.string s,.int .i64 0,.int .i64 0] 68)):=HZ
 clear HZ
 have hr0:((w.alloc (.cells #[.int .i64 0,.int .i64 0,.slice none 0 0,.int .i64 0,.int .i64 0,.int .i64 0,.int .i64 0,.int .i64 0,.bool false,.bool false] 37)).alloc (.cells #[.string s,.int .i64 0,.int .i64 0] 68)).heap[w.heap.size]?=some (.cells #[.int .i64 0,.int .i64 0,.slice none 0 0,.int .i64 0,.int .i64 0,.int .i64 0,.int .i64 0,.int .i64 0,.bool false,.bool false] 37 (0,0)):=((bel_alloc (Below.refl _ _) _).block _ (by simp)).trans (World.alloc_heap_new w _)
 have hBz:Below w.heap.size w ((w.alloc (.cells #[.int .i64 0,.int .i64 0,.slice none 0 0,.int .i64 0,.int .i64 0,.int .i64 0,.int .i64 0,.int .i64 0,.bool false,.bool false] 37)).alloc (.cells #[.string s,.int .i64 0,.int .i64 0] 68)):=bel_alloc (bel_alloc (Below.refl _ _) _) _
 have hBs:w.heap.size<((w.alloc (.cells #[.int .i64 0,.int .i64 0,.slice none 0 0,.int .i64 0,.int .i64 0,.int .i64 0,.int .i64 0,.int .i64 0,.bool false,.bool false] 37)).alloc (.cells #[.string s,.int .i64 0,.int .i64 0] 68)).heap.size:=by simp;omega
 have hBt:w.heap.size+2≤((w.alloc (.cells #[.int .i64 0,.int .i64 0,.slice none 0 0,.int .i64 0,.int .i64 0,.int .i64 0,.int .i64 0,.int .i64 0,.bool false,.bool false] 37)).alloc (.cells #[.string s,.int .i64 0,.int .i64 0] 68)).heap.size:=by simp
 have hok3:=numM_ok hok2
 have G3:=Lib.hid (fun W (hW:CurAt (w.heap.size+1) s (numM s (numM s ⟨0,0⟩).2).2 W)=>curNum_any (w.heap.size+1) s hs _ hok2 W hW)
 have G4:=Lib.hid (fun W (hW:CurAt (w.heap.size+1) s (numM s (numM s (numM s ⟨0,0⟩).2).2).2 W)=>curNum_any (w.heap.size+1) s hs _ hok3 W hW)
 have HQ2:=Lib.hid (show bodyM s (numM s ⟨0,0⟩).1 4 (numM s (numM s ⟨0,0⟩).2).2=(⟨(numM s ⟨0,0⟩).1,4,[],0,0,0,(numM s (numM s (numM s ⟨0,0⟩).2).2).1,(numM s (numM s (numM s (numM s ⟨0,0⟩).2).2).2).1,false,false⟩,(numM s (numM s (numM s (numM s ⟨0,0⟩).2).2).2).2) from by simp [bodyM])
 rw [HQ2.out] at HQ
 clear HQ2 hok2 hok3
 generalize numM s (numM s (numM s (numM s ⟨0,0⟩).2).2).2=R4 at *
 generalize numM s (numM s (numM s ⟨0,0⟩).2).2=R3 at *
 generalize (numM s (numM s ⟨0,0⟩).2)=R2 at *
 generalize (numM s ⟨0,0⟩)=R1 at *
 obtain ⟨n1,s1⟩:=R1
 obtain ⟨m2,s2⟩:=R2
 obtain ⟨i,s3⟩:=R3
 obtain ⟨t,s4⟩:=R4
 obtain ⟨aF,eF⟩:=s4
 dsimp only at *
 obtain ⟨a2,q2⟩:=s2
 dsimp only at *
 subst he2

 by_cases he:eF=0
 ·subst he
  by_cases hI:isB (⟨n1,4,none,0,0,0,0,0,i,t,false,false⟩:PartC) []=true
  ·have HE:=Lib.hid (show errM (rawM s)=0 by rw [errM,HQ.out];simp only [ReadC.part];rw [if_neg (by rintro ⟨_,h⟩;exact absurd (hI.symm.trans h) (by decide))])
   have GI:=Lib.hid (fun W (hE:HasE W (⟨n1,4,none,0,0,0,0,0,i,t,false,false⟩:PartC) [])=>(show Gives Tryz.prog 28 #[(⟨n1,4,none,0,0,0,0,0,i,t,false,false⟩:PartC).val] W (.bool true) from by have:=refIs_any (⟨n1,4,none,0,0,0,0,0,i,t,false,false⟩:PartC) [] W hE;rwa [show isB (⟨n1,4,none,0,0,0,0,0,i,t,false,false⟩:PartC) []=true from hI] at this))
   dsimp only [PartC.val] at GI
   have GM:=Lib.hid (fun W (hW:CurAt (w.heap.size+1) s ⟨aF,0⟩ W)=>(show Calls Tryz.prog 61 #[.pointer (some ⟨w.heap.size+1,0,none⟩),.bool true] W (fun e w'=>e=.returned (.tuple #[])∧CurAt (w.heap.size+1) s ⟨aF,0⟩ w'∧FrameT (fun k=>k=w.heap.size+1) W w') from by have:=curMust_any (w.heap.size+1) s ⟨aF,0⟩ true W hW;simpa [mustM] using this))
   clear hI
   go_enter Tryz.func36,Tryz.ntmps36
   go_wp2_with (first
    | (go_at_call 35;((with_reducible refine (G1.out _ H0).mono ?_);rintro e w1 ⟨rfl,H1,hF⟩;have hr1:=hF.get hr0 (by omega);have hs1:=Nat.le_trans hBt hF.size;have hB1:=hBz.trans (hF.toBelow (Nat.le_of_lt hBs) (fun k hk=>by omega));clear hF))
    | (go_at_call 35;((with_reducible refine (G2.out _ H1).mono ?_);rintro e w2 ⟨rfl,H2,hF⟩;have hX:w2.heap.size≠w.heap.size+1:=(by have:=hF.size;omega);have hXr:w2.heap.size≠w.heap.size:=(by have:=hF.size;omega);have hr2:=hF.get hr1 (by omega);have hB2:=hB1.trans (hF.toBelow hB1.size (fun k hk=>by omega));clear hF;have hA2:=bel_alloc (Below.refl w2.heap.size w2) (.cells #[.int .i64 n1,.int .i64 4,.slice none 0 0,.int .i64 0,.int .i64 0,.int .i64 0,.int .i64 0,.int .i64 0,.bool false,.bool false] 37);have H2a:=H2.below hA2;have hr2a:=(hA2.block _ (heap_ltP hr2)).trans hr2;have hp2a:=World.alloc_heap_new w2 (.cells #[.int .i64 n1,.int .i64 4,.slice none 0 0,.int .i64 0,.int .i64 0,.int .i64 0,.int .i64 0,.int .i64 0,.bool false,.bool false] 37);have hB2a:=hB2.trans (hA2.mono hB2.size);have hs2:=hB2.size;have y0:(w2.alloc (.cells #[.int .i64 n1,.int .i64 4,.slice none 0 0,.int .i64 0,.int .i64 0,.int .i64 0,.int .i64 0,.int .i64 0,.bool false,.bool false] 37)).cell? ⟨w2.heap.size,0,none⟩=some (.int .i64 n1):=cell_of_row _ _ 0 _ _ _ hp2a;have y1:(w2.alloc (.cells #[.int .i64 n1,.int .i64 4,.slice none 0 0,.int .i64 0,.int .i64 0,.int .i64 0,.int .i64 0,.int .i64 0,.bool false,.bool false] 37)).cell? ⟨w2.heap.size,1,none⟩=some (.int .i64 4):=cell_of_row _ _ 1 _ _ _ hp2a;clear hA2))
    | (go_at_call 61;((with_reducible refine (GM0.out _ H2a).mono ?_);rintro e w3 ⟨rfl,H3,hF⟩;have hr3:=hF.get hr2a (by omega);have hp3:=hF.get hp2a hX;have hB3:=hB2a.trans (hF.toBelow hB2a.size (fun k hk=>by omega));have hX3:=heap_ltP hp3;clear hF y0 y1;obtain ⟨_,e1,e2,_,_⟩:=H3.cells;dsimp only at e1 e2;have yk:w3.cell? ⟨w2.heap.size,1,none⟩=some (.int .i64 4):=cell_of_row _ _ 1 _ _ _ hp3;skip))
    | (go_at_call 35;((with_reducible refine (G3.out _ H3).mono ?_);rintro e w4 ⟨rfl,H4,hF⟩;have hr4:=hF.get hr3 (by omega);have hp4:=hF.get hp3 hX;have hB4:=hB3.trans (hF.toBelow hB3.size (fun k hk=>by omega));clear hF;have p4f6:=frozen_of_row _ _ 6 _ _ hp4;have p4k6:w4.cell? ⟨w2.heap.size,6,none⟩=some (.int .i64 0):=cell_of_row _ _ 6 _ _ _ hp4;have hp4a:=Go.Joins.block_setCell (hp4) (.int .i64 i) (i:=6);simp only [List.setIfInBounds_toArray,List.set_cons_succ,List.set_cons_zero] at hp4a;have H4a:=(H4).st (i:=6) (v:=.int .i64 i) (Ne.symm hX);have hr4a:=blk_st (i:=6) (v:=.int .i64 i) (hr4) (Ne.symm hXr);have hB4a:=(hB4).setCell (p:=⟨w2.heap.size,6,none⟩) (show w.heap.size≤w2.heap.size by omega) (.int .i64 i)))
    | (go_at_call 35;((with_reducible refine (G4.out _ H4a).mono ?_);rintro e w5 ⟨rfl,H5,hF⟩;have hr5:=hF.get hr4a (by omega);have hp5:=hF.get hp4a hX;have hB5:=hB4a.trans (hF.toBelow hB4a.size (fun k hk=>by omega));clear hF;have p5f7:=frozen_of_row _ _ 7 _ _ hp5;have p5k7:w5.cell? ⟨w2.heap.size,7,none⟩=some (.int .i64 0):=cell_of_row _ _ 7 _ _ _ hp5;have hp5a:=Go.Joins.block_setCell (hp5) (.int .i64 t) (i:=7);simp only [List.setIfInBounds_toArray,List.set_cons_succ,List.set_cons_zero] at hp5a;have H5a:=(H5).st (i:=7) (v:=.int .i64 t) (Ne.symm hX);have hr5a:=blk_st (i:=7) (v:=.int .i64 t) (hr5) (Ne.symm hXr);have hB5a:=(hB5).setCell (p:=⟨w2.heap.size,7,none⟩) (show w.heap.size≤w2.heap.size by omega) (.int .i64 t);have HM:=Lib.hid (show MidC w s (w.heap.size+1) w2.heap.size (⟨n1,4,none,0,0,0,0,0,i,t,false,false⟩:PartC) [] ⟨aF,0⟩ (w5.setCell ⟨w2.heap.size,7,none⟩ (.int .i64 t)) from ⟨H5a,hp5a,hr5a,hasE_nil rfl rfl,fun k h=>absurd h inBlkE_nil,hB5a,fun k h=>absurd h inBlkE_nil⟩);obtain ⟨m1,m2,mf,y0,y1,y2,y3,y4,y5,y6,y7,y8,y9,r0,r1,r2,r3,r4,r5,r6,r7,r8,r9,v0,v1,v2,v3,v4,v5,v6,v7,v8,v9⟩:=HM.out.cells;dsimp only at m1 m2 y0 y1 y2 y3 y4 y5 y6 y7 y8 y9))
    | (go_at_call 28;((with_reducible refine (GI.out _ HM.out.ent).mono ?_);rintro e w9 ⟨rfl,hB9⟩;have HM9:=Lib.hid (HM.out.after hB9);clear hB9 y0 y1 y2 y3 y4 y5 y6 y7 y8 y9 r0 r1 r2 r3 r4 r5 r6 r7 r8 r9 v0 v1 v2 v3 v4 v5 v6 v7 v8 v9 m1 m2 mf))
    | (go_at_call 61;((with_reducible refine (GM.out _ HM9.out.rd).mono ?_);rintro e w10 ⟨rfl,H10,hF⟩;have hX9:=heap_ltP HM9.out.part;have hr10:=hF.get HM9.out.res (by omega);have hp10:=hF.get HM9.out.part hX;have hB10:=HM9.out.below.trans (hF.toBelow HM9.out.below.size (fun k hk=>by omega));have HM10:=Lib.hid (show MidC w s (w.heap.size+1) w2.heap.size _ _ ⟨aF,0⟩ w10 from ⟨H10,hp10,hr10,HM9.out.ent.moved HM9.out.offb hF,HM9.out.off,hB10,HM9.out.offb⟩);clear hF hr10 hp10 hB10;obtain ⟨m1,m2,mf,y0,y1,y2,y3,y4,y5,y6,y7,y8,y9,r0,r1,r2,r3,r4,r5,r6,r7,r8,r9,v0,v1,v2,v3,v4,v5,v6,v7,v8,v9⟩:=HM10.out.cells;dsimp only at m1 m2 y0 y1 y2 y3 y4 y5 y6 y7 y8 y9)))
   go_region
   go_wp2
   have hq:=st10_block (W:=w10) HM10.out.res (.int .i64 n1) (.int .i64 4) (.slice none 0 0) (.int .i64 0) (.int .i64 0) (.int .i64 0) (.int .i64 i) (.int .i64 t) (.bool false) (.bool false)
   have hBF:=Lib.hid ((st10_below HM10.out.below (Nat.le_refl _) (.int .i64 n1) (.int .i64 4) (.slice none 0 0) (.int .i64 0) (.int .i64 0) (.int .i64 0) (.int .i64 i) (.int .i64 t) (.bool false) (.bool false)).drew)
   have hEF:=Lib.hid (HasE.put10 (R:=w.heap.size) HM10.out.ent HM10.out.off (.int .i64 n1) (.int .i64 4) (.slice none 0 0) (.int .i64 0) (.int .i64 0) (.int .i64 0) (.int .i64 i) (.int .i64 t) (.bool false) (.bool false))
   have hOF:=Lib.hid HM10.out.off
   simp only [st10] at hq hBF hEF
   obtain ⟨c0,c1,c2,c3,c4,c5,c6,c7,c8,c9⟩:=arr10q hq
   refine bodyPost_ret (v:=.tuple #[.agg #[.int .i64 n1,.int .i64 4,.slice none 0 0,.int .i64 0,.int .i64 0,.int .i64 0,.int .i64 i,.int .i64 t,.bool false,.bool false],.int .i64 aF,.int .i64 0]) (by simp [results,Tryz.results36,go_sem,c0,c1,c2,c3,c4,c5,c6,c7,c8,c9]) rfl ?_
   exact readPost_ok (⟨n1,4,none,0,0,0,0,0,i,t,false,false⟩:PartC) [] aF HE.out (by rw [HQ.out];rfl) (by rw [HQ.out]) (by rw [HQ.out]) rfl hEF.out hBF.out hOF.out
  ·have hI:=Bool.eq_false_iff.2 hI
   have HE:=Lib.hid (show errM (rawM s)=11 by rw [errM,HQ.out];simp only [ReadC.part];rw [if_pos ⟨trivial,hI⟩])
   have GI:=Lib.hid (fun W (hE:HasE W (⟨n1,4,none,0,0,0,0,0,i,t,false,false⟩:PartC) [])=>(show Gives Tryz.prog 28 #[(⟨n1,4,none,0,0,0,0,0,i,t,false,false⟩:PartC).val] W (.bool false) from by have:=refIs_any (⟨n1,4,none,0,0,0,0,0,i,t,false,false⟩:PartC) [] W hE;rwa [show isB (⟨n1,4,none,0,0,0,0,0,i,t,false,false⟩:PartC) []=false from hI] at this))
   dsimp only [PartC.val] at GI
   have GM:=Lib.hid (fun W (hW:CurAt (w.heap.size+1) s ⟨aF,0⟩ W)=>(show Calls Tryz.prog 61 #[.pointer (some ⟨w.heap.size+1,0,none⟩),.bool false] W (fun e w'=>e=.returned (.tuple #[])∧CurAt (w.heap.size+1) s ⟨aF,11⟩ w'∧FrameT (fun k=>k=w.heap.size+1) W w') from by have:=curMust_any (w.heap.size+1) s ⟨aF,0⟩ false W hW;simpa [mustM] using this))
   clear hI
   go_enter Tryz.func36,Tryz.ntmps36
   go_wp2_with (first
    | (go_at_call 35;((with_reducible refine (G1.out _ H0).mono ?_);rintro e w1 ⟨rfl,H1,hF⟩;have hr1:=hF.get hr0 (by omega);have hs1:=Nat.le_trans hBt hF.size;have hB1:=hBz.trans (hF.toBelow (Nat.le_of_lt hBs) (fun k hk=>by omega));clear hF))
    | (go_at_call 35;((with_reducible refine (G2.out _ H1).mono ?_);rintro e w2 ⟨rfl,H2,hF⟩;have hX:w2.heap.size≠w.heap.size+1:=(by have:=hF.size;omega);have hXr:w2.heap.size≠w.heap.size:=(by have:=hF.size;omega);have hr2:=hF.get hr1 (by omega);have hB2:=hB1.trans (hF.toBelow hB1.size (fun k hk=>by omega));clear hF;have hA2:=bel_alloc (Below.refl w2.heap.size w2) (.cells #[.int .i64 n1,.int .i64 4,.slice none 0 0,.int .i64 0,.int .i64 0,.int .i64 0,.int .i64 0,.int .i64 0,.bool false,.bool false] 37);have H2a:=H2.below hA2;have hr2a:=(hA2.block _ (heap_ltP hr2)).trans hr2;have hp2a:=World.alloc_heap_new w2 (.cells #[.int .i64 n1,.int .i64 4,.slice none 0 0,.int .i64 0,.int .i64 0,.int .i64 0,.int .i64 0,.int .i64 0,.bool false,.bool false] 37);have hB2a:=hB2.trans (hA2.mono hB2.size);have hs2:=hB2.size;have y0:(w2.alloc (.cells #[.int .i64 n1,.int .i64 4,.slice none 0 0,.int .i64 0,.int .i64 0,.int .i64 0,.int .i64 0,.int .i64 0,.bool false,.bool false] 37)).cell? ⟨w2.heap.size,0,none⟩=some (.int .i64 n1):=cell_of_row _ _ 0 _ _ _ hp2a;have y1:(w2.alloc (.cells #[.int .i64 n1,.int .i64 4,.slice none 0 0,.int .i64 0,.int .i64 0,.int .i64 0,.int .i64 0,.int .i64 0,.bool false,.bool false] 37)).cell? ⟨w2.heap.size,1,none⟩=some (.int .i64 4):=cell_of_row _ _ 1 _ _ _ hp2a;clear hA2))
    | (go_at_call 61;((with_reducible refine (GM0.out _ H2a).mono ?_);rintro e w3 ⟨rfl,H3,hF⟩;have hr3:=hF.get hr2a (by omega);have hp3:=hF.get hp2a hX;have hB3:=hB2a.trans (hF.toBelow hB2a.size (fun k hk=>by omega));have hX3:=heap_ltP hp3;clear hF y0 y1;obtain ⟨_,e1,e2,_,_⟩:=H3.cells;dsimp only at e1 e2;have yk:w3.cell? ⟨w2.heap.size,1,none⟩=some (.int .i64 4):=cell_of_row _ _ 1 _ _ _ hp3;skip))
    | (go_at_call 35;((with_reducible refine (G3.out _ H3).mono ?_);rintro e w4 ⟨rfl,H4,hF⟩;have hr4:=hF.get hr3 (by omega);have hp4:=hF.get hp3 hX;have hB4:=hB3.trans (hF.toBelow hB3.size (fun k hk=>by omega));clear hF;have p4f6:=frozen_of_row _ _ 6 _ _ hp4;have p4k6:w4.cell? ⟨w2.heap.size,6,none⟩=some (.int .i64 0):=cell_of_row _ _ 6 _ _ _ hp4;have hp4a:=Go.Joins.block_setCell (hp4) (.int .i64 i) (i:=6);simp only [List.setIfInBounds_toArray,List.set_cons_succ,List.set_cons_zero] at hp4a;have H4a:=(H4).st (i:=6) (v:=.int .i64 i) (Ne.symm hX);have hr4a:=blk_st (i:=6) (v:=.int .i64 i) (hr4) (Ne.symm hXr);have hB4a:=(hB4).setCell (p:=⟨w2.heap.size,6,none⟩) (show w.heap.size≤w2.heap.size by omega) (.int .i64 i)))
    | (go_at_call 35;((with_reducible refine (G4.out _ H4a).mono ?_);rintro e w5 ⟨rfl,H5,hF⟩;have hr5:=hF.get hr4a (by omega);have hp5:=hF.get hp4a hX;have hB5:=hB4a.trans (hF.toBelow hB4a.size (fun k hk=>by omega));clear hF;have p5f7:=frozen_of_row _ _ 7 _ _ hp5;have p5k7:w5.cell? ⟨w2.heap.size,7,none⟩=some (.int .i64 0):=cell_of_row _ _ 7 _ _ _ hp5;have hp5a:=Go.Joins.block_setCell (hp5) (.int .i64 t) (i:=7);simp only [List.setIfInBounds_toArray,List.set_cons_succ,List.set_cons_zero] at hp5a;have H5a:=(H5).st (i:=7) (v:=.int .i64 t) (Ne.symm hX);have hr5a:=blk_st (i:=7) (v:=.int .i64 t) (hr5) (Ne.symm hXr);have hB5a:=(hB5).setCell (p:=⟨w2.heap.size,7,none⟩) (show w.heap.size≤w2.heap.size by omega) (.int .i64 t);have HM:=Lib.hid (show MidC w s (w.heap.size+1) w2.heap.size (⟨n1,4,none,0,0,0,0,0,i,t,false,false⟩:PartC) [] ⟨aF,0⟩ (w5.setCell ⟨w2.heap.size,7,none⟩ (.int .i64 t)) from ⟨H5a,hp5a,hr5a,hasE_nil rfl rfl,fun k h=>absurd h inBlkE_nil,hB5a,fun k h=>absurd h inBlkE_nil⟩);obtain ⟨m1,m2,mf,y0,y1,y2,y3,y4,y5,y6,y7,y8,y9,r0,r1,r2,r3,r4,r5,r6,r7,r8,r9,v0,v1,v2,v3,v4,v5,v6,v7,v8,v9⟩:=HM.out.cells;dsimp only at m1 m2 y0 y1 y2 y3 y4 y5 y6 y7 y8 y9))
    | (go_at_call 28;((with_reducible refine (GI.out _ HM.out.ent).mono ?_);rintro e w9 ⟨rfl,hB9⟩;have HM9:=Lib.hid (HM.out.after hB9);clear hB9 y0 y1 y2 y3 y4 y5 y6 y7 y8 y9 r0 r1 r2 r3 r4 r5 r6 r7 r8 r9 v0 v1 v2 v3 v4 v5 v6 v7 v8 v9 m1 m2 mf))
    | (go_at_call 61;((with_reducible refine (GM.out _ HM9.out.rd).mono ?_);rintro e w10 ⟨rfl,H10,hF⟩;have hX9:=heap_ltP HM9.out.part;have hr10:=hF.get HM9.out.res (by omega);have hp10:=hF.get HM9.out.part hX;have hB10:=HM9.out.below.trans (hF.toBelow HM9.out.below.size (fun k hk=>by omega));have HM10:=Lib.hid (show MidC w s (w.heap.size+1) w2.heap.size _ _ ⟨aF,11⟩ w10 from ⟨H10,hp10,hr10,HM9.out.ent.moved HM9.out.offb hF,HM9.out.off,hB10,HM9.out.offb⟩);clear hF hr10 hp10 hB10;obtain ⟨m1,m2,mf,y0,y1,y2,y3,y4,y5,y6,y7,y8,y9,r0,r1,r2,r3,r4,r5,r6,r7,r8,r9,v0,v1,v2,v3,v4,v5,v6,v7,v8,v9⟩:=HM10.out.cells;dsimp only at m1 m2 y0 y1 y2 y3 y4 y5 y6 y7 y8 y9)))
   go_region
   go_wp2
   have hq:=st10_block (W:=w10) HM10.out.res (.int .i64 0) (.int .i64 0) (.slice none 0 0) (.int .i64 0) (.int .i64 0) (.int .i64 0) (.int .i64 0) (.int .i64 0) (.bool false) (.bool false)
   have hBF:=Lib.hid ((st10_below HM10.out.below (Nat.le_refl _) (.int .i64 0) (.int .i64 0) (.slice none 0 0) (.int .i64 0) (.int .i64 0) (.int .i64 0) (.int .i64 0) (.int .i64 0) (.bool false) (.bool false)).drew)
   simp only [st10] at hq hBF
   obtain ⟨c0,c1,c2,c3,c4,c5,c6,c7,c8,c9⟩:=arr10q hq
   refine bodyPost_ret (v:=.tuple #[.agg #[.int .i64 0,.int .i64 0,.slice none 0 0,.int .i64 0,.int .i64 0,.int .i64 0,.int .i64 0,.int .i64 0,.bool false,.bool false],.int .i64 0,.int .i64 11]) (by simp [results,Tryz.results36,go_sem,c0,c1,c2,c3,c4,c5,c6,c7,c8,c9]) rfl ?_
   exact readPost_err 11 HE.out (by decide) rfl hBF.out
 ·have HE:=Lib.hid (show errM (rawM s)=eF by rw [errM,HQ.out];dsimp only;rw [if_neg (by rintro ⟨h,_⟩;exact he h)])
  have he1:(0:Int)<(eF:Int):=by omega
  have HN:=Lib.hid he
  have GM:=Lib.hid (fun (bb:Bool) W (hW:CurAt (w.heap.size+1) s ⟨aF,eF⟩ W)=>(show Calls Tryz.prog 61 #[.pointer (some ⟨w.heap.size+1,0,none⟩),.bool bb] W (fun e w'=>e=.returned (.tuple #[])∧CurAt (w.heap.size+1) s ⟨aF,eF⟩ w'∧FrameT (fun k=>k=w.heap.size+1) W w') from by have:=curMust_any (w.heap.size+1) s ⟨aF,eF⟩ bb W hW;simpa [mustM,he] using this))
  clear he
  go_enter Tryz.func36,Tryz.ntmps36
  go_wp2_with (first
   | (go_at_call 35;((with_reducible refine (G1.out _ H0).mono ?_);rintro e w1 ⟨rfl,H1,hF⟩;have hr1:=hF.get hr0 (by omega);have hs1:=Nat.le_trans hBt hF.size;have hB1:=hBz.trans (hF.toBelow (Nat.le_of_lt hBs) (fun k hk=>by omega));clear hF))
   | (go_at_call 35;((with_reducible refine (G2.out _ H1).mono ?_);rintro e w2 ⟨rfl,H2,hF⟩;have hX:w2.heap.size≠w.heap.size+1:=(by have:=hF.size;omega);have hXr:w2.heap.size≠w.heap.size:=(by have:=hF.size;omega);have hr2:=hF.get hr1 (by omega);have hB2:=hB1.trans (hF.toBelow hB1.size (fun k hk=>by omega));clear hF;have hA2:=bel_alloc (Below.refl w2.heap.size w2) (.cells #[.int .i64 n1,.int .i64 4,.slice none 0 0,.int .i64 0,.int .i64 0,.int .i64 0,.int .i64 0,.int .i64 0,.bool false,.bool false] 37);have H2a:=H2.below hA2;have hr2a:=(hA2.block _ (heap_ltP hr2)).trans hr2;have hp2a:=World.alloc_heap_new w2 (.cells #[.int .i64 n1,.int .i64 4,.slice none 0 0,.int .i64 0,.int .i64 0,.int .i64 0,.int .i64 0,.int .i64 0,.bool false,.bool false] 37);have hB2a:=hB2.trans (hA2.mono hB2.size);have hs2:=hB2.size;have y0:(w2.alloc (.cells #[.int .i64 n1,.int .i64 4,.slice none 0 0,.int .i64 0,.int .i64 0,.int .i64 0,.int .i64 0,.int .i64 0,.bool false,.bool false] 37)).cell? ⟨w2.heap.size,0,none⟩=some (.int .i64 n1):=cell_of_row _ _ 0 _ _ _ hp2a;have y1:(w2.alloc (.cells #[.int .i64 n1,.int .i64 4,.slice none 0 0,.int .i64 0,.int .i64 0,.int .i64 0,.int .i64 0,.int .i64 0,.bool false,.bool false] 37)).cell? ⟨w2.heap.size,1,none⟩=some (.int .i64 4):=cell_of_row _ _ 1 _ _ _ hp2a;clear hA2))
   | (go_at_call 61;((with_reducible refine (GM0.out _ H2a).mono ?_);rintro e w3 ⟨rfl,H3,hF⟩;have hr3:=hF.get hr2a (by omega);have hp3:=hF.get hp2a hX;have hB3:=hB2a.trans (hF.toBelow hB2a.size (fun k hk=>by omega));have hX3:=heap_ltP hp3;clear hF y0 y1;obtain ⟨_,e1,e2,_,_⟩:=H3.cells;dsimp only at e1 e2;have yk:w3.cell? ⟨w2.heap.size,1,none⟩=some (.int .i64 4):=cell_of_row _ _ 1 _ _ _ hp3;skip))
   | (go_at_call 35;((with_reducible refine (G3.out _ H3).mono ?_);rintro e w4 ⟨rfl,H4,hF⟩;have hr4:=hF.get hr3 (by omega);have hp4:=hF.get hp3 hX;have hB4:=hB3.trans (hF.toBelow hB3.size (fun k hk=>by omega));clear hF;have p4f6:=frozen_of_row _ _ 6 _ _ hp4;have p4k6:w4.cell? ⟨w2.heap.size,6,none⟩=some (.int .i64 0):=cell_of_row _ _ 6 _ _ _ hp4;have hp4a:=Go.Joins.block_setCell (hp4) (.int .i64 i) (i:=6);simp only [List.setIfInBounds_toArray,List.set_cons_succ,List.set_cons_zero] at hp4a;have H4a:=(H4).st (i:=6) (v:=.int .i64 i) (Ne.symm hX);have hr4a:=blk_st (i:=6) (v:=.int .i64 i) (hr4) (Ne.symm hXr);have hB4a:=(hB4).setCell (p:=⟨w2.heap.size,6,none⟩) (show w.heap.size≤w2.heap.size by omega) (.int .i64 i)))
   | (go_at_call 35;((with_reducible refine (G4.out _ H4a).mono ?_);rintro e w5 ⟨rfl,H5,hF⟩;have hr5:=hF.get hr4a (by omega);have hp5:=hF.get hp4a hX;have hB5:=hB4a.trans (hF.toBelow hB4a.size (fun k hk=>by omega));clear hF;have p5f7:=frozen_of_row _ _ 7 _ _ hp5;have p5k7:w5.cell? ⟨w2.heap.size,7,none⟩=some (.int .i64 0):=cell_of_row _ _ 7 _ _ _ hp5;have hp5a:=Go.Joins.block_setCell (hp5) (.int .i64 t) (i:=7);simp only [List.setIfInBounds_toArray,List.set_cons_succ,List.set_cons_zero] at hp5a;have H5a:=(H5).st (i:=7) (v:=.int .i64 t) (Ne.symm hX);have hr5a:=blk_st (i:=7) (v:=.int .i64 t) (hr5) (Ne.symm hXr);have hB5a:=(hB5).setCell (p:=⟨w2.heap.size,7,none⟩) (show w.heap.size≤w2.heap.size by omega) (.int .i64 t);have HM:=Lib.hid (show MidC w s (w.heap.size+1) w2.heap.size (⟨n1,4,none,0,0,0,0,0,i,t,false,false⟩:PartC) [] ⟨aF,eF⟩ (w5.setCell ⟨w2.heap.size,7,none⟩ (.int .i64 t)) from ⟨H5a,hp5a,hr5a,hasE_nil rfl rfl,fun k h=>absurd h inBlkE_nil,hB5a,fun k h=>absurd h inBlkE_nil⟩);obtain ⟨m1,m2,mf,y0,y1,y2,y3,y4,y5,y6,y7,y8,y9,r0,r1,r2,r3,r4,r5,r6,r7,r8,r9,v0,v1,v2,v3,v4,v5,v6,v7,v8,v9⟩:=HM.out.cells;dsimp only at m1 m2 y0 y1 y2 y3 y4 y5 y6 y7 y8 y9))
   | (go_at_call 28;((with_reducible refine (refIs_any _ _ _ HM.out.ent).mono ?_);rintro e w9 ⟨rfl,hB9⟩;have HM9:=Lib.hid (HM.out.after hB9);clear hB9 y0 y1 y2 y3 y4 y5 y6 y7 y8 y9 r0 r1 r2 r3 r4 r5 r6 r7 r8 r9 v0 v1 v2 v3 v4 v5 v6 v7 v8 v9 m1 m2 mf))
   | (go_at_call 61;((with_reducible refine (GM.out _ _ HM9.out.rd).mono ?_);rintro e w10 ⟨rfl,H10,hF⟩;have hX9:=heap_ltP HM9.out.part;have hr10:=hF.get HM9.out.res (by omega);have hp10:=hF.get HM9.out.part hX;have hB10:=HM9.out.below.trans (hF.toBelow HM9.out.below.size (fun k hk=>by omega));have HM10:=Lib.hid (show MidC w s (w.heap.size+1) w2.heap.size _ _ ⟨aF,eF⟩ w10 from ⟨H10,hp10,hr10,HM9.out.ent.moved HM9.out.offb hF,HM9.out.off,hB10,HM9.out.offb⟩);clear hF hr10 hp10 hB10;obtain ⟨m1,m2,mf,y0,y1,y2,y3,y4,y5,y6,y7,y8,y9,r0,r1,r2,r3,r4,r5,r6,r7,r8,r9,v0,v1,v2,v3,v4,v5,v6,v7,v8,v9⟩:=HM10.out.cells;dsimp only at m1 m2 y0 y1 y2 y3 y4 y5 y6 y7 y8 y9)))
  go_region
  go_wp2
  have hq:=st10_block (W:=w10) HM10.out.res (.int .i64 0) (.int .i64 0) (.slice none 0 0) (.int .i64 0) (.int .i64 0) (.int .i64 0) (.int .i64 0) (.int .i64 0) (.bool false) (.bool false)
  have hBF:=Lib.hid ((st10_below HM10.out.below (Nat.le_refl _) (.int .i64 0) (.int .i64 0) (.slice none 0 0) (.int .i64 0) (.int .i64 0) (.int .i64 0) (.int .i64 0) (.int .i64 0) (.bool false) (.bool false)).drew)
  simp only [st10] at hq hBF
  obtain ⟨c0,c1,c2,c3,c4,c5,c6,c7,c8,c9⟩:=arr10q hq
  refine bodyPost_ret (v:=.tuple #[.agg #[.int .i64 0,.int .i64 0,.slice none 0 0,.int .i64 0,.int .i64 0,.int .i64 0,.int .i64 0,.int .i64 0,.bool false,.bool false],.int .i64 0,.int .i64 eF]) (by simp [results,Tryz.results36,go_sem,c0,c1,c2,c3,c4,c5,c6,c7,c8,c9]) rfl ?_
  exact readPost_err eF HE.out HN.out rfl hBF.out

set_option maxRecDepth 100000 in
set_option maxHeartbeats 8000000 in
theorem refRead1_any (s:ByteArray) (hs:s.size<4611686018427387904) (w:World) (hk:(numM s (numM s ⟨0,0⟩).2).1=1) (he2:(numM s (numM s ⟨0,0⟩).2).2.e=0) :
  Calls Tryz.prog 36 #[.string s] w (ReadPost s w):=by
 have G1:=Lib.hid (fun W (hW:CurAt (w.heap.size+1) s ⟨0,0⟩ W)=>curNum_any (w.heap.size+1) s hs ⟨0,0⟩ (rst0_ok s) W hW)
 have G2:=Lib.hid (fun W (hW:CurAt (w.heap.size+1) s (numM s ⟨0,0⟩).2 W)=>curNum_any (w.heap.size+1) s hs (numM s ⟨0,0⟩).2 (numM_ok (rst0_ok s)) W hW)
 rw [hk] at G2
 replace G2:=Lib.hid (fun W (hW:CurAt (w.heap.size+1) s (numM s ⟨0,0⟩).2 W)=>(show CReads 35 #[.pointer (some ⟨w.heap.size+1,0,none⟩)] (w.heap.size+1) s W (.int .i64 1) (numM s (numM s ⟨0,0⟩).2).2 from G2.out W hW))
 have HNT:numTo s 6 (numM s ⟨0,0⟩).2=(numM s (numM s ⟨0,0⟩).2):=by unfold numTo;rw [if_neg (by rw [hk];decide)]
 have HQ:=Lib.hid (show rawM s=bodyM s (numM s ⟨0,0⟩).1 1 (numM s (numM s ⟨0,0⟩).2).2 by unfold rawM;rw [HNT,hk])
 have hok2:(numM s (numM s ⟨0,0⟩).2).2.ok s:=numM_ok (numM_ok (rst0_ok s))
 have GM0:=Lib.hid (fun W (hW:CurAt (w.heap.size+1) s (numM s (numM s ⟨0,0⟩).2).2 W)=>(show Calls Tryz.prog 61 #[.pointer (some ⟨w.heap.size+1,0,none⟩),.bool true] W (fun e w'=>e=.returned (.tuple #[])∧CurAt (w.heap.size+1) s (numM s (numM s ⟨0,0⟩).2).2 w'∧FrameT (fun k=>k=w.heap.size+1) W w') from by have:=curMust_any (w.heap.size+1) s (numM s (numM s ⟨0,0⟩).2).2 true W hW;simpa [mustM] using this))
 clear hk HNT
 have HZ:((w.alloc (.cells #[.int .i64 0,.int .i64 0,.slice none 0 0,.int .i64 0,.int .i64 0,.int .i64 0,.int .i64 0,.int .i64 0,.bool false,.bool false] 37)).alloc (.cells #[.string s,.int .i64 0,.int .i64 0] 68)).heap[w.heap.size+1]?=some (.cells #[.string s,.int .i64 0,.int .i64 0] 68 (0,0)):=by have:=World.alloc_heap_new (w.alloc (.cells #[.int .i64 0,.int .i64 0,.slice none 0 0,.int .i64 0,.int .i64 0,.int .i64 0,.int .i64 0,.int .i64 0,.bool false,.bool false] 37)) (.cells #[.string s,.int .i64 0,.int .i64 0] 68);rwa [World.size_alloc] at this
 have H0:CurAt (w.heap.size+1) s ⟨0,0⟩ ((w.alloc (.cells #[.int .i64 0,.int .i64 0,.slice none 0 0,.int .i64 0,.int .i64 0,.int .i64 0,.int .i64 0,.int .i64 0,.bool false,.bool false] 37)).alloc (.cells #[.string s,.int .i64 0,.int .i64 0] 68)):=HZ
 clear HZ
 have hr0:((w.alloc (.cells #[.int .i64 0,.int .i64 0,.slice none 0 0,.int .i64 0,.int .i64 0,.int .i64 0,.int .i64 0,.int .i64 0,.bool false,.bool false] 37)).alloc (.cells #[.string s,.int .i64 0,.int .i64 0] 68)).heap[w.heap.size]?=some (.cells #[.int .i64 0,.int .i64 0,.slice none 0 0,.int .i64 0,.int .i64 0,.int .i64 0,.int .i64 0,.int .i64 0,.bool false,.bool false] 37 (0,0)):=((bel_alloc (Below.refl _ _) _).block _ (by simp)).trans (World.alloc_heap_new w _)
 have hBz:Below w.heap.size w ((w.alloc (.cells #[.int .i64 0,.int .i64 0,.slice none 0 0,.int .i64 0,.int .i64 0,.int .i64 0,.int .i64 0,.int .i64 0,.bool false,.bool false] 37)).alloc (.cells #[.string s,.int .i64 0,.int .i64 0] 68)):=bel_alloc (bel_alloc (Below.refl _ _) _) _
 have hBs:w.heap.size<((w.alloc (.cells #[.int .i64 0,.int .i64 0,.slice none 0 0,.int .i64 0,.int .i64 0,.int .i64 0,.int .i64 0,.int .i64 0,.bool false,.bool false] 37)).alloc (.cells #[.string s,.int .i64 0,.int .i64 0] 68)).heap.size:=by simp;omega
 have hBt:w.heap.size+2≤((w.alloc (.cells #[.int .i64 0,.int .i64 0,.slice none 0 0,.int .i64 0,.int .i64 0,.int .i64 0,.int .i64 0,.int .i64 0,.bool false,.bool false] 37)).alloc (.cells #[.string s,.int .i64 0,.int .i64 0] 68)).heap.size:=by simp
 have GC:=Lib.hid (fun W (hW:CurAt (w.heap.size+1) s (numM s (numM s ⟨0,0⟩).2).2 W)=>close_any (w.heap.size+1) s hs (numM s (numM s ⟨0,0⟩).2).2 hok2 W hW)
 have HQ2:=Lib.hid (show bodyM s (numM s ⟨0,0⟩).1 1 (numM s (numM s ⟨0,0⟩).2).2=(⟨(numM s ⟨0,0⟩).1,1,(entM s (idxFrom (numM s (numTo s 6 (numM s (numM s ⟨0,0⟩).2).2).2).1) (numTo s 6 (numM s (numM s ⟨0,0⟩).2).2).1 0 (numM s (numTo s 6 (numM s (numM s ⟨0,0⟩).2).2).2).2).1,0,0,0,0,0,false,false⟩,(entM s (idxFrom (numM s (numTo s 6 (numM s (numM s ⟨0,0⟩).2).2).2).1) (numTo s 6 (numM s (numM s ⟨0,0⟩).2).2).1 0 (numM s (numTo s 6 (numM s (numM s ⟨0,0⟩).2).2).2).2).2) from by simp [bodyM])
 rw [HQ2.out] at HQ
 clear HQ2 hok2
 generalize (entM s (idxFrom (numM s (numTo s 6 (numM s (numM s ⟨0,0⟩).2).2).2).1) (numTo s 6 (numM s (numM s ⟨0,0⟩).2).2).1 0 (numM s (numTo s 6 (numM s (numM s ⟨0,0⟩).2).2).2).2)=R5 at *
 generalize (numM s (numM s ⟨0,0⟩).2)=R2 at *
 generalize (numM s ⟨0,0⟩)=R1 at *
 obtain ⟨n1,s1⟩:=R1
 obtain ⟨m2,s2⟩:=R2
 obtain ⟨xs,s5⟩:=R5
 obtain ⟨aF,eF⟩:=s5
 dsimp only at *
 obtain ⟨a2,q2⟩:=s2
 dsimp only at *
 subst he2

 by_cases he:eF=0
 ·subst he
  by_cases hI:isB (⟨n1,1,none,xs.length,0,0,0,0,0,0,false,false⟩:PartC) xs=true
  ·have HE:=Lib.hid (show errM (rawM s)=0 by rw [errM,HQ.out];simp only [ReadC.part];rw [if_neg (by rintro ⟨_,h⟩;exact absurd (hI.symm.trans h) (by decide))])
   have GI:=Lib.hid (fun (a:Option Addr) (c:Nat) W (hE:HasE W (⟨n1,1,a,xs.length,c,0,0,0,0,0,false,false⟩:PartC) xs)=>(show Gives Tryz.prog 28 #[(⟨n1,1,a,xs.length,c,0,0,0,0,0,false,false⟩:PartC).val] W (.bool true) from by have:=refIs_any (⟨n1,1,a,xs.length,c,0,0,0,0,0,false,false⟩:PartC) xs W hE;rwa [show isB (⟨n1,1,a,xs.length,c,0,0,0,0,0,false,false⟩:PartC) xs=true from (isB_addr _ _ _ _ _ _ _ _ _ _ _ _ _).trans hI] at this))
   dsimp only [PartC.val] at GI
   have GM:=Lib.hid (fun W (hW:CurAt (w.heap.size+1) s ⟨aF,0⟩ W)=>(show Calls Tryz.prog 61 #[.pointer (some ⟨w.heap.size+1,0,none⟩),.bool true] W (fun e w'=>e=.returned (.tuple #[])∧CurAt (w.heap.size+1) s ⟨aF,0⟩ w'∧FrameT (fun k=>k=w.heap.size+1) W w') from by have:=curMust_any (w.heap.size+1) s ⟨aF,0⟩ true W hW;simpa [mustM] using this))
   clear hI
   go_enter Tryz.func36,Tryz.ntmps36
   go_wp2_with (first
    | (go_at_call 35;((with_reducible refine (G1.out _ H0).mono ?_);rintro e w1 ⟨rfl,H1,hF⟩;have hr1:=hF.get hr0 (by omega);have hs1:=Nat.le_trans hBt hF.size;have hB1:=hBz.trans (hF.toBelow (Nat.le_of_lt hBs) (fun k hk=>by omega));clear hF))
    | (go_at_call 35;((with_reducible refine (G2.out _ H1).mono ?_);rintro e w2 ⟨rfl,H2,hF⟩;have hX:w2.heap.size≠w.heap.size+1:=(by have:=hF.size;omega);have hXr:w2.heap.size≠w.heap.size:=(by have:=hF.size;omega);have hr2:=hF.get hr1 (by omega);have hB2:=hB1.trans (hF.toBelow hB1.size (fun k hk=>by omega));clear hF;have hA2:=bel_alloc (Below.refl w2.heap.size w2) (.cells #[.int .i64 n1,.int .i64 1,.slice none 0 0,.int .i64 0,.int .i64 0,.int .i64 0,.int .i64 0,.int .i64 0,.bool false,.bool false] 37);have H2a:=H2.below hA2;have hr2a:=(hA2.block _ (heap_ltP hr2)).trans hr2;have hp2a:=World.alloc_heap_new w2 (.cells #[.int .i64 n1,.int .i64 1,.slice none 0 0,.int .i64 0,.int .i64 0,.int .i64 0,.int .i64 0,.int .i64 0,.bool false,.bool false] 37);have hB2a:=hB2.trans (hA2.mono hB2.size);have hs2:=hB2.size;have y0:(w2.alloc (.cells #[.int .i64 n1,.int .i64 1,.slice none 0 0,.int .i64 0,.int .i64 0,.int .i64 0,.int .i64 0,.int .i64 0,.bool false,.bool false] 37)).cell? ⟨w2.heap.size,0,none⟩=some (.int .i64 n1):=cell_of_row _ _ 0 _ _ _ hp2a;have y1:(w2.alloc (.cells #[.int .i64 n1,.int .i64 1,.slice none 0 0,.int .i64 0,.int .i64 0,.int .i64 0,.int .i64 0,.int .i64 0,.bool false,.bool false] 37)).cell? ⟨w2.heap.size,1,none⟩=some (.int .i64 1):=cell_of_row _ _ 1 _ _ _ hp2a;clear hA2))
    | (go_at_call 61;((with_reducible refine (GM0.out _ H2a).mono ?_);rintro e w3 ⟨rfl,H3,hF⟩;have hr3:=hF.get hr2a (by omega);have hp3:=hF.get hp2a hX;have hB3:=hB2a.trans (hF.toBelow hB2a.size (fun k hk=>by omega));have hX3:=heap_ltP hp3;clear hF y0 y1;obtain ⟨_,e1,e2,_,_⟩:=H3.cells;dsimp only at e1 e2;have yk:w3.cell? ⟨w2.heap.size,1,none⟩=some (.int .i64 1):=cell_of_row _ _ 1 _ _ _ hp3;skip))
    | (go_at_call 62;((with_reducible refine (GC.out _ H3).mono ?_);rintro e w4 ⟨v,zs,rfl,hz6,hzq,H4,hown,hF⟩;obtain rfl:xs=zs:=(hzq (by first | rfl | trivial)).symm;obtain ⟨xa,xc,rfl,hrow,hoff⟩:=own_ent hown;have hr4:=hF.get hr3 (by omega);have hp4:=hF.get hp3 hX;have hB4:=hB3.trans (hF.toBelow hB3.size (fun k hk=>by omega));have hs3:=hB3.size;have hR3:=heap_ltP hr3;have hb3:=H3.lt;clear hF hown;have p4f2:=frozen_of_row _ _ 2 _ _ hp4;have p4k2:w4.cell? ⟨w2.heap.size,2,none⟩=some (.slice none 0 0):=cell_of_row _ _ 2 _ _ _ hp4;have hp4a:=Go.Joins.block_setCell (hp4) (.slice xa xs.length xc) (i:=2);simp only [List.setIfInBounds_toArray,List.set_cons_succ,List.set_cons_zero] at hp4a;have H4a:=(H4).st (i:=2) (v:=.slice xa xs.length xc) (Ne.symm hX);have hr4a:=blk_st (i:=2) (v:=.slice xa xs.length xc) (hr4) (Ne.symm hXr);have hB4a:=(hB4).setCell (p:=⟨w2.heap.size,2,none⟩) (show w.heap.size≤w2.heap.size by omega) (.slice xa xs.length xc);have hent:HasE (w4.setCell ⟨w2.heap.size,2,none⟩ (.slice xa xs.length xc)) (⟨n1,1,xa,xs.length,xc,0,0,0,0,0,false,false⟩:PartC) xs:=HasE.off (R:=w2.heap.size) (W:=w4) ⟨rfl,(by dsimp only;omega),hrow⟩ (fun k hk=>by have:=hoff k hk;omega) (fun k hk=>heap_setCell_other _ ⟨w2.heap.size,2,none⟩ _ _ hk) (by simp);have HM:=Lib.hid (show MidC w s (w.heap.size+1) w2.heap.size (⟨n1,1,xa,xs.length,xc,0,0,0,0,0,false,false⟩:PartC) xs ⟨aF,0⟩ (w4.setCell ⟨w2.heap.size,2,none⟩ (.slice xa xs.length xc)) from ⟨H4a,hp4a,hr4a,hent,fun k hk=>by have:=hoff k hk;omega,hB4a,fun k hk=>by have:=hoff k hk;omega⟩);obtain ⟨m1,m2,mf,y0,y1,y2,y3,y4,y5,y6,y7,y8,y9,r0,r1,r2,r3,r4,r5,r6,r7,r8,r9,v0,v1,v2,v3,v4,v5,v6,v7,v8,v9⟩:=HM.out.cells;dsimp only at m1 m2 y0 y1 y2 y3 y4 y5 y6 y7 y8 y9;clear hent hrow))
    | (go_at_call 28;((with_reducible refine (GI.out _ _ _ HM.out.ent).mono ?_);rintro e w9 ⟨rfl,hB9⟩;have HM9:=Lib.hid (HM.out.after hB9);clear hB9 y0 y1 y2 y3 y4 y5 y6 y7 y8 y9 r0 r1 r2 r3 r4 r5 r6 r7 r8 r9 v0 v1 v2 v3 v4 v5 v6 v7 v8 v9 m1 m2 mf))
    | (go_at_call 61;((with_reducible refine (GM.out _ HM9.out.rd).mono ?_);rintro e w10 ⟨rfl,H10,hF⟩;have hX9:=heap_ltP HM9.out.part;have hr10:=hF.get HM9.out.res (by omega);have hp10:=hF.get HM9.out.part hX;have hB10:=HM9.out.below.trans (hF.toBelow HM9.out.below.size (fun k hk=>by omega));have HM10:=Lib.hid (show MidC w s (w.heap.size+1) w2.heap.size _ _ ⟨aF,0⟩ w10 from ⟨H10,hp10,hr10,HM9.out.ent.moved HM9.out.offb hF,HM9.out.off,hB10,HM9.out.offb⟩);clear hF hr10 hp10 hB10;obtain ⟨m1,m2,mf,y0,y1,y2,y3,y4,y5,y6,y7,y8,y9,r0,r1,r2,r3,r4,r5,r6,r7,r8,r9,v0,v1,v2,v3,v4,v5,v6,v7,v8,v9⟩:=HM10.out.cells;dsimp only at m1 m2 y0 y1 y2 y3 y4 y5 y6 y7 y8 y9)))
   go_region
   go_wp2
   have hq:=st10_block (W:=w10) HM10.out.res (.int .i64 n1) (.int .i64 1) (.slice xa xs.length xc) (.int .i64 0) (.int .i64 0) (.int .i64 0) (.int .i64 0) (.int .i64 0) (.bool false) (.bool false)
   have hBF:=Lib.hid ((st10_below HM10.out.below (Nat.le_refl _) (.int .i64 n1) (.int .i64 1) (.slice xa xs.length xc) (.int .i64 0) (.int .i64 0) (.int .i64 0) (.int .i64 0) (.int .i64 0) (.bool false) (.bool false)).drew)
   have hEF:=Lib.hid (HasE.put10 (R:=w.heap.size) HM10.out.ent HM10.out.off (.int .i64 n1) (.int .i64 1) (.slice xa xs.length xc) (.int .i64 0) (.int .i64 0) (.int .i64 0) (.int .i64 0) (.int .i64 0) (.bool false) (.bool false))
   have hOF:=Lib.hid HM10.out.off
   simp only [st10] at hq hBF hEF
   obtain ⟨c0,c1,c2,c3,c4,c5,c6,c7,c8,c9⟩:=arr10q hq
   refine bodyPost_ret (v:=.tuple #[.agg #[.int .i64 n1,.int .i64 1,.slice xa xs.length xc,.int .i64 0,.int .i64 0,.int .i64 0,.int .i64 0,.int .i64 0,.bool false,.bool false],.int .i64 aF,.int .i64 0]) (by simp [results,Tryz.results36,go_sem,c0,c1,c2,c3,c4,c5,c6,c7,c8,c9]) rfl ?_
   exact readPost_ok (⟨n1,1,xa,xs.length,xc,0,0,0,0,0,false,false⟩:PartC) xs aF HE.out (by rw [HQ.out];rfl) (by rw [HQ.out]) (by rw [HQ.out]) rfl hEF.out hBF.out hOF.out
  ·have hI:=Bool.eq_false_iff.2 hI
   have HE:=Lib.hid (show errM (rawM s)=11 by rw [errM,HQ.out];simp only [ReadC.part];rw [if_pos ⟨trivial,hI⟩])
   have GI:=Lib.hid (fun (a:Option Addr) (c:Nat) W (hE:HasE W (⟨n1,1,a,xs.length,c,0,0,0,0,0,false,false⟩:PartC) xs)=>(show Gives Tryz.prog 28 #[(⟨n1,1,a,xs.length,c,0,0,0,0,0,false,false⟩:PartC).val] W (.bool false) from by have:=refIs_any (⟨n1,1,a,xs.length,c,0,0,0,0,0,false,false⟩:PartC) xs W hE;rwa [show isB (⟨n1,1,a,xs.length,c,0,0,0,0,0,false,false⟩:PartC) xs=false from (isB_addr _ _ _ _ _ _ _ _ _ _ _ _ _).trans hI] at this))
   dsimp only [PartC.val] at GI
   have GM:=Lib.hid (fun W (hW:CurAt (w.heap.size+1) s ⟨aF,0⟩ W)=>(show Calls Tryz.prog 61 #[.pointer (some ⟨w.heap.size+1,0,none⟩),.bool false] W (fun e w'=>e=.returned (.tuple #[])∧CurAt (w.heap.size+1) s ⟨aF,11⟩ w'∧FrameT (fun k=>k=w.heap.size+1) W w') from by have:=curMust_any (w.heap.size+1) s ⟨aF,0⟩ false W hW;simpa [mustM] using this))
   clear hI
   go_enter Tryz.func36,Tryz.ntmps36
   go_wp2_with (first
    | (go_at_call 35;((with_reducible refine (G1.out _ H0).mono ?_);rintro e w1 ⟨rfl,H1,hF⟩;have hr1:=hF.get hr0 (by omega);have hs1:=Nat.le_trans hBt hF.size;have hB1:=hBz.trans (hF.toBelow (Nat.le_of_lt hBs) (fun k hk=>by omega));clear hF))
    | (go_at_call 35;((with_reducible refine (G2.out _ H1).mono ?_);rintro e w2 ⟨rfl,H2,hF⟩;have hX:w2.heap.size≠w.heap.size+1:=(by have:=hF.size;omega);have hXr:w2.heap.size≠w.heap.size:=(by have:=hF.size;omega);have hr2:=hF.get hr1 (by omega);have hB2:=hB1.trans (hF.toBelow hB1.size (fun k hk=>by omega));clear hF;have hA2:=bel_alloc (Below.refl w2.heap.size w2) (.cells #[.int .i64 n1,.int .i64 1,.slice none 0 0,.int .i64 0,.int .i64 0,.int .i64 0,.int .i64 0,.int .i64 0,.bool false,.bool false] 37);have H2a:=H2.below hA2;have hr2a:=(hA2.block _ (heap_ltP hr2)).trans hr2;have hp2a:=World.alloc_heap_new w2 (.cells #[.int .i64 n1,.int .i64 1,.slice none 0 0,.int .i64 0,.int .i64 0,.int .i64 0,.int .i64 0,.int .i64 0,.bool false,.bool false] 37);have hB2a:=hB2.trans (hA2.mono hB2.size);have hs2:=hB2.size;have y0:(w2.alloc (.cells #[.int .i64 n1,.int .i64 1,.slice none 0 0,.int .i64 0,.int .i64 0,.int .i64 0,.int .i64 0,.int .i64 0,.bool false,.bool false] 37)).cell? ⟨w2.heap.size,0,none⟩=some (.int .i64 n1):=cell_of_row _ _ 0 _ _ _ hp2a;have y1:(w2.alloc (.cells #[.int .i64 n1,.int .i64 1,.slice none 0 0,.int .i64 0,.int .i64 0,.int .i64 0,.int .i64 0,.int .i64 0,.bool false,.bool false] 37)).cell? ⟨w2.heap.size,1,none⟩=some (.int .i64 1):=cell_of_row _ _ 1 _ _ _ hp2a;clear hA2))
    | (go_at_call 61;((with_reducible refine (GM0.out _ H2a).mono ?_);rintro e w3 ⟨rfl,H3,hF⟩;have hr3:=hF.get hr2a (by omega);have hp3:=hF.get hp2a hX;have hB3:=hB2a.trans (hF.toBelow hB2a.size (fun k hk=>by omega));have hX3:=heap_ltP hp3;clear hF y0 y1;obtain ⟨_,e1,e2,_,_⟩:=H3.cells;dsimp only at e1 e2;have yk:w3.cell? ⟨w2.heap.size,1,none⟩=some (.int .i64 1):=cell_of_row _ _ 1 _ _ _ hp3;skip))
    | (go_at_call 62;((with_reducible refine (GC.out _ H3).mono ?_);rintro e w4 ⟨v,zs,rfl,hz6,hzq,H4,hown,hF⟩;obtain rfl:xs=zs:=(hzq (by first | rfl | trivial)).symm;obtain ⟨xa,xc,rfl,hrow,hoff⟩:=own_ent hown;have hr4:=hF.get hr3 (by omega);have hp4:=hF.get hp3 hX;have hB4:=hB3.trans (hF.toBelow hB3.size (fun k hk=>by omega));have hs3:=hB3.size;have hR3:=heap_ltP hr3;have hb3:=H3.lt;clear hF hown;have p4f2:=frozen_of_row _ _ 2 _ _ hp4;have p4k2:w4.cell? ⟨w2.heap.size,2,none⟩=some (.slice none 0 0):=cell_of_row _ _ 2 _ _ _ hp4;have hp4a:=Go.Joins.block_setCell (hp4) (.slice xa xs.length xc) (i:=2);simp only [List.setIfInBounds_toArray,List.set_cons_succ,List.set_cons_zero] at hp4a;have H4a:=(H4).st (i:=2) (v:=.slice xa xs.length xc) (Ne.symm hX);have hr4a:=blk_st (i:=2) (v:=.slice xa xs.length xc) (hr4) (Ne.symm hXr);have hB4a:=(hB4).setCell (p:=⟨w2.heap.size,2,none⟩) (show w.heap.size≤w2.heap.size by omega) (.slice xa xs.length xc);have hent:HasE (w4.setCell ⟨w2.heap.size,2,none⟩ (.slice xa xs.length xc)) (⟨n1,1,xa,xs.length,xc,0,0,0,0,0,false,false⟩:PartC) xs:=HasE.off (R:=w2.heap.size) (W:=w4) ⟨rfl,(by dsimp only;omega),hrow⟩ (fun k hk=>by have:=hoff k hk;omega) (fun k hk=>heap_setCell_other _ ⟨w2.heap.size,2,none⟩ _ _ hk) (by simp);have HM:=Lib.hid (show MidC w s (w.heap.size+1) w2.heap.size (⟨n1,1,xa,xs.length,xc,0,0,0,0,0,false,false⟩:PartC) xs ⟨aF,0⟩ (w4.setCell ⟨w2.heap.size,2,none⟩ (.slice xa xs.length xc)) from ⟨H4a,hp4a,hr4a,hent,fun k hk=>by have:=hoff k hk;omega,hB4a,fun k hk=>by have:=hoff k hk;omega⟩);obtain ⟨m1,m2,mf,y0,y1,y2,y3,y4,y5,y6,y7,y8,y9,r0,r1,r2,r3,r4,r5,r6,r7,r8,r9,v0,v1,v2,v3,v4,v5,v6,v7,v8,v9⟩:=HM.out.cells;dsimp only at m1 m2 y0 y1 y2 y3 y4 y5 y6 y7 y8 y9;clear hent hrow))
    | (go_at_call 28;((with_reducible refine (GI.out _ _ _ HM.out.ent).mono ?_);rintro e w9 ⟨rfl,hB9⟩;have HM9:=Lib.hid (HM.out.after hB9);clear hB9 y0 y1 y2 y3 y4 y5 y6 y7 y8 y9 r0 r1 r2 r3 r4 r5 r6 r7 r8 r9 v0 v1 v2 v3 v4 v5 v6 v7 v8 v9 m1 m2 mf))
    | (go_at_call 61;((with_reducible refine (GM.out _ HM9.out.rd).mono ?_);rintro e w10 ⟨rfl,H10,hF⟩;have hX9:=heap_ltP HM9.out.part;have hr10:=hF.get HM9.out.res (by omega);have hp10:=hF.get HM9.out.part hX;have hB10:=HM9.out.below.trans (hF.toBelow HM9.out.below.size (fun k hk=>by omega));have HM10:=Lib.hid (show MidC w s (w.heap.size+1) w2.heap.size _ _ ⟨aF,11⟩ w10 from ⟨H10,hp10,hr10,HM9.out.ent.moved HM9.out.offb hF,HM9.out.off,hB10,HM9.out.offb⟩);clear hF hr10 hp10 hB10;obtain ⟨m1,m2,mf,y0,y1,y2,y3,y4,y5,y6,y7,y8,y9,r0,r1,r2,r3,r4,r5,r6,r7,r8,r9,v0,v1,v2,v3,v4,v5,v6,v7,v8,v9⟩:=HM10.out.cells;dsimp only at m1 m2 y0 y1 y2 y3 y4 y5 y6 y7 y8 y9)))
   go_region
   go_wp2
   have hq:=st10_block (W:=w10) HM10.out.res (.int .i64 0) (.int .i64 0) (.slice none 0 0) (.int .i64 0) (.int .i64 0) (.int .i64 0) (.int .i64 0) (.int .i64 0) (.bool false) (.bool false)
   have hBF:=Lib.hid ((st10_below HM10.out.below (Nat.le_refl _) (.int .i64 0) (.int .i64 0) (.slice none 0 0) (.int .i64 0) (.int .i64 0) (.int .i64 0) (.int .i64 0) (.int .i64 0) (.bool false) (.bool false)).drew)
   simp only [st10] at hq hBF
   obtain ⟨c0,c1,c2,c3,c4,c5,c6,c7,c8,c9⟩:=arr10q hq
   refine bodyPost_ret (v:=.tuple #[.agg #[.int .i64 0,.int .i64 0,.slice none 0 0,.int .i64 0,.int .i64 0,.int .i64 0,.int .i64 0,.int .i64 0,.bool false,.bool false],.int .i64 0,.int .i64 11]) (by simp [results,Tryz.results36,go_sem,c0,c1,c2,c3,c4,c5,c6,c7,c8,c9]) rfl ?_
   exact readPost_err 11 HE.out (by decide) rfl hBF.out
 ·have HE:=Lib.hid (show errM (rawM s)=eF by rw [errM,HQ.out];dsimp only;rw [if_neg (by rintro ⟨h,_⟩;exact he h)])
  have he1:(0:Int)<(eF:Int):=by omega
  have HN:=Lib.hid he
  have GM:=Lib.hid (fun (bb:Bool) W (hW:CurAt (w.heap.size+1) s ⟨aF,eF⟩ W)=>(show Calls Tryz.prog 61 #[.pointer (some ⟨w.heap.size+1,0,none⟩),.bool bb] W (fun e w'=>e=.returned (.tuple #[])∧CurAt (w.heap.size+1) s ⟨aF,eF⟩ w'∧FrameT (fun k=>k=w.heap.size+1) W w') from by have:=curMust_any (w.heap.size+1) s ⟨aF,eF⟩ bb W hW;simpa [mustM,he] using this))
  clear he
  go_enter Tryz.func36,Tryz.ntmps36
  go_wp2_with (first
   | (go_at_call 35;((with_reducible refine (G1.out _ H0).mono ?_);rintro e w1 ⟨rfl,H1,hF⟩;have hr1:=hF.get hr0 (by omega);have hs1:=Nat.le_trans hBt hF.size;have hB1:=hBz.trans (hF.toBelow (Nat.le_of_lt hBs) (fun k hk=>by omega));clear hF))
   | (go_at_call 35;((with_reducible refine (G2.out _ H1).mono ?_);rintro e w2 ⟨rfl,H2,hF⟩;have hX:w2.heap.size≠w.heap.size+1:=(by have:=hF.size;omega);have hXr:w2.heap.size≠w.heap.size:=(by have:=hF.size;omega);have hr2:=hF.get hr1 (by omega);have hB2:=hB1.trans (hF.toBelow hB1.size (fun k hk=>by omega));clear hF;have hA2:=bel_alloc (Below.refl w2.heap.size w2) (.cells #[.int .i64 n1,.int .i64 1,.slice none 0 0,.int .i64 0,.int .i64 0,.int .i64 0,.int .i64 0,.int .i64 0,.bool false,.bool false] 37);have H2a:=H2.below hA2;have hr2a:=(hA2.block _ (heap_ltP hr2)).trans hr2;have hp2a:=World.alloc_heap_new w2 (.cells #[.int .i64 n1,.int .i64 1,.slice none 0 0,.int .i64 0,.int .i64 0,.int .i64 0,.int .i64 0,.int .i64 0,.bool false,.bool false] 37);have hB2a:=hB2.trans (hA2.mono hB2.size);have hs2:=hB2.size;have y0:(w2.alloc (.cells #[.int .i64 n1,.int .i64 1,.slice none 0 0,.int .i64 0,.int .i64 0,.int .i64 0,.int .i64 0,.int .i64 0,.bool false,.bool false] 37)).cell? ⟨w2.heap.size,0,none⟩=some (.int .i64 n1):=cell_of_row _ _ 0 _ _ _ hp2a;have y1:(w2.alloc (.cells #[.int .i64 n1,.int .i64 1,.slice none 0 0,.int .i64 0,.int .i64 0,.int .i64 0,.int .i64 0,.int .i64 0,.bool false,.bool false] 37)).cell? ⟨w2.heap.size,1,none⟩=some (.int .i64 1):=cell_of_row _ _ 1 _ _ _ hp2a;clear hA2))
   | (go_at_call 61;((with_reducible refine (GM0.out _ H2a).mono ?_);rintro e w3 ⟨rfl,H3,hF⟩;have hr3:=hF.get hr2a (by omega);have hp3:=hF.get hp2a hX;have hB3:=hB2a.trans (hF.toBelow hB2a.size (fun k hk=>by omega));have hX3:=heap_ltP hp3;clear hF y0 y1;obtain ⟨_,e1,e2,_,_⟩:=H3.cells;dsimp only at e1 e2;have yk:w3.cell? ⟨w2.heap.size,1,none⟩=some (.int .i64 1):=cell_of_row _ _ 1 _ _ _ hp3;skip))
   | (go_at_call 62;((with_reducible refine (GC.out _ H3).mono ?_);rintro e w4 ⟨v,zs,rfl,hz6,hzq,H4,hown,hF⟩;obtain ⟨xa,xc,rfl,hrow,hoff⟩:=own_ent hown;have hr4:=hF.get hr3 (by omega);have hp4:=hF.get hp3 hX;have hB4:=hB3.trans (hF.toBelow hB3.size (fun k hk=>by omega));have hs3:=hB3.size;have hR3:=heap_ltP hr3;have hb3:=H3.lt;clear hF hown;have p4f2:=frozen_of_row _ _ 2 _ _ hp4;have p4k2:w4.cell? ⟨w2.heap.size,2,none⟩=some (.slice none 0 0):=cell_of_row _ _ 2 _ _ _ hp4;have hp4a:=Go.Joins.block_setCell (hp4) (.slice xa zs.length xc) (i:=2);simp only [List.setIfInBounds_toArray,List.set_cons_succ,List.set_cons_zero] at hp4a;have H4a:=(H4).st (i:=2) (v:=.slice xa zs.length xc) (Ne.symm hX);have hr4a:=blk_st (i:=2) (v:=.slice xa zs.length xc) (hr4) (Ne.symm hXr);have hB4a:=(hB4).setCell (p:=⟨w2.heap.size,2,none⟩) (show w.heap.size≤w2.heap.size by omega) (.slice xa zs.length xc);have hent:HasE (w4.setCell ⟨w2.heap.size,2,none⟩ (.slice xa zs.length xc)) (⟨n1,1,xa,zs.length,xc,0,0,0,0,0,false,false⟩:PartC) zs:=HasE.off (R:=w2.heap.size) (W:=w4) ⟨rfl,(by dsimp only;omega),hrow⟩ (fun k hk=>by have:=hoff k hk;omega) (fun k hk=>heap_setCell_other _ ⟨w2.heap.size,2,none⟩ _ _ hk) (by simp);have HM:=Lib.hid (show MidC w s (w.heap.size+1) w2.heap.size (⟨n1,1,xa,zs.length,xc,0,0,0,0,0,false,false⟩:PartC) zs ⟨aF,eF⟩ (w4.setCell ⟨w2.heap.size,2,none⟩ (.slice xa zs.length xc)) from ⟨H4a,hp4a,hr4a,hent,fun k hk=>by have:=hoff k hk;omega,hB4a,fun k hk=>by have:=hoff k hk;omega⟩);obtain ⟨m1,m2,mf,y0,y1,y2,y3,y4,y5,y6,y7,y8,y9,r0,r1,r2,r3,r4,r5,r6,r7,r8,r9,v0,v1,v2,v3,v4,v5,v6,v7,v8,v9⟩:=HM.out.cells;dsimp only at m1 m2 y0 y1 y2 y3 y4 y5 y6 y7 y8 y9;clear hent hrow))
   | (go_at_call 28;((with_reducible refine (refIs_any _ _ _ HM.out.ent).mono ?_);rintro e w9 ⟨rfl,hB9⟩;have HM9:=Lib.hid (HM.out.after hB9);clear hB9 y0 y1 y2 y3 y4 y5 y6 y7 y8 y9 r0 r1 r2 r3 r4 r5 r6 r7 r8 r9 v0 v1 v2 v3 v4 v5 v6 v7 v8 v9 m1 m2 mf))
   | (go_at_call 61;((with_reducible refine (GM.out _ _ HM9.out.rd).mono ?_);rintro e w10 ⟨rfl,H10,hF⟩;have hX9:=heap_ltP HM9.out.part;have hr10:=hF.get HM9.out.res (by omega);have hp10:=hF.get HM9.out.part hX;have hB10:=HM9.out.below.trans (hF.toBelow HM9.out.below.size (fun k hk=>by omega));have HM10:=Lib.hid (show MidC w s (w.heap.size+1) w2.heap.size _ _ ⟨aF,eF⟩ w10 from ⟨H10,hp10,hr10,HM9.out.ent.moved HM9.out.offb hF,HM9.out.off,hB10,HM9.out.offb⟩);clear hF hr10 hp10 hB10;obtain ⟨m1,m2,mf,y0,y1,y2,y3,y4,y5,y6,y7,y8,y9,r0,r1,r2,r3,r4,r5,r6,r7,r8,r9,v0,v1,v2,v3,v4,v5,v6,v7,v8,v9⟩:=HM10.out.cells;dsimp only at m1 m2 y0 y1 y2 y3 y4 y5 y6 y7 y8 y9)))
  go_region
  go_wp2
  have hq:=st10_block (W:=w10) HM10.out.res (.int .i64 0) (.int .i64 0) (.slice none 0 0) (.int .i64 0) (.int .i64 0) (.int .i64 0) (.int .i64 0) (.int .i64 0) (.bool false) (.bool false)
  have hBF:=Lib.hid ((st10_below HM10.out.below (Nat.le_refl _) (.int .i64 0) (.int .i64 0) (.slice none 0 0) (.int .i64 0) (.int .i64 0) (.int .i64 0) (.int .i64 0) (.int .i64 0) (.bool false) (.bool false)).drew)
  simp only [st10] at hq hBF
  obtain ⟨c0,c1,c2,c3,c4,c5,c6,c7,c8,c9⟩:=arr10q hq
  refine bodyPost_ret (v:=.tuple #[.agg #[.int .i64 0,.int .i64 0,.slice none 0 0,.int .i64 0,.int .i64 0,.int .i64 0,.int .i64 0,.int .i64 0,.bool false,.bool false],.int .i64 0,.int .i64 eF]) (by simp [results,Tryz.results36,go_sem,c0,c1,c2,c3,c4,c5,c6,c7,c8,c9]) rfl ?_
  exact readPost_err eF HE.out HN.out rfl hBF.out

theorem rfwd_any (b X:Nat) (s:ByteArray) (hs:s.size<4611686018427387904) (st0:RSt) (hok0:st0.ok s) (mk hd:Bool) (hmk:(bits .and .i64 ((numM s st0).1:Int) 1 == 1)=mk) (hhd:(bits .and .i64 ((numM s st0).1:Int) 2 == 2)=hd) (g:Int) (hXb:X≠b) (w:World) (h:CurAt b s st0 w)
  (hp:w.heap[X]?=some (.cells #[.int .i64 g,.int .i64 6,.slice none 0 0,.int .i64 0,.int .i64 0,.int .i64 0,.int .i64 0,.int .i64 0,.bool false,.bool false] 37 (0,0))) :
  Calls Tryz.prog 64 #[.pointer (some ⟨b,0,none⟩),.pointer (some ⟨X,0,none⟩)] w (RFwd b X s g mk hd (numTo s 3 st0).2 w):=by
 cases mk <;> cases hd
 ·exact rfwd00 b X s hs st0 hok0 hmk hhd g hXb w h hp
 ·exact rfwd01 b X s hs st0 hok0 hmk hhd g hXb w h hp
 ·exact rfwd10 b X s hs st0 hok0 hmk hhd g hXb w h hp
 ·exact rfwd11 b X s hs st0 hok0 hmk hhd g hXb w h hp
theorem fwd_eq (s:ByteArray) (g:Int) (st0:RSt) (mk hd:Bool) (hmk:(bits .and .i64 ((numM s st0).1:Int) 1 == 1)=mk) (hhd:(bits .and .i64 ((numM s st0).1:Int) 2 == 2)=hd) :
  (fwdM s g st0).2=(gM s g mk hd (numTo s 3 st0).2).2∧((fwdM s g st0).2.e=0→fwdM s g st0=gM s g mk hd (numTo s 3 st0).2):=by
 by_cases he:(numTo s 3 st0).2.e=0
 ·have h1:=numTo_same he
  have h3:=numTo_le s 3 st0
  have hm:((numTo s 3 st0).1 % 2 == 1)=mk:=by
   rw [← hmk,← h1]
   have:(numTo s 3 st0).1=0∨(numTo s 3 st0).1=1∨(numTo s 3 st0).1=2∨(numTo s 3 st0).1=3:=by omega
   rcases this with h | h | h | h <;> rw [h] <;> decide
  have hh:((numTo s 3 st0).1 / 2 == 1)=hd:=by
   rw [← hhd,← h1]
   have:(numTo s 3 st0).1=0∨(numTo s 3 st0).1=1∨(numTo s 3 st0).1=2∨(numTo s 3 st0).1=3:=by omega
   rcases this with h | h | h | h <;> rw [h] <;> decide
  have:fwdM s g st0=gM s g mk hd (numTo s 3 st0).2:=by rw [fwdM_gM,hm,hh]
  exact ⟨by rw [this],fun _=>this⟩
 ·have h1:(fwdM s g st0).2=(numTo s 3 st0).2:=by rw [fwdM_gM,gM_err he]
  exact ⟨by rw [h1,gM_err he],fun h0=>absurd h0 (by rw [h1];exact he)⟩
theorem rforward_any (b X:Nat) (s:ByteArray) (hs:s.size<4611686018427387904) (st0:RSt) (hok0:st0.ok s) (g:Int) (hXb:X≠b) (w:World) (h:CurAt b s st0 w)
  (hp:w.heap[X]?=some (.cells #[.int .i64 g,.int .i64 6,.slice none 0 0,.int .i64 0,.int .i64 0,.int .i64 0,.int .i64 0,.int .i64 0,.bool false,.bool false] 37 (0,0))) :
  Calls Tryz.prog 64 #[.pointer (some ⟨b,0,none⟩),.pointer (some ⟨X,0,none⟩)] w fun e w'=>e=.returned (.tuple #[])∧CurAt b s (fwdM s g st0).2 w'∧FrameT (fun k=>k=b∨k=X) w w' ∧
   ∃ (q:ReadC) (a:Option Addr) (cap:Nat),q.l.length≤6∧((fwdM s g st0).2.e=0→q=(fwdM s g st0).1)∧w'.heap[X]?=some (.cells (q.part a cap).arr 37 (0,0))∧RowV w' a q.l.length 3 (entryCells q.l)∧∀ k,inBlkE a q.l.length k→w.heap.size≤k:=by
 obtain ⟨h1,h2⟩:=fwd_eq s g st0 _ _ rfl rfl
 refine (rfwd_any b X s hs st0 hok0 _ _ rfl rfl g hXb w h hp).mono fun e w' hR=>?_
 obtain ⟨r1,r2,r3,a,cap,l,r4,r5,r6,r7,r8⟩:=hR
 refine ⟨r1,by rw [h1];exact r2,r3,⟨g,6,l,_,_,_,_,_,_,_⟩,a,cap,r4,fun h0=>?_,r6,r7,r8⟩
 rw [h2 h0,r5 (by rw [← h1];exact h0)]
 rfl

set_option maxRecDepth 100000 in
set_option maxHeartbeats 8000000 in
theorem refRead6_any (s:ByteArray) (hs:s.size<4611686018427387904) (w:World) (hk:(numM s (numM s ⟨0,0⟩).2).1=6) (he2:(numM s (numM s ⟨0,0⟩).2).2.e=0) :
  Calls Tryz.prog 36 #[.string s] w (ReadPost s w):=by
 have G1:=Lib.hid (fun W (hW:CurAt (w.heap.size+1) s ⟨0,0⟩ W)=>curNum_any (w.heap.size+1) s hs ⟨0,0⟩ (rst0_ok s) W hW)
 have G2:=Lib.hid (fun W (hW:CurAt (w.heap.size+1) s (numM s ⟨0,0⟩).2 W)=>curNum_any (w.heap.size+1) s hs (numM s ⟨0,0⟩).2 (numM_ok (rst0_ok s)) W hW)
 rw [hk] at G2
 replace G2:=Lib.hid (fun W (hW:CurAt (w.heap.size+1) s (numM s ⟨0,0⟩).2 W)=>(show CReads 35 #[.pointer (some ⟨w.heap.size+1,0,none⟩)] (w.heap.size+1) s W (.int .i64 6) (numM s (numM s ⟨0,0⟩).2).2 from G2.out W hW))
 have HNT:numTo s 6 (numM s ⟨0,0⟩).2=(numM s (numM s ⟨0,0⟩).2):=by unfold numTo;rw [if_neg (by rw [hk];decide)]
 have HQ:=Lib.hid (show rawM s=bodyM s (numM s ⟨0,0⟩).1 6 (numM s (numM s ⟨0,0⟩).2).2 by unfold rawM;rw [HNT,hk])
 have hok2:(numM s (numM s ⟨0,0⟩).2).2.ok s:=numM_ok (numM_ok (rst0_ok s))
 have GM0:=Lib.hid (fun W (hW:CurAt (w.heap.size+1) s (numM s (numM s ⟨0,0⟩).2).2 W)=>(show Calls Tryz.prog 61 #[.pointer (some ⟨w.heap.size+1,0,none⟩),.bool true] W (fun e w'=>e=.returned (.tuple #[])∧CurAt (w.heap.size+1) s (numM s (numM s ⟨0,0⟩).2).2 w'∧FrameT (fun k=>k=w.heap.size+1) W w') from by have:=curMust_any (w.heap.size+1) s (numM s (numM s ⟨0,0⟩).2).2 true W hW;simpa [mustM] using this))
 clear hk HNT
 have HZ:((w.alloc (.cells #[.int .i64 0,.int .i64 0,.slice none 0 0,.int .i64 0,.int .i64 0,.int .i64 0,.int .i64 0,.int .i64 0,.bool false,.bool false] 37)).alloc (.cells #[.string s,.int .i64 0,.int .i64 0] 68)).heap[w.heap.size+1]?=some (.cells #[.string s,.int .i64 0,.int .i64 0] 68 (0,0)):=by have:=World.alloc_heap_new (w.alloc (.cells #[.int .i64 0,.int .i64 0,.slice none 0 0,.int .i64 0,.int .i64 0,.int .i64 0,.int .i64 0,.int .i64 0,.bool false,.bool false] 37)) (.cells #[.string s,.int .i64 0,.int .i64 0] 68);rwa [World.size_alloc] at this
 have H0:CurAt (w.heap.size+1) s ⟨0,0⟩ ((w.alloc (.cells #[.int .i64 0,.int .i64 0,.slice none 0 0,.int .i64 0,.int .i64 0,.int .i64 0,.int .i64 0,.int .i64 0,.bool false,.bool false] 37)).alloc (.cells #[.string s,.int .i64 0,.int .i64 0] 68)):=HZ
 clear HZ
 have hr0:((w.alloc (.cells #[.int .i64 0,.int .i64 0,.slice none 0 0,.int .i64 0,.int .i64 0,.int .i64 0,.int .i64 0,.int .i64 0,.bool false,.bool false] 37)).alloc (.cells #[.string s,.int .i64 0,.int .i64 0] 68)).heap[w.heap.size]?=some (.cells #[.int .i64 0,.int .i64 0,.slice none 0 0,.int .i64 0,.int .i64 0,.int .i64 0,.int .i64 0,.int .i64 0,.bool false,.bool false] 37 (0,0)):=((bel_alloc (Below.refl _ _) _).block _ (by simp)).trans (World.alloc_heap_new w _)
 have hBz:Below w.heap.size w ((w.alloc (.cells #[.int .i64 0,.int .i64 0,.slice none 0 0,.int .i64 0,.int .i64 0,.int .i64 0,.int .i64 0,.int .i64 0,.bool false,.bool false] 37)).alloc (.cells #[.string s,.int .i64 0,.int .i64 0] 68)):=bel_alloc (bel_alloc (Below.refl _ _) _) _
 have hBs:w.heap.size<((w.alloc (.cells #[.int .i64 0,.int .i64 0,.slice none 0 0,.int .i64 0,.int .i64 0,.int .i64 0,.int .i64 0,.int .i64 0,.bool false,.bool false] 37)).alloc (.cells #[.string s,.int .i64 0,.int .i64 0] 68)).heap.size:=by simp;omega
 have hBt:w.heap.size+2≤((w.alloc (.cells #[.int .i64 0,.int .i64 0,.slice none 0 0,.int .i64 0,.int .i64 0,.int .i64 0,.int .i64 0,.int .i64 0,.bool false,.bool false] 37)).alloc (.cells #[.string s,.int .i64 0,.int .i64 0] 68)).heap.size:=by simp
 obtain ⟨hk6,hg6⟩:=fwdM_kind s (numM s ⟨0,0⟩).1 (numM s (numM s ⟨0,0⟩).2).2
 have hxl:=fwdM_len s (numM s ⟨0,0⟩).1 (numM s (numM s ⟨0,0⟩).2).2
 have GF:=Lib.hid (fun W (hW:CurAt (w.heap.size+1) s (numM s (numM s ⟨0,0⟩).2).2 W) X (hX:X≠w.heap.size+1) hp=>rforward_any (w.heap.size+1) X s hs (numM s (numM s ⟨0,0⟩).2).2 hok2 (numM s ⟨0,0⟩).1 hX W hW hp)
 have HQ2:=Lib.hid (show bodyM s (numM s ⟨0,0⟩).1 6 (numM s (numM s ⟨0,0⟩).2).2=(fwdM s (numM s ⟨0,0⟩).1 (numM s (numM s ⟨0,0⟩).2).2) from by simp [bodyM])
 rw [HQ2.out] at HQ
 clear HQ2 hok2
 generalize hR:(fwdM s (numM s ⟨0,0⟩).1 (numM s (numM s ⟨0,0⟩).2).2)=R3 at *
 generalize (numM s (numM s ⟨0,0⟩).2)=R2 at *
 generalize (numM s ⟨0,0⟩)=R1 at *
 clear hR
 obtain ⟨n1,s1⟩:=R1
 obtain ⟨m2,s2⟩:=R2
 obtain ⟨⟨g6,k6,xs,x1,x2,x3,xi,xt,mk,hd⟩,s3⟩:=R3
 obtain ⟨aF,eF⟩:=s3
 dsimp only at *
 subst hk6
 subst hg6
 obtain ⟨a2,q2⟩:=s2
 dsimp only at *
 subst he2

 by_cases he:eF=0
 ·subst he
  by_cases hI:isB (⟨n1,6,none,xs.length,0,x1,x2,x3,xi,xt,mk,hd⟩:PartC) xs=true
  ·have HE:=Lib.hid (show errM (rawM s)=0 by rw [errM,HQ.out];simp only [ReadC.part];rw [if_neg (by rintro ⟨_,h⟩;exact absurd (hI.symm.trans h) (by decide))])
   have GI:=Lib.hid (fun (a:Option Addr) (c:Nat) W (hE:HasE W (⟨n1,6,a,xs.length,c,x1,x2,x3,xi,xt,mk,hd⟩:PartC) xs)=>(show Gives Tryz.prog 28 #[(⟨n1,6,a,xs.length,c,x1,x2,x3,xi,xt,mk,hd⟩:PartC).val] W (.bool true) from by have:=refIs_any (⟨n1,6,a,xs.length,c,x1,x2,x3,xi,xt,mk,hd⟩:PartC) xs W hE;rwa [show isB (⟨n1,6,a,xs.length,c,x1,x2,x3,xi,xt,mk,hd⟩:PartC) xs=true from (isB_addr _ _ _ _ _ _ _ _ _ _ _ _ _).trans hI] at this))
   dsimp only [PartC.val] at GI
   have GM:=Lib.hid (fun W (hW:CurAt (w.heap.size+1) s ⟨aF,0⟩ W)=>(show Calls Tryz.prog 61 #[.pointer (some ⟨w.heap.size+1,0,none⟩),.bool true] W (fun e w'=>e=.returned (.tuple #[])∧CurAt (w.heap.size+1) s ⟨aF,0⟩ w'∧FrameT (fun k=>k=w.heap.size+1) W w') from by have:=curMust_any (w.heap.size+1) s ⟨aF,0⟩ true W hW;simpa [mustM] using this))
   clear hI
   go_enter Tryz.func36,Tryz.ntmps36
   go_wp2_with (first
    | (go_at_call 35;((with_reducible refine (G1.out _ H0).mono ?_);rintro e w1 ⟨rfl,H1,hF⟩;have hr1:=hF.get hr0 (by omega);have hs1:=Nat.le_trans hBt hF.size;have hB1:=hBz.trans (hF.toBelow (Nat.le_of_lt hBs) (fun k hk=>by omega));clear hF))
    | (go_at_call 35;((with_reducible refine (G2.out _ H1).mono ?_);rintro e w2 ⟨rfl,H2,hF⟩;have hX:w2.heap.size≠w.heap.size+1:=(by have:=hF.size;omega);have hXr:w2.heap.size≠w.heap.size:=(by have:=hF.size;omega);have hr2:=hF.get hr1 (by omega);have hB2:=hB1.trans (hF.toBelow hB1.size (fun k hk=>by omega));clear hF;have hA2:=bel_alloc (Below.refl w2.heap.size w2) (.cells #[.int .i64 n1,.int .i64 6,.slice none 0 0,.int .i64 0,.int .i64 0,.int .i64 0,.int .i64 0,.int .i64 0,.bool false,.bool false] 37);have H2a:=H2.below hA2;have hr2a:=(hA2.block _ (heap_ltP hr2)).trans hr2;have hp2a:=World.alloc_heap_new w2 (.cells #[.int .i64 n1,.int .i64 6,.slice none 0 0,.int .i64 0,.int .i64 0,.int .i64 0,.int .i64 0,.int .i64 0,.bool false,.bool false] 37);have hB2a:=hB2.trans (hA2.mono hB2.size);have hs2:=hB2.size;have y0:(w2.alloc (.cells #[.int .i64 n1,.int .i64 6,.slice none 0 0,.int .i64 0,.int .i64 0,.int .i64 0,.int .i64 0,.int .i64 0,.bool false,.bool false] 37)).cell? ⟨w2.heap.size,0,none⟩=some (.int .i64 n1):=cell_of_row _ _ 0 _ _ _ hp2a;have y1:(w2.alloc (.cells #[.int .i64 n1,.int .i64 6,.slice none 0 0,.int .i64 0,.int .i64 0,.int .i64 0,.int .i64 0,.int .i64 0,.bool false,.bool false] 37)).cell? ⟨w2.heap.size,1,none⟩=some (.int .i64 6):=cell_of_row _ _ 1 _ _ _ hp2a;clear hA2))
    | (go_at_call 61;((with_reducible refine (GM0.out _ H2a).mono ?_);rintro e w3 ⟨rfl,H3,hF⟩;have hr3:=hF.get hr2a (by omega);have hp3:=hF.get hp2a hX;have hB3:=hB2a.trans (hF.toBelow hB2a.size (fun k hk=>by omega));have hX3:=heap_ltP hp3;clear hF y0 y1;obtain ⟨_,e1,e2,_,_⟩:=H3.cells;dsimp only at e1 e2;have yk:w3.cell? ⟨w2.heap.size,1,none⟩=some (.int .i64 6):=cell_of_row _ _ 1 _ _ _ hp3;skip))
    | (go_at_call 64;((with_reducible refine (GF.out _ H3 _ hX hp3).mono ?_);rintro e w4 ⟨rfl,H4,hF,q,xa,xc,hz6,hzq,hp4,hrow,hoff⟩;obtain rfl:=hzq (by first | rfl | trivial);dsimp only [ReadC.part] at hp4 hrow hoff hz6;have hs3:=hB3.size;have hR3:=heap_ltP hr3;have hb3:=H3.lt;have hr4:=hF.get hr3 (by omega);have hB4:=hB3.trans (hF.toBelow hB3.size (fun k hk=>by omega));have hent:HasE w4 (⟨n1,6,xa,xs.length,xc,x1,x2,x3,xi,xt,mk,hd⟩:PartC) xs:=⟨rfl,(by dsimp only;omega),hrow⟩;have HM:=Lib.hid (show MidC w s (w.heap.size+1) w2.heap.size (⟨n1,6,xa,xs.length,xc,x1,x2,x3,xi,xt,mk,hd⟩:PartC) xs ⟨aF,0⟩ w4 from ⟨H4,hp4,hr4,hent,fun k hk=>by have:=hoff k hk;omega,hB4,fun k hk=>by have:=hoff k hk;omega⟩);obtain ⟨m1,m2,mf,y0,y1,y2,y3,y4,y5,y6,y7,y8,y9,r0,r1,r2,r3,r4,r5,r6,r7,r8,r9,v0,v1,v2,v3,v4,v5,v6,v7,v8,v9⟩:=HM.out.cells;dsimp only at m1 m2 y0 y1 y2 y3 y4 y5 y6 y7 y8 y9;clear hent hrow hF))
    | (go_at_call 28;((with_reducible refine (GI.out _ _ _ HM.out.ent).mono ?_);rintro e w9 ⟨rfl,hB9⟩;have HM9:=Lib.hid (HM.out.after hB9);clear hB9 y0 y1 y2 y3 y4 y5 y6 y7 y8 y9 r0 r1 r2 r3 r4 r5 r6 r7 r8 r9 v0 v1 v2 v3 v4 v5 v6 v7 v8 v9 m1 m2 mf))
    | (go_at_call 61;((with_reducible refine (GM.out _ HM9.out.rd).mono ?_);rintro e w10 ⟨rfl,H10,hF⟩;have hX9:=heap_ltP HM9.out.part;have hr10:=hF.get HM9.out.res (by omega);have hp10:=hF.get HM9.out.part hX;have hB10:=HM9.out.below.trans (hF.toBelow HM9.out.below.size (fun k hk=>by omega));have HM10:=Lib.hid (show MidC w s (w.heap.size+1) w2.heap.size _ _ ⟨aF,0⟩ w10 from ⟨H10,hp10,hr10,HM9.out.ent.moved HM9.out.offb hF,HM9.out.off,hB10,HM9.out.offb⟩);clear hF hr10 hp10 hB10;obtain ⟨m1,m2,mf,y0,y1,y2,y3,y4,y5,y6,y7,y8,y9,r0,r1,r2,r3,r4,r5,r6,r7,r8,r9,v0,v1,v2,v3,v4,v5,v6,v7,v8,v9⟩:=HM10.out.cells;dsimp only at m1 m2 y0 y1 y2 y3 y4 y5 y6 y7 y8 y9)))
   go_region
   go_wp2
   have hq:=st10_block (W:=w10) HM10.out.res (.int .i64 n1) (.int .i64 6) (.slice xa xs.length xc) (.int .i64 x1) (.int .i64 x2) (.int .i64 x3) (.int .i64 xi) (.int .i64 xt) (.bool mk) (.bool hd)
   have hBF:=Lib.hid ((st10_below HM10.out.below (Nat.le_refl _) (.int .i64 n1) (.int .i64 6) (.slice xa xs.length xc) (.int .i64 x1) (.int .i64 x2) (.int .i64 x3) (.int .i64 xi) (.int .i64 xt) (.bool mk) (.bool hd)).drew)
   have hEF:=Lib.hid (HasE.put10 (R:=w.heap.size) HM10.out.ent HM10.out.off (.int .i64 n1) (.int .i64 6) (.slice xa xs.length xc) (.int .i64 x1) (.int .i64 x2) (.int .i64 x3) (.int .i64 xi) (.int .i64 xt) (.bool mk) (.bool hd))
   have hOF:=Lib.hid HM10.out.off
   simp only [st10] at hq hBF hEF
   obtain ⟨c0,c1,c2,c3,c4,c5,c6,c7,c8,c9⟩:=arr10q hq
   refine bodyPost_ret (v:=.tuple #[.agg #[.int .i64 n1,.int .i64 6,.slice xa xs.length xc,.int .i64 x1,.int .i64 x2,.int .i64 x3,.int .i64 xi,.int .i64 xt,.bool mk,.bool hd],.int .i64 aF,.int .i64 0]) (by simp [results,Tryz.results36,go_sem,c0,c1,c2,c3,c4,c5,c6,c7,c8,c9]) rfl ?_
   exact readPost_ok (⟨n1,6,xa,xs.length,xc,x1,x2,x3,xi,xt,mk,hd⟩:PartC) xs aF HE.out (by rw [HQ.out];rfl) (by rw [HQ.out]) (by rw [HQ.out]) rfl hEF.out hBF.out hOF.out
  ·have hI:=Bool.eq_false_iff.2 hI
   have HE:=Lib.hid (show errM (rawM s)=11 by rw [errM,HQ.out];simp only [ReadC.part];rw [if_pos ⟨trivial,hI⟩])
   have GI:=Lib.hid (fun (a:Option Addr) (c:Nat) W (hE:HasE W (⟨n1,6,a,xs.length,c,x1,x2,x3,xi,xt,mk,hd⟩:PartC) xs)=>(show Gives Tryz.prog 28 #[(⟨n1,6,a,xs.length,c,x1,x2,x3,xi,xt,mk,hd⟩:PartC).val] W (.bool false) from by have:=refIs_any (⟨n1,6,a,xs.length,c,x1,x2,x3,xi,xt,mk,hd⟩:PartC) xs W hE;rwa [show isB (⟨n1,6,a,xs.length,c,x1,x2,x3,xi,xt,mk,hd⟩:PartC) xs=false from (isB_addr _ _ _ _ _ _ _ _ _ _ _ _ _).trans hI] at this))
   dsimp only [PartC.val] at GI
   have GM:=Lib.hid (fun W (hW:CurAt (w.heap.size+1) s ⟨aF,0⟩ W)=>(show Calls Tryz.prog 61 #[.pointer (some ⟨w.heap.size+1,0,none⟩),.bool false] W (fun e w'=>e=.returned (.tuple #[])∧CurAt (w.heap.size+1) s ⟨aF,11⟩ w'∧FrameT (fun k=>k=w.heap.size+1) W w') from by have:=curMust_any (w.heap.size+1) s ⟨aF,0⟩ false W hW;simpa [mustM] using this))
   clear hI
   go_enter Tryz.func36,Tryz.ntmps36
   go_wp2_with (first
    | (go_at_call 35;((with_reducible refine (G1.out _ H0).mono ?_);rintro e w1 ⟨rfl,H1,hF⟩;have hr1:=hF.get hr0 (by omega);have hs1:=Nat.le_trans hBt hF.size;have hB1:=hBz.trans (hF.toBelow (Nat.le_of_lt hBs) (fun k hk=>by omega));clear hF))
    | (go_at_call 35;((with_reducible refine (G2.out _ H1).mono ?_);rintro e w2 ⟨rfl,H2,hF⟩;have hX:w2.heap.size≠w.heap.size+1:=(by have:=hF.size;omega);have hXr:w2.heap.size≠w.heap.size:=(by have:=hF.size;omega);have hr2:=hF.get hr1 (by omega);have hB2:=hB1.trans (hF.toBelow hB1.size (fun k hk=>by omega));clear hF;have hA2:=bel_alloc (Below.refl w2.heap.size w2) (.cells #[.int .i64 n1,.int .i64 6,.slice none 0 0,.int .i64 0,.int .i64 0,.int .i64 0,.int .i64 0,.int .i64 0,.bool false,.bool false] 37);have H2a:=H2.below hA2;have hr2a:=(hA2.block _ (heap_ltP hr2)).trans hr2;have hp2a:=World.alloc_heap_new w2 (.cells #[.int .i64 n1,.int .i64 6,.slice none 0 0,.int .i64 0,.int .i64 0,.int .i64 0,.int .i64 0,.int .i64 0,.bool false,.bool false] 37);have hB2a:=hB2.trans (hA2.mono hB2.size);have hs2:=hB2.size;have y0:(w2.alloc (.cells #[.int .i64 n1,.int .i64 6,.slice none 0 0,.int .i64 0,.int .i64 0,.int .i64 0,.int .i64 0,.int .i64 0,.bool false,.bool false] 37)).cell? ⟨w2.heap.size,0,none⟩=some (.int .i64 n1):=cell_of_row _ _ 0 _ _ _ hp2a;have y1:(w2.alloc (.cells #[.int .i64 n1,.int .i64 6,.slice none 0 0,.int .i64 0,.int .i64 0,.int .i64 0,.int .i64 0,.int .i64 0,.bool false,.bool false] 37)).cell? ⟨w2.heap.size,1,none⟩=some (.int .i64 6):=cell_of_row _ _ 1 _ _ _ hp2a;clear hA2))
    | (go_at_call 61;((with_reducible refine (GM0.out _ H2a).mono ?_);rintro e w3 ⟨rfl,H3,hF⟩;have hr3:=hF.get hr2a (by omega);have hp3:=hF.get hp2a hX;have hB3:=hB2a.trans (hF.toBelow hB2a.size (fun k hk=>by omega));have hX3:=heap_ltP hp3;clear hF y0 y1;obtain ⟨_,e1,e2,_,_⟩:=H3.cells;dsimp only at e1 e2;have yk:w3.cell? ⟨w2.heap.size,1,none⟩=some (.int .i64 6):=cell_of_row _ _ 1 _ _ _ hp3;skip))
    | (go_at_call 64;((with_reducible refine (GF.out _ H3 _ hX hp3).mono ?_);rintro e w4 ⟨rfl,H4,hF,q,xa,xc,hz6,hzq,hp4,hrow,hoff⟩;obtain rfl:=hzq (by first | rfl | trivial);dsimp only [ReadC.part] at hp4 hrow hoff hz6;have hs3:=hB3.size;have hR3:=heap_ltP hr3;have hb3:=H3.lt;have hr4:=hF.get hr3 (by omega);have hB4:=hB3.trans (hF.toBelow hB3.size (fun k hk=>by omega));have hent:HasE w4 (⟨n1,6,xa,xs.length,xc,x1,x2,x3,xi,xt,mk,hd⟩:PartC) xs:=⟨rfl,(by dsimp only;omega),hrow⟩;have HM:=Lib.hid (show MidC w s (w.heap.size+1) w2.heap.size (⟨n1,6,xa,xs.length,xc,x1,x2,x3,xi,xt,mk,hd⟩:PartC) xs ⟨aF,0⟩ w4 from ⟨H4,hp4,hr4,hent,fun k hk=>by have:=hoff k hk;omega,hB4,fun k hk=>by have:=hoff k hk;omega⟩);obtain ⟨m1,m2,mf,y0,y1,y2,y3,y4,y5,y6,y7,y8,y9,r0,r1,r2,r3,r4,r5,r6,r7,r8,r9,v0,v1,v2,v3,v4,v5,v6,v7,v8,v9⟩:=HM.out.cells;dsimp only at m1 m2 y0 y1 y2 y3 y4 y5 y6 y7 y8 y9;clear hent hrow hF))
    | (go_at_call 28;((with_reducible refine (GI.out _ _ _ HM.out.ent).mono ?_);rintro e w9 ⟨rfl,hB9⟩;have HM9:=Lib.hid (HM.out.after hB9);clear hB9 y0 y1 y2 y3 y4 y5 y6 y7 y8 y9 r0 r1 r2 r3 r4 r5 r6 r7 r8 r9 v0 v1 v2 v3 v4 v5 v6 v7 v8 v9 m1 m2 mf))
    | (go_at_call 61;((with_reducible refine (GM.out _ HM9.out.rd).mono ?_);rintro e w10 ⟨rfl,H10,hF⟩;have hX9:=heap_ltP HM9.out.part;have hr10:=hF.get HM9.out.res (by omega);have hp10:=hF.get HM9.out.part hX;have hB10:=HM9.out.below.trans (hF.toBelow HM9.out.below.size (fun k hk=>by omega));have HM10:=Lib.hid (show MidC w s (w.heap.size+1) w2.heap.size _ _ ⟨aF,11⟩ w10 from ⟨H10,hp10,hr10,HM9.out.ent.moved HM9.out.offb hF,HM9.out.off,hB10,HM9.out.offb⟩);clear hF hr10 hp10 hB10;obtain ⟨m1,m2,mf,y0,y1,y2,y3,y4,y5,y6,y7,y8,y9,r0,r1,r2,r3,r4,r5,r6,r7,r8,r9,v0,v1,v2,v3,v4,v5,v6,v7,v8,v9⟩:=HM10.out.cells;dsimp only at m1 m2 y0 y1 y2 y3 y4 y5 y6 y7 y8 y9)))
   go_region
   go_wp2
   have hq:=st10_block (W:=w10) HM10.out.res (.int .i64 0) (.int .i64 0) (.slice none 0 0) (.int .i64 0) (.int .i64 0) (.int .i64 0) (.int .i64 0) (.int .i64 0) (.bool false) (.bool false)
   have hBF:=Lib.hid ((st10_below HM10.out.below (Nat.le_refl _) (.int .i64 0) (.int .i64 0) (.slice none 0 0) (.int .i64 0) (.int .i64 0) (.int .i64 0) (.int .i64 0) (.int .i64 0) (.bool false) (.bool false)).drew)
   simp only [st10] at hq hBF
   obtain ⟨c0,c1,c2,c3,c4,c5,c6,c7,c8,c9⟩:=arr10q hq
   refine bodyPost_ret (v:=.tuple #[.agg #[.int .i64 0,.int .i64 0,.slice none 0 0,.int .i64 0,.int .i64 0,.int .i64 0,.int .i64 0,.int .i64 0,.bool false,.bool false],.int .i64 0,.int .i64 11]) (by simp [results,Tryz.results36,go_sem,c0,c1,c2,c3,c4,c5,c6,c7,c8,c9]) rfl ?_
   exact readPost_err 11 HE.out (by decide) rfl hBF.out
 ·have HE:=Lib.hid (show errM (rawM s)=eF by rw [errM,HQ.out];dsimp only;rw [if_neg (by rintro ⟨h,_⟩;exact he h)])
  have he1:(0:Int)<(eF:Int):=by omega
  have HN:=Lib.hid he
  have GM:=Lib.hid (fun (bb:Bool) W (hW:CurAt (w.heap.size+1) s ⟨aF,eF⟩ W)=>(show Calls Tryz.prog 61 #[.pointer (some ⟨w.heap.size+1,0,none⟩),.bool bb] W (fun e w'=>e=.returned (.tuple #[])∧CurAt (w.heap.size+1) s ⟨aF,eF⟩ w'∧FrameT (fun k=>k=w.heap.size+1) W w') from by have:=curMust_any (w.heap.size+1) s ⟨aF,eF⟩ bb W hW;simpa [mustM,he] using this))
  clear he
  go_enter Tryz.func36,Tryz.ntmps36
  go_wp2_with (first
   | (go_at_call 35;((with_reducible refine (G1.out _ H0).mono ?_);rintro e w1 ⟨rfl,H1,hF⟩;have hr1:=hF.get hr0 (by omega);have hs1:=Nat.le_trans hBt hF.size;have hB1:=hBz.trans (hF.toBelow (Nat.le_of_lt hBs) (fun k hk=>by omega));clear hF))
   | (go_at_call 35;((with_reducible refine (G2.out _ H1).mono ?_);rintro e w2 ⟨rfl,H2,hF⟩;have hX:w2.heap.size≠w.heap.size+1:=(by have:=hF.size;omega);have hXr:w2.heap.size≠w.heap.size:=(by have:=hF.size;omega);have hr2:=hF.get hr1 (by omega);have hB2:=hB1.trans (hF.toBelow hB1.size (fun k hk=>by omega));clear hF;have hA2:=bel_alloc (Below.refl w2.heap.size w2) (.cells #[.int .i64 n1,.int .i64 6,.slice none 0 0,.int .i64 0,.int .i64 0,.int .i64 0,.int .i64 0,.int .i64 0,.bool false,.bool false] 37);have H2a:=H2.below hA2;have hr2a:=(hA2.block _ (heap_ltP hr2)).trans hr2;have hp2a:=World.alloc_heap_new w2 (.cells #[.int .i64 n1,.int .i64 6,.slice none 0 0,.int .i64 0,.int .i64 0,.int .i64 0,.int .i64 0,.int .i64 0,.bool false,.bool false] 37);have hB2a:=hB2.trans (hA2.mono hB2.size);have hs2:=hB2.size;have y0:(w2.alloc (.cells #[.int .i64 n1,.int .i64 6,.slice none 0 0,.int .i64 0,.int .i64 0,.int .i64 0,.int .i64 0,.int .i64 0,.bool false,.bool false] 37)).cell? ⟨w2.heap.size,0,none⟩=some (.int .i64 n1):=cell_of_row _ _ 0 _ _ _ hp2a;have y1:(w2.alloc (.cells #[.int .i64 n1,.int .i64 6,.slice none 0 0,.int .i64 0,.int .i64 0,.int .i64 0,.int .i64 0,.int .i64 0,.bool false,.bool false] 37)).cell? ⟨w2.heap.size,1,none⟩=some (.int .i64 6):=cell_of_row _ _ 1 _ _ _ hp2a;clear hA2))
   | (go_at_call 61;((with_reducible refine (GM0.out _ H2a).mono ?_);rintro e w3 ⟨rfl,H3,hF⟩;have hr3:=hF.get hr2a (by omega);have hp3:=hF.get hp2a hX;have hB3:=hB2a.trans (hF.toBelow hB2a.size (fun k hk=>by omega));have hX3:=heap_ltP hp3;clear hF y0 y1;obtain ⟨_,e1,e2,_,_⟩:=H3.cells;dsimp only at e1 e2;have yk:w3.cell? ⟨w2.heap.size,1,none⟩=some (.int .i64 6):=cell_of_row _ _ 1 _ _ _ hp3;skip))
   | (go_at_call 64;((with_reducible refine (GF.out _ H3 _ hX hp3).mono ?_);rintro e w4 ⟨rfl,H4,hF,q,xa,xc,hz6,hzq,hp4,hrow,hoff⟩;obtain ⟨g7,k7,ys,u1,u2,u3,ui,ut,umk,uhd⟩:=q;dsimp only [ReadC.part] at hp4 hrow hoff hz6;have hs3:=hB3.size;have hR3:=heap_ltP hr3;have hb3:=H3.lt;have hr4:=hF.get hr3 (by omega);have hB4:=hB3.trans (hF.toBelow hB3.size (fun k hk=>by omega));have hent:HasE w4 (⟨g7,k7,xa,ys.length,xc,u1,u2,u3,ui,ut,umk,uhd⟩:PartC) ys:=⟨rfl,(by dsimp only;omega),hrow⟩;have HM:=Lib.hid (show MidC w s (w.heap.size+1) w2.heap.size (⟨g7,k7,xa,ys.length,xc,u1,u2,u3,ui,ut,umk,uhd⟩:PartC) ys ⟨aF,eF⟩ w4 from ⟨H4,hp4,hr4,hent,fun k hk=>by have:=hoff k hk;omega,hB4,fun k hk=>by have:=hoff k hk;omega⟩);obtain ⟨m1,m2,mf,y0,y1,y2,y3,y4,y5,y6,y7,y8,y9,r0,r1,r2,r3,r4,r5,r6,r7,r8,r9,v0,v1,v2,v3,v4,v5,v6,v7,v8,v9⟩:=HM.out.cells;dsimp only at m1 m2 y0 y1 y2 y3 y4 y5 y6 y7 y8 y9;clear hent hrow hF))
   | (go_at_call 28;((with_reducible refine (refIs_any _ _ _ HM.out.ent).mono ?_);rintro e w9 ⟨rfl,hB9⟩;have HM9:=Lib.hid (HM.out.after hB9);clear hB9 y0 y1 y2 y3 y4 y5 y6 y7 y8 y9 r0 r1 r2 r3 r4 r5 r6 r7 r8 r9 v0 v1 v2 v3 v4 v5 v6 v7 v8 v9 m1 m2 mf))
   | (go_at_call 61;((with_reducible refine (GM.out _ _ HM9.out.rd).mono ?_);rintro e w10 ⟨rfl,H10,hF⟩;have hX9:=heap_ltP HM9.out.part;have hr10:=hF.get HM9.out.res (by omega);have hp10:=hF.get HM9.out.part hX;have hB10:=HM9.out.below.trans (hF.toBelow HM9.out.below.size (fun k hk=>by omega));have HM10:=Lib.hid (show MidC w s (w.heap.size+1) w2.heap.size _ _ ⟨aF,eF⟩ w10 from ⟨H10,hp10,hr10,HM9.out.ent.moved HM9.out.offb hF,HM9.out.off,hB10,HM9.out.offb⟩);clear hF hr10 hp10 hB10;obtain ⟨m1,m2,mf,y0,y1,y2,y3,y4,y5,y6,y7,y8,y9,r0,r1,r2,r3,r4,r5,r6,r7,r8,r9,v0,v1,v2,v3,v4,v5,v6,v7,v8,v9⟩:=HM10.out.cells;dsimp only at m1 m2 y0 y1 y2 y3 y4 y5 y6 y7 y8 y9)))
  go_region
  go_wp2
  have hq:=st10_block (W:=w10) HM10.out.res (.int .i64 0) (.int .i64 0) (.slice none 0 0) (.int .i64 0) (.int .i64 0) (.int .i64 0) (.int .i64 0) (.int .i64 0) (.bool false) (.bool false)
  have hBF:=Lib.hid ((st10_below HM10.out.below (Nat.le_refl _) (.int .i64 0) (.int .i64 0) (.slice none 0 0) (.int .i64 0) (.int .i64 0) (.int .i64 0) (.int .i64 0) (.int .i64 0) (.bool false) (.bool false)).drew)
  simp only [st10] at hq hBF
  obtain ⟨c0,c1,c2,c3,c4,c5,c6,c7,c8,c9⟩:=arr10q hq
  refine bodyPost_ret (v:=.tuple #[.agg #[.int .i64 0,.int .i64 0,.slice none 0 0,.int .i64 0,.int .i64 0,.int .i64 0,.int .i64 0,.int .i64 0,.bool false,.bool false],.int .i64 0,.int .i64 eF]) (by simp [results,Tryz.results36,go_sem,c0,c1,c2,c3,c4,c5,c6,c7,c8,c9]) rfl ?_
  exact readPost_err eF HE.out HN.out rfl hBF.out

theorem numM_zero {s:ByteArray} {st:RSt} (h:(numM s st).2.e≠0):(numM s st).1=0:=by
 unfold numM at h ⊢
 split
 ·rfl
 ·rename_i h0
  rw [if_neg h0] at h
  exact getL_err h
theorem isB_zero (g:Int):isB (⟨g,0,none,0,0,0,0,0,0,0,false,false⟩:PartC) []=false:=by simp [isB,okB]
theorem mustM_ne (st:RSt) (_:True):(mustM false st).e≠0:=by
 unfold mustM
 split
 ·show (11:Nat)≠0;decide
 ·rename_i h;intro h0;exact h ⟨h0,rfl⟩
theorem errM_raw (s:ByteArray) (hk:(numM s (numM s ⟨0,0⟩).2).1=0∨6<(numM s (numM s ⟨0,0⟩).2).1):errM (rawM s)=(mustM false (numM s (numM s ⟨0,0⟩).2).2).e:=by
 unfold rawM
 rcases hk with hk | hk
 ·have h1:numTo s 6 (numM s ⟨0,0⟩).2=(numM s (numM s ⟨0,0⟩).2):=by unfold numTo;rw [if_neg (by rw [hk];decide)]
  rw [h1,hk]
  have h2:bodyM s (numM s ⟨0,0⟩).1 0 (numM s (numM s ⟨0,0⟩).2).2=(⟨(numM s ⟨0,0⟩).1,0,[],0,0,0,0,0,false,false⟩,(numM s (numM s ⟨0,0⟩).2).2):=by simp [bodyM]
  rw [h2]
  unfold errM mustM
  simp only [ReadC.part,List.length_nil,isB_zero]
  by_cases he:(numM s (numM s ⟨0,0⟩).2).2.e=0
  ·rw [if_pos ⟨he,trivial⟩,if_pos ⟨he,trivial⟩]
  ·rw [if_neg (fun h=>he h.1),if_neg (fun h=>he h.1)]
 ·have h0:(numM s (numM s ⟨0,0⟩).2).2.e=0:=by
   apply Classical.byContradiction;intro h;have:=numM_zero h;omega
  have h1:numTo s 6 (numM s ⟨0,0⟩).2=(0,⟨(numM s (numM s ⟨0,0⟩).2).2.at_,11⟩):=by unfold numTo;rw [if_pos hk]
  rw [h1]
  have h2:bodyM s (numM s ⟨0,0⟩).1 0 ⟨(numM s (numM s ⟨0,0⟩).2).2.at_,11⟩=(⟨(numM s ⟨0,0⟩).1,0,[],0,0,0,0,0,false,false⟩,⟨(numM s (numM s ⟨0,0⟩).2).2.at_,11⟩):=by simp [bodyM]
  rw [h2]
  unfold errM mustM
  rw [if_neg (by rintro ⟨h,_⟩;cases h),if_pos ⟨h0,rfl⟩]

set_option maxRecDepth 100000 in
set_option maxHeartbeats 8000000 in
theorem refReadE0_any (s:ByteArray) (hs:s.size<4611686018427387904) (w:World) (hk:(numM s (numM s ⟨0,0⟩).2).1=0) :
  Calls Tryz.prog 36 #[.string s] w (ReadPost s w):=by
 have HE:=Lib.hid (errM_raw s (Or.inl hk))
 have hne:=mustM_ne ((numM s (numM s ⟨0,0⟩).2).2) (trivial)
 have G1:=Lib.hid (fun W (hW:CurAt (w.heap.size+1) s ⟨0,0⟩ W)=>curNum_any (w.heap.size+1) s hs ⟨0,0⟩ (rst0_ok s) W hW)
 have G2:=Lib.hid (fun W (hW:CurAt (w.heap.size+1) s (numM s ⟨0,0⟩).2 W)=>curNum_any (w.heap.size+1) s hs (numM s ⟨0,0⟩).2 (numM_ok (rst0_ok s)) W hW)
 rw [hk] at G2
 replace G2:=Lib.hid (fun W (hW:CurAt (w.heap.size+1) s (numM s ⟨0,0⟩).2 W)=>(show CReads 35 #[.pointer (some ⟨w.heap.size+1,0,none⟩)] (w.heap.size+1) s W (.int .i64 0) (numM s (numM s ⟨0,0⟩).2).2 from G2.out W hW))
 have GM0:=Lib.hid (fun W (hW:CurAt (w.heap.size+1) s (numM s (numM s ⟨0,0⟩).2).2 W)=>curMust_any (w.heap.size+1) s (numM s (numM s ⟨0,0⟩).2).2 false W hW)
 have hk1:=hk
 have HZ:((w.alloc (.cells #[.int .i64 0,.int .i64 0,.slice none 0 0,.int .i64 0,.int .i64 0,.int .i64 0,.int .i64 0,.int .i64 0,.bool false,.bool false] 37)).alloc (.cells #[.string s,.int .i64 0,.int .i64 0] 68)).heap[w.heap.size+1]?=some (.cells #[.string s,.int .i64 0,.int .i64 0] 68 (0,0)):=by have:=World.alloc_heap_new (w.alloc (.cells #[.int .i64 0,.int .i64 0,.slice none 0 0,.int .i64 0,.int .i64 0,.int .i64 0,.int .i64 0,.int .i64 0,.bool false,.bool false] 37)) (.cells #[.string s,.int .i64 0,.int .i64 0] 68);rwa [World.size_alloc] at this
 have H0:CurAt (w.heap.size+1) s ⟨0,0⟩ ((w.alloc (.cells #[.int .i64 0,.int .i64 0,.slice none 0 0,.int .i64 0,.int .i64 0,.int .i64 0,.int .i64 0,.int .i64 0,.bool false,.bool false] 37)).alloc (.cells #[.string s,.int .i64 0,.int .i64 0] 68)):=HZ
 clear HZ
 have hr0:((w.alloc (.cells #[.int .i64 0,.int .i64 0,.slice none 0 0,.int .i64 0,.int .i64 0,.int .i64 0,.int .i64 0,.int .i64 0,.bool false,.bool false] 37)).alloc (.cells #[.string s,.int .i64 0,.int .i64 0] 68)).heap[w.heap.size]?=some (.cells #[.int .i64 0,.int .i64 0,.slice none 0 0,.int .i64 0,.int .i64 0,.int .i64 0,.int .i64 0,.int .i64 0,.bool false,.bool false] 37 (0,0)):=((bel_alloc (Below.refl _ _) _).block _ (by simp)).trans (World.alloc_heap_new w _)
 have hBz:Below w.heap.size w ((w.alloc (.cells #[.int .i64 0,.int .i64 0,.slice none 0 0,.int .i64 0,.int .i64 0,.int .i64 0,.int .i64 0,.int .i64 0,.bool false,.bool false] 37)).alloc (.cells #[.string s,.int .i64 0,.int .i64 0] 68)):=bel_alloc (bel_alloc (Below.refl _ _) _) _
 have hBs:w.heap.size<((w.alloc (.cells #[.int .i64 0,.int .i64 0,.slice none 0 0,.int .i64 0,.int .i64 0,.int .i64 0,.int .i64 0,.int .i64 0,.bool false,.bool false] 37)).alloc (.cells #[.string s,.int .i64 0,.int .i64 0] 68)).heap.size:=by simp;omega
 have hBt:w.heap.size+2≤((w.alloc (.cells #[.int .i64 0,.int .i64 0,.slice none 0 0,.int .i64 0,.int .i64 0,.int .i64 0,.int .i64 0,.int .i64 0,.bool false,.bool false] 37)).alloc (.cells #[.string s,.int .i64 0,.int .i64 0] 68)).heap.size:=by simp
 generalize mustM false (numM s (numM s ⟨0,0⟩).2).2=s3 at *
 generalize (numM s (numM s ⟨0,0⟩).2)=R2 at *
 generalize (numM s ⟨0,0⟩)=R1 at *
 obtain ⟨n1,s1⟩:=R1
 obtain ⟨m2,s2⟩:=R2
 obtain ⟨aF,eF⟩:=s3
 dsimp only at *
 have he1:(0:Int)<(eF:Int):=by omega
 have HN:=Lib.hid hne
 clear hne hk1
 clear hk
 go_enter Tryz.func36,Tryz.ntmps36
 go_wp2_with (first
  | (go_at_call 35;((with_reducible refine (G1.out _ H0).mono ?_);rintro e w1 ⟨rfl,H1,hF⟩;have hr1:=hF.get hr0 (by omega);have hs1:=Nat.le_trans hBt hF.size;have hB1:=hBz.trans (hF.toBelow (Nat.le_of_lt hBs) (fun k hk=>by omega));clear hF))
  | (go_at_call 35;((with_reducible refine (G2.out _ H1).mono ?_);rintro e w2 ⟨rfl,H2,hF⟩;have hX:w2.heap.size≠w.heap.size+1:=(by have:=hF.size;omega);have hXr:w2.heap.size≠w.heap.size:=(by have:=hF.size;omega);have hr2:=hF.get hr1 (by omega);have hB2:=hB1.trans (hF.toBelow hB1.size (fun k hk=>by omega));clear hF;have hA2:=bel_alloc (Below.refl w2.heap.size w2) (.cells #[.int .i64 n1,.int .i64 0,.slice none 0 0,.int .i64 0,.int .i64 0,.int .i64 0,.int .i64 0,.int .i64 0,.bool false,.bool false] 37);have H2a:=H2.below hA2;have hr2a:=(hA2.block _ (heap_ltP hr2)).trans hr2;have hp2a:=World.alloc_heap_new w2 (.cells #[.int .i64 n1,.int .i64 0,.slice none 0 0,.int .i64 0,.int .i64 0,.int .i64 0,.int .i64 0,.int .i64 0,.bool false,.bool false] 37);have hB2a:=hB2.trans (hA2.mono hB2.size);have hs2:=hB2.size;have y0:(w2.alloc (.cells #[.int .i64 n1,.int .i64 0,.slice none 0 0,.int .i64 0,.int .i64 0,.int .i64 0,.int .i64 0,.int .i64 0,.bool false,.bool false] 37)).cell? ⟨w2.heap.size,0,none⟩=some (.int .i64 n1):=cell_of_row _ _ 0 _ _ _ hp2a;have y1:(w2.alloc (.cells #[.int .i64 n1,.int .i64 0,.slice none 0 0,.int .i64 0,.int .i64 0,.int .i64 0,.int .i64 0,.int .i64 0,.bool false,.bool false] 37)).cell? ⟨w2.heap.size,1,none⟩=some (.int .i64 0):=cell_of_row _ _ 1 _ _ _ hp2a;clear hA2))
  | (go_at_call 61;((with_reducible refine (GM0.out _ H2a).mono ?_);rintro e w3 ⟨rfl,H3,hF⟩;have hr3:=hF.get hr2a (by omega);have hp3:=hF.get hp2a hX;have hB3:=hB2a.trans (hF.toBelow hB2a.size (fun k hk=>by omega));have hX3:=heap_ltP hp3;clear hF y0 y1;obtain ⟨_,e1,e2,_,_⟩:=H3.cells;dsimp only at e1 e2;have x0:=frozen_of_row _ _ 0 _ _ hr3;have z0:w3.cell? ⟨w.heap.size,0,none⟩=some (.int .i64 0):=cell_of_row _ _ 0 _ _ _ hr3;have x1:=frozen_of_row _ _ 1 _ _ hr3;have z1:w3.cell? ⟨w.heap.size,1,none⟩=some (.int .i64 0):=cell_of_row _ _ 1 _ _ _ hr3;have x2:=frozen_of_row _ _ 2 _ _ hr3;have z2:w3.cell? ⟨w.heap.size,2,none⟩=some (.slice none 0 0):=cell_of_row _ _ 2 _ _ _ hr3;have x3:=frozen_of_row _ _ 3 _ _ hr3;have z3:w3.cell? ⟨w.heap.size,3,none⟩=some (.int .i64 0):=cell_of_row _ _ 3 _ _ _ hr3;have x4:=frozen_of_row _ _ 4 _ _ hr3;have z4:w3.cell? ⟨w.heap.size,4,none⟩=some (.int .i64 0):=cell_of_row _ _ 4 _ _ _ hr3;have x5:=frozen_of_row _ _ 5 _ _ hr3;have z5:w3.cell? ⟨w.heap.size,5,none⟩=some (.int .i64 0):=cell_of_row _ _ 5 _ _ _ hr3;have x6:=frozen_of_row _ _ 6 _ _ hr3;have z6:w3.cell? ⟨w.heap.size,6,none⟩=some (.int .i64 0):=cell_of_row _ _ 6 _ _ _ hr3;have x7:=frozen_of_row _ _ 7 _ _ hr3;have z7:w3.cell? ⟨w.heap.size,7,none⟩=some (.int .i64 0):=cell_of_row _ _ 7 _ _ _ hr3;have x8:=frozen_of_row _ _ 8 _ _ hr3;have z8:w3.cell? ⟨w.heap.size,8,none⟩=some (.bool false):=cell_of_row _ _ 8 _ _ _ hr3;have x9:=frozen_of_row _ _ 9 _ _ hr3;have z9:w3.cell? ⟨w.heap.size,9,none⟩=some (.bool false):=cell_of_row _ _ 9 _ _ _ hr3)))
 go_region
 go_wp2
 have hq:=st10_block (W:=w3) hr3 (.int .i64 0) (.int .i64 0) (.slice none 0 0) (.int .i64 0) (.int .i64 0) (.int .i64 0) (.int .i64 0) (.int .i64 0) (.bool false) (.bool false)
 have hBF:=Lib.hid ((st10_below hB3 (Nat.le_refl _) (.int .i64 0) (.int .i64 0) (.slice none 0 0) (.int .i64 0) (.int .i64 0) (.int .i64 0) (.int .i64 0) (.int .i64 0) (.bool false) (.bool false)).drew)
 simp only [st10] at hq hBF
 have c0:=cell_of_row _ _ 0 _ _ _ hq;have c1:=cell_of_row _ _ 1 _ _ _ hq;have c2:=cell_of_row _ _ 2 _ _ _ hq;have c3:=cell_of_row _ _ 3 _ _ _ hq;have c4:=cell_of_row _ _ 4 _ _ _ hq;have c5:=cell_of_row _ _ 5 _ _ _ hq;have c6:=cell_of_row _ _ 6 _ _ _ hq;have c7:=cell_of_row _ _ 7 _ _ _ hq;have c8:=cell_of_row _ _ 8 _ _ _ hq;have c9:=cell_of_row _ _ 9 _ _ _ hq;simp only [List.getElem?_toArray,List.getElem?_cons_zero,List.getElem?_cons_succ] at c0 c1 c2 c3 c4 c5 c6 c7 c8 c9
 refine bodyPost_ret (v:=.tuple #[.agg #[.int .i64 0,.int .i64 0,.slice none 0 0,.int .i64 0,.int .i64 0,.int .i64 0,.int .i64 0,.int .i64 0,.bool false,.bool false],.int .i64 0,.int .i64 eF]) (by simp [results,Tryz.results36,go_sem,c0,c1,c2,c3,c4,c5,c6,c7,c8,c9]) rfl ?_
 exact readPost_err eF HE.out HN.out rfl hBF.out

set_option maxRecDepth 100000 in
set_option maxHeartbeats 8000000 in
theorem refReadE7_any (s:ByteArray) (hs:s.size<4611686018427387904) (w:World) (hk:6<(numM s (numM s ⟨0,0⟩).2).1) :
  Calls Tryz.prog 36 #[.string s] w (ReadPost s w):=by
 have HE:=Lib.hid (errM_raw s (Or.inr hk))
 have hne:=mustM_ne ((numM s (numM s ⟨0,0⟩).2).2) (trivial)
 have G1:=Lib.hid (fun W (hW:CurAt (w.heap.size+1) s ⟨0,0⟩ W)=>curNum_any (w.heap.size+1) s hs ⟨0,0⟩ (rst0_ok s) W hW)
 have G2:=Lib.hid (fun W (hW:CurAt (w.heap.size+1) s (numM s ⟨0,0⟩).2 W)=>curNum_any (w.heap.size+1) s hs (numM s ⟨0,0⟩).2 (numM_ok (rst0_ok s)) W hW)
 have GM0:=Lib.hid (fun W (hW:CurAt (w.heap.size+1) s (numM s (numM s ⟨0,0⟩).2).2 W)=>curMust_any (w.heap.size+1) s (numM s (numM s ⟨0,0⟩).2).2 false W hW)
 have hk1:=hk
 have HZ:((w.alloc (.cells #[.int .i64 0,.int .i64 0,.slice none 0 0,.int .i64 0,.int .i64 0,.int .i64 0,.int .i64 0,.int .i64 0,.bool false,.bool false] 37)).alloc (.cells #[.string s,.int .i64 0,.int .i64 0] 68)).heap[w.heap.size+1]?=some (.cells #[.string s,.int .i64 0,.int .i64 0] 68 (0,0)):=by have:=World.alloc_heap_new (w.alloc (.cells #[.int .i64 0,.int .i64 0,.slice none 0 0,.int .i64 0,.int .i64 0,.int .i64 0,.int .i64 0,.int .i64 0,.bool false,.bool false] 37)) (.cells #[.string s,.int .i64 0,.int .i64 0] 68);rwa [World.size_alloc] at this
 have H0:CurAt (w.heap.size+1) s ⟨0,0⟩ ((w.alloc (.cells #[.int .i64 0,.int .i64 0,.slice none 0 0,.int .i64 0,.int .i64 0,.int .i64 0,.int .i64 0,.int .i64 0,.bool false,.bool false] 37)).alloc (.cells #[.string s,.int .i64 0,.int .i64 0] 68)):=HZ
 clear HZ
 have hr0:((w.alloc (.cells #[.int .i64 0,.int .i64 0,.slice none 0 0,.int .i64 0,.int .i64 0,.int .i64 0,.int .i64 0,.int .i64 0,.bool false,.bool false] 37)).alloc (.cells #[.string s,.int .i64 0,.int .i64 0] 68)).heap[w.heap.size]?=some (.cells #[.int .i64 0,.int .i64 0,.slice none 0 0,.int .i64 0,.int .i64 0,.int .i64 0,.int .i64 0,.int .i64 0,.bool false,.bool false] 37 (0,0)):=((bel_alloc (Below.refl _ _) _).block _ (by simp)).trans (World.alloc_heap_new w _)
 have hBz:Below w.heap.size w ((w.alloc (.cells #[.int .i64 0,.int .i64 0,.slice none 0 0,.int .i64 0,.int .i64 0,.int .i64 0,.int .i64 0,.int .i64 0,.bool false,.bool false] 37)).alloc (.cells #[.string s,.int .i64 0,.int .i64 0] 68)):=bel_alloc (bel_alloc (Below.refl _ _) _) _
 have hBs:w.heap.size<((w.alloc (.cells #[.int .i64 0,.int .i64 0,.slice none 0 0,.int .i64 0,.int .i64 0,.int .i64 0,.int .i64 0,.int .i64 0,.bool false,.bool false] 37)).alloc (.cells #[.string s,.int .i64 0,.int .i64 0] 68)).heap.size:=by simp;omega
 have hBt:w.heap.size+2≤((w.alloc (.cells #[.int .i64 0,.int .i64 0,.slice none 0 0,.int .i64 0,.int .i64 0,.int .i64 0,.int .i64 0,.int .i64 0,.bool false,.bool false] 37)).alloc (.cells #[.string s,.int .i64 0,.int .i64 0] 68)).heap.size:=by simp
 generalize mustM false (numM s (numM s ⟨0,0⟩).2).2=s3 at *
 generalize (numM s (numM s ⟨0,0⟩).2)=R2 at *
 generalize (numM s ⟨0,0⟩)=R1 at *
 obtain ⟨n1,s1⟩:=R1
 obtain ⟨m2,s2⟩:=R2
 obtain ⟨aF,eF⟩:=s3
 dsimp only at *
 have he1:(0:Int)<(eF:Int):=by omega
 have HN:=Lib.hid hne
 clear hne hk1
 have hk7:(6:Int)<(m2:Int):=by omega
 have hk8:(1:Int)≤(m2:Int):=by omega
 have hk9:decide ((m2:Int)≤6)=false:=decide_eq_false (by omega)
 clear hk
 go_enter Tryz.func36,Tryz.ntmps36
 go_wp2_with (first
  | (go_at_call 35;((with_reducible refine (G1.out _ H0).mono ?_);rintro e w1 ⟨rfl,H1,hF⟩;have hr1:=hF.get hr0 (by omega);have hs1:=Nat.le_trans hBt hF.size;have hB1:=hBz.trans (hF.toBelow (Nat.le_of_lt hBs) (fun k hk=>by omega));clear hF))
  | (go_at_call 35;((with_reducible refine (G2.out _ H1).mono ?_);rintro e w2 ⟨rfl,H2,hF⟩;have hX:w2.heap.size≠w.heap.size+1:=(by have:=hF.size;omega);have hXr:w2.heap.size≠w.heap.size:=(by have:=hF.size;omega);have hr2:=hF.get hr1 (by omega);have hB2:=hB1.trans (hF.toBelow hB1.size (fun k hk=>by omega));clear hF;have hA2:=bel_alloc (Below.refl w2.heap.size w2) (.cells #[.int .i64 n1,.int .i64 m2,.slice none 0 0,.int .i64 0,.int .i64 0,.int .i64 0,.int .i64 0,.int .i64 0,.bool false,.bool false] 37);have H2a:=H2.below hA2;have hr2a:=(hA2.block _ (heap_ltP hr2)).trans hr2;have hp2a:=World.alloc_heap_new w2 (.cells #[.int .i64 n1,.int .i64 m2,.slice none 0 0,.int .i64 0,.int .i64 0,.int .i64 0,.int .i64 0,.int .i64 0,.bool false,.bool false] 37);have hB2a:=hB2.trans (hA2.mono hB2.size);have hs2:=hB2.size;have y0:(w2.alloc (.cells #[.int .i64 n1,.int .i64 m2,.slice none 0 0,.int .i64 0,.int .i64 0,.int .i64 0,.int .i64 0,.int .i64 0,.bool false,.bool false] 37)).cell? ⟨w2.heap.size,0,none⟩=some (.int .i64 n1):=cell_of_row _ _ 0 _ _ _ hp2a;have y1:(w2.alloc (.cells #[.int .i64 n1,.int .i64 m2,.slice none 0 0,.int .i64 0,.int .i64 0,.int .i64 0,.int .i64 0,.int .i64 0,.bool false,.bool false] 37)).cell? ⟨w2.heap.size,1,none⟩=some (.int .i64 m2):=cell_of_row _ _ 1 _ _ _ hp2a;clear hA2))
  | (go_at_call 61;((with_reducible refine (GM0.out _ H2a).mono ?_);rintro e w3 ⟨rfl,H3,hF⟩;have hr3:=hF.get hr2a (by omega);have hp3:=hF.get hp2a hX;have hB3:=hB2a.trans (hF.toBelow hB2a.size (fun k hk=>by omega));have hX3:=heap_ltP hp3;clear hF y0 y1;obtain ⟨_,e1,e2,_,_⟩:=H3.cells;dsimp only at e1 e2;have x0:=frozen_of_row _ _ 0 _ _ hr3;have z0:w3.cell? ⟨w.heap.size,0,none⟩=some (.int .i64 0):=cell_of_row _ _ 0 _ _ _ hr3;have x1:=frozen_of_row _ _ 1 _ _ hr3;have z1:w3.cell? ⟨w.heap.size,1,none⟩=some (.int .i64 0):=cell_of_row _ _ 1 _ _ _ hr3;have x2:=frozen_of_row _ _ 2 _ _ hr3;have z2:w3.cell? ⟨w.heap.size,2,none⟩=some (.slice none 0 0):=cell_of_row _ _ 2 _ _ _ hr3;have x3:=frozen_of_row _ _ 3 _ _ hr3;have z3:w3.cell? ⟨w.heap.size,3,none⟩=some (.int .i64 0):=cell_of_row _ _ 3 _ _ _ hr3;have x4:=frozen_of_row _ _ 4 _ _ hr3;have z4:w3.cell? ⟨w.heap.size,4,none⟩=some (.int .i64 0):=cell_of_row _ _ 4 _ _ _ hr3;have x5:=frozen_of_row _ _ 5 _ _ hr3;have z5:w3.cell? ⟨w.heap.size,5,none⟩=some (.int .i64 0):=cell_of_row _ _ 5 _ _ _ hr3;have x6:=frozen_of_row _ _ 6 _ _ hr3;have z6:w3.cell? ⟨w.heap.size,6,none⟩=some (.int .i64 0):=cell_of_row _ _ 6 _ _ _ hr3;have x7:=frozen_of_row _ _ 7 _ _ hr3;have z7:w3.cell? ⟨w.heap.size,7,none⟩=some (.int .i64 0):=cell_of_row _ _ 7 _ _ _ hr3;have x8:=frozen_of_row _ _ 8 _ _ hr3;have z8:w3.cell? ⟨w.heap.size,8,none⟩=some (.bool false):=cell_of_row _ _ 8 _ _ _ hr3;have x9:=frozen_of_row _ _ 9 _ _ hr3;have z9:w3.cell? ⟨w.heap.size,9,none⟩=some (.bool false):=cell_of_row _ _ 9 _ _ _ hr3)))
 go_region
 go_wp2
 have hq:=st10_block (W:=w3) hr3 (.int .i64 0) (.int .i64 0) (.slice none 0 0) (.int .i64 0) (.int .i64 0) (.int .i64 0) (.int .i64 0) (.int .i64 0) (.bool false) (.bool false)
 have hBF:=Lib.hid ((st10_below hB3 (Nat.le_refl _) (.int .i64 0) (.int .i64 0) (.slice none 0 0) (.int .i64 0) (.int .i64 0) (.int .i64 0) (.int .i64 0) (.int .i64 0) (.bool false) (.bool false)).drew)
 simp only [st10] at hq hBF
 have c0:=cell_of_row _ _ 0 _ _ _ hq;have c1:=cell_of_row _ _ 1 _ _ _ hq;have c2:=cell_of_row _ _ 2 _ _ _ hq;have c3:=cell_of_row _ _ 3 _ _ _ hq;have c4:=cell_of_row _ _ 4 _ _ _ hq;have c5:=cell_of_row _ _ 5 _ _ _ hq;have c6:=cell_of_row _ _ 6 _ _ _ hq;have c7:=cell_of_row _ _ 7 _ _ _ hq;have c8:=cell_of_row _ _ 8 _ _ _ hq;have c9:=cell_of_row _ _ 9 _ _ _ hq;simp only [List.getElem?_toArray,List.getElem?_cons_zero,List.getElem?_cons_succ] at c0 c1 c2 c3 c4 c5 c6 c7 c8 c9
 refine bodyPost_ret (v:=.tuple #[.agg #[.int .i64 0,.int .i64 0,.slice none 0 0,.int .i64 0,.int .i64 0,.int .i64 0,.int .i64 0,.int .i64 0,.bool false,.bool false],.int .i64 0,.int .i64 eF]) (by simp [results,Tryz.results36,go_sem,c0,c1,c2,c3,c4,c5,c6,c7,c8,c9]) rfl ?_
 exact readPost_err eF HE.out HN.out rfl hBF.out

theorem refReadPart_any (s:ByteArray) (hs:s.size<4611686018427387904) (w:World):Calls Tryz.prog 36 #[.string s] w (ReadPost s w):=by
 by_cases he:(numM s (numM s ⟨0,0⟩).2).2.e=0
 ·have hc:(numM s (numM s ⟨0,0⟩).2).1=0∨(numM s (numM s ⟨0,0⟩).2).1=1∨(numM s (numM s ⟨0,0⟩).2).1=2∨(numM s (numM s ⟨0,0⟩).2).1=3∨(numM s (numM s ⟨0,0⟩).2).1=4∨(numM s (numM s ⟨0,0⟩).2).1=5∨(numM s (numM s ⟨0,0⟩).2).1=6∨6<(numM s (numM s ⟨0,0⟩).2).1:=by omega
  rcases hc with h | h | h | h | h | h | h | h
  ·exact refReadE0_any s hs w h
  ·exact refRead1_any s hs w h he
  ·exact refRead2_any s hs w h he
  ·exact refRead3_any s hs w h he
  ·exact refRead4_any s hs w h he
  ·exact refRead5_any s hs w h he
  ·exact refRead6_any s hs w h he
  ·exact refReadE7_any s hs w h
 ·exact refReadE0_any s hs w (numM_zero he)

end Go.Proofs.YtpogklceaoiacaaGreat
