/- The contracts of the document's Cursor: Num, Text, must, hard. -/
import Derived.Test.YtpogklceaoiacaaGreatReader
import Derived.Test.YtpogklceaoiacaaGreatRefGet
import Derived.Test.YtpogklceaoiacaaGreatReadP
namespace Go.Proofs.YtpogklceaoiacaaGreat
open Go.RowKit Go.Shelf
set_option linter.unusedVariables false
attribute [local go_sem] Oper.semAt_some wide_fn wide_round_fn

def CurAt (b:Nat) (s:ByteArray) (st:RSt) (w:World):Prop:=w.heap[b]?=some (.cells (rdArr s st) 68 (0,0))

theorem CurAt.cells {b:Nat} {s:ByteArray} {st:RSt} {w:World} (h:CurAt b s st w):w.cell? ⟨b,0,none⟩=some (.string s)∧w.cell? ⟨b,1,none⟩=some (.int .i64 st.at_)∧w.cell? ⟨b,2,none⟩=some (.int .i64 st.e)∧w.frozen? ⟨b,1,none⟩=false∧w.frozen? ⟨b,2,none⟩=false :=
 ⟨cell_of_row _ _ 0 _ _ _ h,cell_of_row _ _ 1 _ _ _ h,cell_of_row _ _ 2 _ _ _ h,frozen_of_row _ _ 1 _ _ h,frozen_of_row _ _ 2 _ _ h⟩

theorem CurAt.lt {b:Nat} {s:ByteArray} {st:RSt} {w:World} (h:CurAt b s st w):b<w.heap.size:=(Array.getElem?_eq_some_iff.1 (show w.heap[b]?=some _ from h)).1

theorem CurAt.below {b:Nat} {s:ByteArray} {st:RSt} {w w':World} (h:CurAt b s st w) (hB:Below w.heap.size w w'):CurAt b s st w' :=
 (hB.block b (Array.getElem?_eq_some_iff.1 h).1).trans h

theorem CurAt.put {b:Nat} {s:ByteArray} {st:RSt} {w:World} (h:CurAt b s st w) (k e:Nat):CurAt b s ⟨k,e⟩ ((w.setCell ⟨b,1,none⟩ (.int .i64 k)).setCell ⟨b,2,none⟩ (.int .i64 e)):=by
 have h2:=Go.Joins.block_setCell (Go.Joins.block_setCell h (.int .i64 k) (i:=1)) (.int .i64 e) (i:=2)
 simp only [List.setIfInBounds_toArray,List.set_cons_succ,List.set_cons_zero] at h2
 exact h2

theorem CurAt.putI {b:Nat} {s:ByteArray} {st:RSt} {w:World} (h:CurAt b s st w) {k e:Nat} {K E:Int} (hk:K=(k:Int)) (he:E=(e:Int)):CurAt b s ⟨k,e⟩ ((w.setCell ⟨b,1,none⟩ (.int .i64 K)).setCell ⟨b,2,none⟩ (.int .i64 E)):=by
 subst hk;subst he;exact h.put k e

theorem CurAt.err {b:Nat} {s:ByteArray} {st:RSt} {w:World} (h:CurAt b s st w) (e:Nat):CurAt b s ⟨st.at_,e⟩ (w.setCell ⟨b,2,none⟩ (.int .i64 e)):=by
 have h2:=Go.Joins.block_setCell h (.int .i64 e) (i:=2)
 simp only [List.setIfInBounds_toArray,List.set_cons_succ,List.set_cons_zero] at h2
 exact h2

abbrev CReads (f:FuncId) (args:Array Value) (b:Nat) (s:ByteArray) (w:World) (v:Value) (st:RSt):Prop :=
 Calls Tryz.prog f args w fun e w'=>e=.returned v∧CurAt b s st w'∧FrameT (fun k=>k=b) w w'

set_option maxRecDepth 100000 in
set_option maxHeartbeats 1000000 in
theorem curNum_any (b:Nat) (s:ByteArray) (hs:s.size<4611686018427387904) (st:RSt) (hok:st.ok s) (w:World) (h:CurAt b s st w) :
  CReads 35 #[.pointer (some ⟨b,0,none⟩)] b s w (.int .i64 (numM s st).1) (numM s st).2:=by
 obtain ⟨c0,c1,c2,f1,f2⟩:=h.cells
 obtain ⟨k,e⟩:=st
 obtain ⟨hk,he⟩:=hok
 dsimp only at *
 unfold CReads
 by_cases h0:e=0
 ·subst h0
  have hsz:=restB_size s k hk
  have G:=Lib.hid (fun W=>refGet_any (restB s k) (by omega) W)
  have hb:=getL_bound (s.data.toList.drop k)
  have HV:=Lib.hid (show numM s ⟨k,0⟩=((getL (s.data.toList.drop k)).1,⟨k+(getL (s.data.toList.drop k)).2.1,(getL (s.data.toList.drop k)).2.2⟩) from by simp [numM])
  rw [HV.out]
  simp only [restB_list] at G
  unfold restB at G
  have hdl:(s.data.toList.drop k).length=s.size - k:=by rw [List.length_drop];simp
  rw [hdl] at hb
  clear hdl hsz HV
  have HB:=Lib.hid hb
  generalize getL (s.data.toList.drop k)=R at *
  obtain ⟨n,j,x⟩:=R
  dsimp only at *
  have hj:j≤9:=hb.2.1
  have hkz:k≤4611686018427387904:=by omega
  have hk0:(0:Int)≤(k:Int):=by omega
  have hk1:(k:Int)≤(s.size:Int):=by omega
  clear hb hk
  have hbw:b<w.drew.heap.size:=(Array.getElem?_eq_some_iff.1 h).1
  go_enter Tryz.func35,Tryz.ntmps35
  go_wp2
  go_region_held3 (fun W'=>W'.cell? ⟨b,0,none⟩=some (.string s)∧W'.cell? ⟨b,1,none⟩=some (.int .i64 k)) (go_keep) (first | (go_at_call 60;((with_reducible refine (G.out _).mono ?_);rintro e w1 ⟨rfl,hB1⟩;have z0:=(hB1.cell (p:=⟨b,0,none⟩) hbw).trans c0;have z1:=(hB1.cell (p:=⟨b,1,none⟩) hbw).trans c1)))
  have h1:CurAt b s ⟨k,0⟩ w1:=CurAt.below (show CurAt b s ⟨k,0⟩ w.drew from h) hB1
  obtain ⟨d0,d1,d2,g1,g2⟩:=h1.cells
  dsimp only at d0 d1 d2
  go_wp2
  go_ret
  exact ⟨rfl,h1.putI (by push_cast;rfl) rfl,((FrameT.refl _ _).drew.trans (FrameT.below hB1)).trans (put_frame _ _ _ _)⟩
 ·have h0':¬ ((e:Int)=0):=by omega
  have HV:=Lib.hid (show numM s ⟨k,e⟩=(0,⟨k,e⟩) from by simp [numM,h0])
  rw [HV.out]
  have h1:(0:Int)<e:=by omega
  go_enter Tryz.func35,Tryz.ntmps35
  go_wp2
  go_ret
  exact ⟨rfl,h,FrameT.refl _ _⟩

set_option maxRecDepth 100000 in
set_option maxHeartbeats 1000000 in
theorem curText_any (b:Nat) (s:ByteArray) (hs:s.size<4611686018427387904) (st:RSt) (hok:st.ok s) (w:World) (h:CurAt b s st w) :
  CReads 79 #[.pointer (some ⟨b,0,none⟩)] b s w (.string (txtM s st).1) (txtM s st).2:=by
 obtain ⟨c0,c1,c2,f1,f2⟩:=h.cells
 obtain ⟨k,e⟩:=st
 obtain ⟨hk,he⟩:=hok
 dsimp only at *
 unfold CReads
 by_cases h0:e=0
 ·subst h0
  have hsz:=restB_size s k hk
  have G:=Lib.hid (fun W=>refTexts_any (restB s k) (by omega) 40 W)
  have hb:=textsB_bound (restB s k) 40
  have HV:=Lib.hid (show txtM s ⟨k,0⟩=((textsB (restB s k) 40).1,⟨k+(textsB (restB s k) 40).2.1,(textsB (restB s k) 40).2.2⟩) from by simp [txtM])
  rw [HV.out]
  rw [hsz] at hb
  clear hsz HV
  generalize textsB (restB s k) 40=R at *
  unfold restB at G
  obtain ⟨n,j,x⟩:=R
  dsimp only at *
  have hj:j≤4611686018427387904:=by omega
  have hkz:k≤4611686018427387904:=by omega
  have hk0:(0:Int)≤(k:Int):=by omega
  have hk1:(k:Int)≤(s.size:Int):=by omega
  have hkj:(k:Int)+(j:Int)≤4611686018427387904:=by omega
  clear hb hk
  have hbw:b<w.drew.heap.size:=(Array.getElem?_eq_some_iff.1 h).1
  go_enter Tryz.func79,Tryz.ntmps79
  go_wp2
  go_region_held3 (fun W'=>W'.cell? ⟨b,0,none⟩=some (.string s)∧W'.cell? ⟨b,1,none⟩=some (.int .i64 k)) (go_keep) (first | (go_at_call 98;((with_reducible refine (G.out _).mono ?_);rintro e w1 ⟨rfl,hB1⟩;have z0:=(hB1.cell (p:=⟨b,0,none⟩) hbw).trans c0;have z1:=(hB1.cell (p:=⟨b,1,none⟩) hbw).trans c1)))
  have h1:CurAt b s ⟨k,0⟩ w1:=CurAt.below (show CurAt b s ⟨k,0⟩ w.drew from h) hB1
  obtain ⟨d0,d1,d2,g1,g2⟩:=h1.cells
  dsimp only at d0 d1 d2
  go_wp2
  go_ret
  exact ⟨rfl,h1.putI (by push_cast;rfl) rfl,((FrameT.refl _ _).drew.trans (FrameT.below hB1)).trans (put_frame _ _ _ _)⟩
 ·have h0':¬ ((e:Int)=0):=by omega
  have HV:=Lib.hid (show txtM s ⟨k,e⟩=(⟨#[]⟩,⟨k,e⟩) from by simp [txtM,h0])
  rw [HV.out]
  have h1:(0:Int)<e:=by omega
  go_enter Tryz.func79,Tryz.ntmps79
  go_wp2
  go_ret
  exact ⟨rfl,h,FrameT.refl _ _⟩

theorem CurAt.st {b X i:Nat} {s:ByteArray} {q:RSt} {W:World} {v:Value} (h:CurAt b s q W) (hne:b≠X):CurAt b s q (W.setCell ⟨X,i,none⟩ v):=blk_st h hne

set_option maxRecDepth 100000 in
set_option maxHeartbeats 1000000 in
theorem curHard_any (b:Nat) (s:ByteArray) (hs:s.size<4611686018427387904) (st:RSt) (hok:st.ok s) (w:World) (h:CurAt b s st w) :
  CReads 63 #[.pointer (some ⟨b,0,none⟩)] b s w (.agg #[.int .i64 (hardM s st).1.1,.int .i64 (hardM s st).1.2.1,.int .i64 (hardM s st).1.2.2]) (hardM s st).2:=by
 have G1:=Lib.hid (fun W (hW:CurAt b s st W)=>curNum_any b s hs st hok W hW)
 have G2:=Lib.hid (fun W (hW:CurAt b s (numM s st).2 W)=>curNum_any b s hs (numM s st).2 (numM_ok hok) W hW)
 have G3:=Lib.hid (fun W (hW:CurAt b s (numM s (numM s st).2).2 W)=>curNum_any b s hs (numM s (numM s st).2).2 (numM_ok (numM_ok hok)) W hW)
 unfold CReads hardM
 dsimp only
 generalize numM s (numM s (numM s st).2).2=R3 at *
 generalize numM s (numM s st).2=R2 at *
 generalize numM s st=R1 at *
 obtain ⟨n1,s1⟩:=R1
 obtain ⟨n2,s2⟩:=R2
 obtain ⟨n3,s3⟩:=R3
 dsimp only at *
 have hbw:b<w.heap.size:=(Array.getElem?_eq_some_iff.1 h).1
 have H0:CurAt b s st (w.alloc (.cells #[.int .i64 0,.int .i64 0,.int .i64 0] 35)):=h.below (bel_alloc (Below.refl _ _) _)
 have hF0:FrameT (fun k=>k=b) w (w.alloc (.cells #[.int .i64 0,.int .i64 0,.int .i64 0] 35)):=FrameT.below (bel_alloc (Below.refl _ _) _)
 have hb0:(w.alloc (.cells #[.int .i64 0,.int .i64 0,.int .i64 0] 35)).heap[w.heap.size]?=some (.cells #[.int .i64 0,.int .i64 0,.int .i64 0] 35 (0,0)):=World.alloc_heap_new _ _
 have hne:w.heap.size≠b:=by omega
 go_enter Tryz.func63,Tryz.ntmps63
 go_wp2_with (first
  | (go_at_call 35;((with_reducible refine (G1.out _ H0).mono ?_);rintro e w1 ⟨rfl,H1,hF⟩;have hF1:=hF0.trans hF;have hb1:=hF.get hb0 hne;clear hF))
  | (go_at_call 35;((with_reducible refine (G2.out _ H1).mono ?_);rintro e w2 ⟨rfl,H2,hF⟩;have hF2:=hF1.trans hF;have hb2:=hF.get hb1 hne;clear hF))
  | (go_at_call 35;((with_reducible refine (G3.out _ H2).mono ?_);rintro e w3 ⟨rfl,H3,hF⟩;have hF3:=hF2.trans hF;have hb3:=hF.get hb2 hne;clear hF;have k0:w3.cell? ⟨w.heap.size,0,none⟩=some (.int .i64 0):=cell_of_row _ _ 0 _ _ _ hb3;have k1:w3.cell? ⟨w.heap.size,1,none⟩=some (.int .i64 0):=cell_of_row _ _ 1 _ _ _ hb3;have k2:w3.cell? ⟨w.heap.size,2,none⟩=some (.int .i64 0):=cell_of_row _ _ 2 _ _ _ hb3;have f0:=frozen_of_row _ _ 0 _ _ hb3;have f1:=frozen_of_row _ _ 1 _ _ hb3;have f2:=frozen_of_row _ _ 2 _ _ hb3)))
 have hb4:=Go.Joins.block_setCell (Go.Joins.block_setCell (Go.Joins.block_setCell hb3 (.int .i64 n1) (i:=0)) (.int .i64 n2) (i:=1)) (.int .i64 n3) (i:=2)
 simp only [List.setIfInBounds_toArray,List.set_cons_succ,List.set_cons_zero] at hb4
 refine bodyPost_ret (v:=.agg #[.int .i64 n1,.int .i64 n2,.int .i64 n3]) (by have c0:=cell_of_row _ _ 0 _ _ _ hb4;have c1:=cell_of_row _ _ 1 _ _ _ hb4;have c2:=cell_of_row _ _ 2 _ _ _ hb4;simp only [List.getElem?_toArray,List.getElem?_cons_zero,List.getElem?_cons_succ] at c0 c1 c2;simp [results,Tryz.results63,go_sem,c0,c1,c2]) rfl ⟨rfl,?_,?_⟩
 ·exact ((H3.st (i:=0) (Ne.symm hne)).st (i:=1) (Ne.symm hne)).st (i:=2) (Ne.symm hne)
 ·have hU:FrameT (fun k=>k=b∨w.heap.size≤k) w (((w3.setCell ⟨w.heap.size,0,none⟩ (.int .i64 n1)).setCell ⟨w.heap.size,1,none⟩ (.int .i64 n2)).setCell ⟨w.heap.size,2,none⟩ (.int .i64 n3)) :=
   (((hF3.mono (fun _ h=>.inl h)).trans ((FrameT.setCell _ w.heap.size 0 (.int .i64 n1)).mono (fun _ h=>.inr (by omega)))).trans ((FrameT.setCell _ w.heap.size 1 (.int .i64 n2)).mono (fun _ h=>.inr (by omega)))).trans ((FrameT.setCell _ w.heap.size 2 (.int .i64 n3)).mono (fun _ h=>.inr (by omega)))
  exact ⟨hU.os,hU.tape,hU.output,hU.size,fun k hk hT=>hU.block k hk (fun h=>h.elim hT (fun h=>by omega))⟩

def mustM (ok:Bool) (st:RSt):RSt:=if st.e=0∧ok=false then ⟨st.at_,11⟩ else st
set_option maxRecDepth 100000 in
set_option maxHeartbeats 1000000 in
theorem curMust_any (b:Nat) (s:ByteArray) (st:RSt) (ok:Bool) (w:World) (h:CurAt b s st w) :
  Calls Tryz.prog 61 #[.pointer (some ⟨b,0,none⟩),.bool ok] w fun e w'=>e=.returned (.tuple #[])∧CurAt b s (mustM ok st) w'∧FrameT (fun k=>k=b) w w':=by
 obtain ⟨c0,c1,c2,f1,f2⟩:=h.cells
 by_cases h0:st.e=0
 ·have hz:(st.e:Int)=0:=by omega
  rw [hz] at c2
  clear hz
  cases ok with
  | true =>
   have HV:=Lib.hid (show mustM true st=st from by simp [mustM])
   rw [HV.out]
   clear h0
   go_enter Tryz.func61,Tryz.ntmps61
   go_wp2
   go_end0
   exact ⟨rfl,h,FrameT.refl _ _⟩
  | false =>
   have HV:=Lib.hid (show mustM false st=⟨st.at_,11⟩ from by simp [mustM,h0])
   rw [HV.out]
   clear h0
   go_enter Tryz.func61,Tryz.ntmps61
   go_wp2
   go_end0
   exact ⟨rfl,h.err 11,FrameT.setCell _ _ _ _⟩
 ·have h1:(0:Int)<(st.e:Int):=by omega
  have HV:=Lib.hid (show mustM ok st=st from by simp [mustM,h0])
  rw [HV.out]
  clear h0
  go_enter Tryz.func61,Tryz.ntmps61
  go_wp2
  go_end0
  exact ⟨rfl,h,FrameT.refl _ _⟩

end Go.Proofs.YtpogklceaoiacaaGreat
