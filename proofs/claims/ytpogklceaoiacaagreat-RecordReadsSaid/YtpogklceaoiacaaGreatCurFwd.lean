/- The contracts of the document's Cursor.close and Cursor.forward. -/
import Derived.Test.YtpogklceaoiacaaGreatCurEnt
import Derived.Test.YtpogklceaoiacaaGreatEntries2
import Derived.Deep.RegionLaw
import Derived.Deep.AppendLies
namespace Go.Proofs.YtpogklceaoiacaaGreat
open Go.RowKit Go.Shelf
set_option linter.unusedVariables false
attribute [local go_sem] Oper.semAt_some wide_fn wide_round_fn

/-- What a KForward has behind its flag, by the two flags. -/
def gM (s:ByteArray) (g:Int) (mk hd:Bool) (st:RSt):ReadC × RSt :=
 let i:=if mk then numM s st else (0,st)
 let t:=if mk then numM s i.2 else (0,i.2)
 let h:=if hd then hardM s t.2 else ((0,0,0),t.2)
 let n:=numTo s 6 h.2
 let l:=entM s (idxRead s) n.1 0 n.2
 (⟨g,6,l.1,h.1.1,h.1.2.1,h.1.2.2,i.1,t.1,mk,hd⟩,l.2)
theorem fwdM_gM (s:ByteArray) (g:Int) (st:RSt):fwdM s g st=gM s g ((numTo s 3 st).1 % 2 == 1) ((numTo s 3 st).1 / 2 == 1) (numTo s 3 st).2:=rfl
theorem numTo_err {s:ByteArray} {m:Nat} {st:RSt} (he:st.e≠0):numTo s m st=(0,st):=by
 unfold numTo;rw [numM_err he];simp
theorem hardM_err {s:ByteArray} {st:RSt} (he:st.e≠0):(hardM s st).2=st:=by
 unfold hardM;simp [numM_err he]
theorem gM_err {s:ByteArray} {g:Int} {mk hd:Bool} {st:RSt} (he:st.e≠0):(gM s g mk hd st).2=st:=by
 unfold gM
 cases mk <;> cases hd <;> simp [numM_err he,hardM_err he,numTo_err he] <;> exact entM_err he (fun i=>by simp [idxRead,numM_err he]) _ _
/-- What Cursor.forward leaves. -/
def RFwd (b X:Nat) (s:ByteArray) (g:Int) (mk hd:Bool) (st:RSt) (w:World) (e:Ending) (w':World):Prop :=
 e=.returned (.tuple #[])∧CurAt b s (gM s g mk hd st).2 w'∧FrameT (fun k=>k=b∨k=X) w w' ∧
 ∃ (a:Option Addr) (cap:Nat) (l:List EntryC),l.length≤6∧((gM s g mk hd st).2.e=0→l=(gM s g mk hd st).1.l) ∧
  w'.heap[X]?=some (.cells #[.int .i64 g,.int .i64 6,.slice a l.length cap,.int .i64 (gM s g mk hd st).1.ht,.int .i64 (gM s g mk hd st).1.hv,.int .i64 (gM s g mk hd st).1.hc,.int .i64 (gM s g mk hd st).1.i,.int .i64 (gM s g mk hd st).1.t,.bool mk,.bool hd] 37 (0,0)) ∧
  RowV w' a l.length 3 (entryCells l)∧∀ k,inBlkE a l.length k→w.heap.size≤k

set_option maxRecDepth 100000 in
set_option maxHeartbeats 8000000 in
theorem rfwd11 (b X:Nat) (s:ByteArray) (hs:s.size<4611686018427387904) (st0:RSt) (hok0:st0.ok s) (hmk:(bits .and .i64 ((numM s st0).1:Int) 1 == 1)=true) (hhd:(bits .and .i64 ((numM s st0).1:Int) 2 == 2)=true) (g:Int) (hXb:X≠b) (w:World) (h:CurAt b s st0 w)
  (hp:w.heap[X]?=some (.cells #[.int .i64 g,.int .i64 6,.slice none 0 0,.int .i64 0,.int .i64 0,.int .i64 0,.int .i64 0,.int .i64 0,.bool false,.bool false] 37 (0,0))) :
  Calls Tryz.prog 64 #[.pointer (some ⟨b,0,none⟩),.pointer (some ⟨X,0,none⟩)] w (RFwd b X s g true true (numTo s 3 st0).2 w):=by
 obtain ⟨i0,hi,hz0,hz1,hz2⟩:=info_parts infoEntry
 have hbw:=h.lt
 have hXw:=heap_ltP hp
 have ok1:=numM_ok hok0
 have ok2:=numTo_ok (most:=3) hok0
 have hNN:=numM_lt s st0
 have G1:=Lib.hid (fun W (hW:CurAt b s st0 W)=>curNum_any b s hs st0 hok0 W hW)
 have G2:=Lib.hid (fun W (hW:CurAt b s (numM s st0).2 W)=>curMust_any b s (numM s st0).2 (decide ((numM s st0).1≤3)) W hW)
 rw [must_numTo] at G2
 have hDD:=Lib.hid (show decide (((numM s st0).1:Int)≤3)=decide ((numM s st0).1≤3) from decide_eq_decide.2 (by omega))
 have G3:=Lib.hid (fun W (hW:CurAt b s (numTo s 3 st0).2 W)=>curNum_any b s hs _ ok2 W hW)
 have ok3:=numM_ok ok2
 have G4:=Lib.hid (fun W (hW:CurAt b s (numM s (numTo s 3 st0).2).2 W)=>curNum_any b s hs _ ok3 W hW)
 have ok4:=numM_ok ok3
 have G5:=Lib.hid (fun W (hW:CurAt b s (numM s (numM s (numTo s 3 st0).2).2).2 W)=>curHard_any b s hs _ ok4 W hW)
 have ok5:=hardM_ok ok4
 have G6:=Lib.hid (fun W (hW:CurAt b s (hardM s (numM s (numM s (numTo s 3 st0).2).2).2).2 W)=>curNum_any b s hs _ ok5 W hW)
 have ok6:=numTo_ok (most:=6) ok5
 have G7:=Lib.hid (fun W (hW:CurAt b s (numM s (hardM s (numM s (numM s (numTo s 3 st0).2).2).2).2).2 W)=>curMust_any b s (numM s (hardM s (numM s (numM s (numTo s 3 st0).2).2).2).2).2 (decide ((numM s (hardM s (numM s (numM s (numTo s 3 st0).2).2).2).2).1≤6)) W hW)
 rw [must_numTo] at G7
 have hN6:=numM_lt s (hardM s (numM s (numM s (numTo s 3 st0).2).2).2).2
 have hm6:=numTo_le s 6 (hardM s (numM s (numM s (numTo s 3 st0).2).2).2).2
 have hD6:=Lib.hid (show decide (((numM s (hardM s (numM s (numM s (numTo s 3 st0).2).2).2).2).1:Int)≤6)=decide ((numM s (hardM s (numM s (numM s (numTo s 3 st0).2).2).2).2).1≤6) from decide_eq_decide.2 (by omega))
 have HST:=Lib.hid (EntInv.start (idx:=idxRead s) (n1:=(numTo s 6 (hardM s (numM s (numM s (numTo s 3 st0).2).2).2).2).1) (nref:=(numM s (hardM s (numM s (numM s (numTo s 3 st0).2).2).2).2).1) ok6 (fun he=>(numTo_same he).symm) (fun he i=>by simp [idxRead,numM_err he]))
 have HQ:=Lib.hid (show gM s g true true (numTo s 3 st0).2=(⟨g,6,(entM s (idxRead s) (numTo s 6 (hardM s (numM s (numM s (numTo s 3 st0).2).2).2).2).1 0 (numTo s 6 (hardM s (numM s (numM s (numTo s 3 st0).2).2).2).2).2).1,(hardM s (numM s (numM s (numTo s 3 st0).2).2).2).1.1,(hardM s (numM s (numM s (numTo s 3 st0).2).2).2).1.2.1,(hardM s (numM s (numM s (numTo s 3 st0).2).2).2).1.2.2,(numM s (numTo s 3 st0).2).1,(numM s (numM s (numTo s 3 st0).2).2).1,true,true⟩,(entM s (idxRead s) (numTo s 6 (hardM s (numM s (numM s (numTo s 3 st0).2).2).2).2).1 0 (numTo s 6 (hardM s (numM s (numM s (numTo s 3 st0).2).2).2).2).2).2) from rfl)
 unfold RFwd
 rw [HQ.out]
 clear HQ ok1 ok2 ok6 ok3 ok4 ok5
 generalize entM s (idxRead s) (numTo s 6 (hardM s (numM s (numM s (numTo s 3 st0).2).2).2).2).1 0 (numTo s 6 (hardM s (numM s (numM s (numTo s 3 st0).2).2).2).2).2=M at *
 generalize (numTo s 6 (hardM s (numM s (numM s (numTo s 3 st0).2).2).2).2).1=n1 at *
 generalize (numTo s 6 (hardM s (numM s (numM s (numTo s 3 st0).2).2).2).2).2=st7 at *
 generalize numM s (hardM s (numM s (numM s (numTo s 3 st0).2).2).2).2=R6 at *
 generalize hardM s (numM s (numM s (numTo s 3 st0).2).2).2=R5 at *
 generalize numM s (numM s (numTo s 3 st0).2).2=R4 at *
 generalize numM s (numTo s 3 st0).2=R3 at *
 generalize (numTo s 3 st0).2=st2 at *
 generalize numM s st0=R1 at *
 obtain ⟨k,st1⟩:=R1
 obtain ⟨ni,st3⟩:=R3
 obtain ⟨nt,st4⟩:=R4
 obtain ⟨⟨x1,x2,x3⟩,st5⟩:=R5
 obtain ⟨nref,st6⟩:=R6
 dsimp only at *
 generalize decide (k≤3)=bD at *
 generalize decide (nref≤6)=bE at *
 have hdd:decide ((k:Int)≤3)=bD:=hDD.out
 have hde:decide ((nref:Int)≤6)=bE:=hD6.out
 clear hDD hD6
 go_enter Tryz.func64,Tryz.ntmps64
 go_wp2_with (first
  | (go_at_call 35;((with_reducible refine (G1.out _ h).mono ?_);rintro e w1 ⟨rfl,H1,hF⟩;have hp1:=hF.get hp hXb;have hF1:=FrameT.trans (FrameT.refl (fun k=>k=b∨k=X) w) (hF.mono (fun _ h=>Or.inl h));clear hF))
  | (go_at_call 61;((with_reducible refine (G2.out _ H1).mono ?_);rintro e w2 ⟨rfl,H2,hF⟩;have hp2:=hF.get hp1 hXb;have hF2:=FrameT.trans hF1 (hF.mono (fun _ h=>Or.inl h));clear hF;have kf28:=frozen_of_row _ _ 8 _ _ hp2;have kc28:w2.cell? ⟨X,8,none⟩=some (.bool false):=cell_of_row _ _ 8 _ _ _ hp2;have kf29:=frozen_of_row _ _ 9 _ _ hp2;have kc29:w2.cell? ⟨X,9,none⟩=some (.bool false):=cell_of_row _ _ 9 _ _ _ hp2;have hp2a:=(Go.Joins.block_setCell (Go.Joins.block_setCell hp2 (.bool true) (i:=8)) (.bool true) (i:=9));simp only [List.setIfInBounds_toArray,List.set_cons_succ,List.set_cons_zero] at hp2a;have H2a:=(CurAt.st (CurAt.st H2 (i:=8) (v:=.bool true) (Ne.symm hXb)) (i:=9) (v:=.bool true) (Ne.symm hXb));have hF2a:=(FrameT.trans (FrameT.trans hF2 ((FrameT.setCell _ X 8 (.bool true)).mono (fun _ h=>Or.inr h))) ((FrameT.setCell _ X 9 (.bool true)).mono (fun _ h=>Or.inr h)))))
  | (go_at_call 35;((with_reducible refine (G3.out _ H2a).mono ?_);rintro e w3 ⟨rfl,H3,hF⟩;have hp3:=hF.get hp2a hXb;have hF3:=FrameT.trans hF2a (hF.mono (fun _ h=>Or.inl h));clear hF;have kf36:=frozen_of_row _ _ 6 _ _ hp3;have kc36:w3.cell? ⟨X,6,none⟩=some (.int .i64 0):=cell_of_row _ _ 6 _ _ _ hp3;have hp3a:=(Go.Joins.block_setCell hp3 (.int .i64 ni) (i:=6));simp only [List.setIfInBounds_toArray,List.set_cons_succ,List.set_cons_zero] at hp3a;have H3a:=(CurAt.st H3 (i:=6) (v:=.int .i64 ni) (Ne.symm hXb));have hF3a:=(FrameT.trans hF3 ((FrameT.setCell _ X 6 (.int .i64 ni)).mono (fun _ h=>Or.inr h)))))
  | (go_at_call 35;((with_reducible refine (G4.out _ H3a).mono ?_);rintro e w4 ⟨rfl,H4,hF⟩;have hp4:=hF.get hp3a hXb;have hF4:=FrameT.trans hF3a (hF.mono (fun _ h=>Or.inl h));clear hF;have kf47:=frozen_of_row _ _ 7 _ _ hp4;have kc47:w4.cell? ⟨X,7,none⟩=some (.int .i64 0):=cell_of_row _ _ 7 _ _ _ hp4;have kq9:w4.cell? ⟨X,9,none⟩=some (.bool true):=cell_of_row _ _ 9 _ _ _ hp4;have hp4a:=(Go.Joins.block_setCell hp4 (.int .i64 nt) (i:=7));simp only [List.setIfInBounds_toArray,List.set_cons_succ,List.set_cons_zero] at hp4a;have H4a:=(CurAt.st H4 (i:=7) (v:=.int .i64 nt) (Ne.symm hXb));have hF4a:=(FrameT.trans hF4 ((FrameT.setCell _ X 7 (.int .i64 nt)).mono (fun _ h=>Or.inr h)))))
  | (go_at_call 63;((with_reducible refine (G5.out _ H4a).mono ?_);rintro e w5 ⟨rfl,H5,hF⟩;have hp5:=hF.get hp4a hXb;have hF5:=FrameT.trans hF4a (hF.mono (fun _ h=>Or.inl h));clear hF;have kf53:=frozen_of_row _ _ 3 _ _ hp5;have kc53:w5.cell? ⟨X,3,none⟩=some (.int .i64 0):=cell_of_row _ _ 3 _ _ _ hp5;have kf54:=frozen_of_row _ _ 4 _ _ hp5;have kc54:w5.cell? ⟨X,4,none⟩=some (.int .i64 0):=cell_of_row _ _ 4 _ _ _ hp5;have kf55:=frozen_of_row _ _ 5 _ _ hp5;have kc55:w5.cell? ⟨X,5,none⟩=some (.int .i64 0):=cell_of_row _ _ 5 _ _ _ hp5;have hp5a:=(Go.Joins.block_setCell (Go.Joins.block_setCell (Go.Joins.block_setCell hp5 (.int .i64 x1) (i:=3)) (.int .i64 x2) (i:=4)) (.int .i64 x3) (i:=5));simp only [List.setIfInBounds_toArray,List.set_cons_succ,List.set_cons_zero] at hp5a;have H5a:=(CurAt.st (CurAt.st (CurAt.st H5 (i:=3) (v:=.int .i64 x1) (Ne.symm hXb)) (i:=4) (v:=.int .i64 x2) (Ne.symm hXb)) (i:=5) (v:=.int .i64 x3) (Ne.symm hXb));have hF5a:=(FrameT.trans (FrameT.trans (FrameT.trans hF5 ((FrameT.setCell _ X 3 (.int .i64 x1)).mono (fun _ h=>Or.inr h))) ((FrameT.setCell _ X 4 (.int .i64 x2)).mono (fun _ h=>Or.inr h))) ((FrameT.setCell _ X 5 (.int .i64 x3)).mono (fun _ h=>Or.inr h)))))
  | (go_at_call 35;((with_reducible refine (G6.out _ H5a).mono ?_);rintro e w6 ⟨rfl,H6,hF⟩;have hp6:=hF.get hp5a hXb;have hF6:=FrameT.trans hF5a (hF.mono (fun _ h=>Or.inl h));clear hF))
  | (go_at_call 61;((with_reducible refine (G7.out _ H6).mono ?_);rintro e w7 ⟨rfl,H7,hF⟩;have hp7:=hF.get hp6 hXb;have hF7:=FrameT.trans hF6 (hF.mono (fun _ h=>Or.inl h));clear hF)))
 clear hmk hhd hdd hde
 go_loopw [6,7,8] (fun i _ _ wr=>∃ (j:Nat) (l:List EntryC) (q:RSt) (a:Option Addr) (cap:Nat),i=.int .i64 j∧EntInv s (idxRead s) n1 M nref j l q∧CurAt b s q wr∧wr.heap[X]?=some (.cells #[.int .i64 g,.int .i64 6,.slice a j cap,.int .i64 x1,.int .i64 x2,.int .i64 x3,.int .i64 ni,.int .i64 nt,.bool true,.bool true] 37 (0,0))∧wr.ownsRow w.heap.size 58 3 (.slice a j cap) j (entryCells l)∧FrameT (fun k=>k=b∨k=X) w wr) (fun i _ _ _=>6 - (intOf i).toNat)
 case atStart=>exact ⟨0,[],st7,none,0,rfl,HST.out,H7,hp7,World.ownsRow_nil _ _ _ _,hF7⟩
 case round =>
  obtain ⟨j,l,q,a,cap,rfl,hInv,Hq,hpq,hown,hF⟩:=hrel
  have hsz:=hF.size
  obtain ⟨c0,c1,c2,f1,f2⟩:=Hq.cells
  have hj6:=hInv.le
  by_cases hlt:j<nref
  ·by_cases he:q.e=0
   ·have HN:=Lib.hid (hInv.step (idxRead_ok s) (by omega) he hlt)
    have hgo:=(hInv.go he).1
    have hgo2:j<6:=by omega
    have hz:(q.e:Int)=0:=by omega
    rw [hz] at c2
    have okq:=numM_ok hInv.ok
    have okr:=numM_ok okq
    have K0:=Lib.hid (curNum_any b s hs q hInv.ok wr Hq)
    have K1:=Lib.hid (fun W (hW:CurAt b s (numM s q).2 W)=>curNum_any b s hs _ okq W hW)
    have K2:=Lib.hid (fun W (hW:CurAt b s (numM s (numM s q).2).2 W)=>curText_any b s hs _ okr W hW)
    unfold idxRead at HN
    dsimp only at HN
    clear hInv he hz okq okr hgo
    generalize txtM s (numM s (numM s q).2).2=R5 at *
    generalize numM s (numM s q).2=R4 at *
    generalize numM s q=R3 at *
    obtain ⟨ni2,q3⟩:=R3
    obtain ⟨nt2,q4⟩:=R4
    obtain ⟨xx,q5⟩:=R5
    dsimp only at *
    have HC:=Lib.hid (show entryCells (l ++ [(⟨ni2,nt2,xx⟩:EntryC)])=entryCells l ++ [.int .i64 ni2,.int .i64 nt2,.string xx] from entryCells_snoc _ _)
    have hj0:(0:Int)≤(j:Int):=by omega
    have hXq:=heap_ltP hpq
    have hbq:=Hq.lt
    go_wp2_with (first
     | (go_at_call 35;((with_reducible refine (K0.out).mono ?_);rintro e w21 ⟨rfl,I1,hF⟩;have hpa:=hF.get hpq hXb;have hFa:=FrameT.trans ‹FrameT (fun k=>k=b∨k=X) w wr› (hF.mono (fun _ h=>Or.inl h));have howna:=Stab.ownsRow (B:=0) (T:=fun k=>k=b) (fun k hk=>by have hk:k=b:=hk;omega) _ _ hown hF.moves;clear hF))
     | (go_at_call 35;((with_reducible refine (K1.out _ I1).mono ?_);rintro e w22 ⟨rfl,I2,hF⟩;have hpb:=hF.get hpa hXb;have hFb:=hFa.trans (hF.mono (fun _ h=>Or.inl h));have hownb:=Stab.ownsRow (B:=0) (T:=fun k=>k=b) (fun k hk=>by have hk:k=b:=hk;omega) _ _ howna hF.moves;clear hF)))
    have hx2:w22.cell? ⟨X,2,none⟩=some (.slice a j cap):=cell_of_row _ _ 2 _ _ _ hpb
    have I2d:CurAt b s q4 w22.drew:=I2
    have hpd:w22.drew.heap[X]?=some (.cells #[.int .i64 g,.int .i64 6,.slice a j cap,.int .i64 x1,.int .i64 x2,.int .i64 x3,.int .i64 ni,.int .i64 nt,.bool true,.bool true] 37 (0,0)):=hpb
    have hownd:w22.drew.ownsRow w.heap.size 58 3 (.slice a j cap) j (entryCells l):=hownb
    have hFd:FrameT (fun k=>k=b∨k=X) w w22.drew:=hFb.drew
    go_region_law (first
     | (go_simp;go_at_call 79;((with_reducible refine (K2.out _ I2d).mono ?_);rintro e w5 ⟨rfl,I3,hF⟩;have hpc:=hF.get hpd hXb;have hFc:=hFd.trans (hF.mono (fun _ h=>Or.inl h));have hownc:=Stab.ownsRow (B:=0) (T:=fun k=>k=b) (fun k hk=>by have hk:k=b:=hk;omega) _ _ hownd hF.moves;have hsz5:=hFc.size;have hX5:=heap_ltP hpc;have kx5:w5.cell? ⟨X,2,none⟩=some (.slice a j cap):=cell_of_row _ _ 2 _ _ _ hpc;clear hF))
     | (refine step_append_lies _ rfl _ _ 33 rfl w.heap.size 58 i0 (.agg #[.int .i64 0,.int .i64 0,.string ⟨#[]⟩]) 3 32 Tryz.underlying33 hi hz0 hz1 hz2 rfl (by decide) _ _ _ rfl (hownc.alloc _) ⟨w5.heap.size,0,none⟩ 1 1 [.int .i64 ni2,.int .i64 nt2,.string xx] rfl rfl (news_new _ _ _) (by simp [Value.oneCell']) (by omega) (by unfold maxLen;omega) (by omega) (by simp;omega) _ rfl ?_;intro g' cap' w3 hown3 hgrow _ _;have hA5:=bel_alloc (Below.refl w5.heap.size w5) (.cells #[.int .i64 ni2,.int .i64 nt2,.string xx] 58);have hnb:(Value.slice a j cap).ownBlock≠some b:=(fun e=>by have:=ownBlock_ge hownc e;omega);have hnX:(Value.slice a j cap).ownBlock≠some X:=(fun e=>by have:=ownBlock_ge hownc e;omega);have I4:CurAt b s q5 w3:=(hgrow.block b (by simp;omega) (fun e=>hnb e.symm)).trans (CurAt.below I3 hA5);have hpe:=(hgrow.block X (by simp;omega) (fun e=>hnX e.symm)).trans ((hA5.block _ hX5).trans hpc);have hFe:=(hFc.trans (FrameT.below hA5)).grown hgrow (fun k hk=>ownBlock_ge hownc hk);have kf2:=frozen_of_row _ _ 2 _ _ hpe;have kc2:w3.cell? ⟨X,2,none⟩=some (.slice a j cap):=cell_of_row _ _ 2 _ _ _ hpe;have hpf:=Go.Joins.block_setCell hpe (.slice (some ⟨g',0,none⟩) (j+1) cap') (i:=2);simp only [List.setIfInBounds_toArray,List.set_cons_succ,List.set_cons_zero] at hpf;have I5:=CurAt.st I4 (i:=2) (v:=.slice (some ⟨g',0,none⟩) (j+1) cap') (Ne.symm hXb);have hFf:=hFe.trans ((FrameT.setCell _ X 2 (.slice (some ⟨g',0,none⟩) (j+1) cap')).mono (fun _ h=>Or.inr h));have hownf:=Stab.ownsRow (B:=0) (T:=fun k=>k=X) (fun k hk=>by have hk:k=X:=hk;omega) _ _ hown3 (FrameT.setCell w3 X 2 (.slice (some ⟨g',0,none⟩) (j+1) cap')).moves))
    all_goals
     rw [← HC.out] at hownf
     refine NoPanic.normal ?_
     go_wp2
     go_roundw
     case rel=>exact ⟨j+1,_,q5,_,_,by go_num,HN.out,I5,hpf,hownf,hFf⟩
     case measure=>simp [intOf];omega
   ·have hz:(0:Int)<(q.e:Int):=by omega
    have hlj:=hInv.len
    have hlt':(j:Int)<(nref:Int):=by omega
    have HI:=Lib.hid (show M.2=q from hInv.stop he)
    clear hInv he
    go_wp2
    go_end0
    subst hlj
    obtain ⟨a',cap',e',hrow,hoff⟩:=own_ent hown
    cases e'
    exact ⟨rfl,by rw [HI.out];exact Hq,hF,a,cap,l,by omega,fun h0=>absurd h0 (by rw [HI.out];omega),hpq,hrow,hoff⟩
  ·have hlt':(nref:Int)≤(j:Int):=by omega
   have hlj:=hInv.len
   have HI:=Lib.hid hInv
   clear hInv
   go_wp2
   go_end0
   subst hlj
   obtain ⟨a',cap',e',hrow,hoff⟩:=own_ent hown
   cases e'
   refine ⟨rfl,?_,hF,a,cap,l,by omega,fun h0=>?_,hpq,hrow,hoff⟩
   ·by_cases he:q.e=0
    ·obtain ⟨e1,e2,e3,e4⟩:=HI.out.go he
     have:n1 - l.length=0:=by omega
     rw [e4,this,entM];exact Hq
    ·rw [HI.out.stop he];exact Hq
   ·by_cases he:q.e=0
    ·obtain ⟨e1,e2,e3,e4⟩:=HI.out.go he
     have:n1 - l.length=0:=by omega
     show l=M.1
     rw [e3,this,entM,List.append_nil]
    ·exact absurd h0 (by rw [HI.out.stop he];exact he)

set_option maxRecDepth 100000 in
set_option maxHeartbeats 8000000 in
theorem rfwd10 (b X:Nat) (s:ByteArray) (hs:s.size<4611686018427387904) (st0:RSt) (hok0:st0.ok s) (hmk:(bits .and .i64 ((numM s st0).1:Int) 1 == 1)=true) (hhd:(bits .and .i64 ((numM s st0).1:Int) 2 == 2)=false) (g:Int) (hXb:X≠b) (w:World) (h:CurAt b s st0 w)
  (hp:w.heap[X]?=some (.cells #[.int .i64 g,.int .i64 6,.slice none 0 0,.int .i64 0,.int .i64 0,.int .i64 0,.int .i64 0,.int .i64 0,.bool false,.bool false] 37 (0,0))) :
  Calls Tryz.prog 64 #[.pointer (some ⟨b,0,none⟩),.pointer (some ⟨X,0,none⟩)] w (RFwd b X s g true false (numTo s 3 st0).2 w):=by
 obtain ⟨i0,hi,hz0,hz1,hz2⟩:=info_parts infoEntry
 have hbw:=h.lt
 have hXw:=heap_ltP hp
 have ok1:=numM_ok hok0
 have ok2:=numTo_ok (most:=3) hok0
 have hNN:=numM_lt s st0
 have G1:=Lib.hid (fun W (hW:CurAt b s st0 W)=>curNum_any b s hs st0 hok0 W hW)
 have G2:=Lib.hid (fun W (hW:CurAt b s (numM s st0).2 W)=>curMust_any b s (numM s st0).2 (decide ((numM s st0).1≤3)) W hW)
 rw [must_numTo] at G2
 have hDD:=Lib.hid (show decide (((numM s st0).1:Int)≤3)=decide ((numM s st0).1≤3) from decide_eq_decide.2 (by omega))
 have G3:=Lib.hid (fun W (hW:CurAt b s (numTo s 3 st0).2 W)=>curNum_any b s hs _ ok2 W hW)
 have ok3:=numM_ok ok2
 have G4:=Lib.hid (fun W (hW:CurAt b s (numM s (numTo s 3 st0).2).2 W)=>curNum_any b s hs _ ok3 W hW)
 have ok4:=numM_ok ok3
 have G6:=Lib.hid (fun W (hW:CurAt b s (numM s (numM s (numTo s 3 st0).2).2).2 W)=>curNum_any b s hs _ ok4 W hW)
 have ok6:=numTo_ok (most:=6) ok4
 have G7:=Lib.hid (fun W (hW:CurAt b s (numM s (numM s (numM s (numTo s 3 st0).2).2).2).2 W)=>curMust_any b s (numM s (numM s (numM s (numTo s 3 st0).2).2).2).2 (decide ((numM s (numM s (numM s (numTo s 3 st0).2).2).2).1≤6)) W hW)
 rw [must_numTo] at G7
 have hN6:=numM_lt s (numM s (numM s (numTo s 3 st0).2).2).2
 have hm6:=numTo_le s 6 (numM s (numM s (numTo s 3 st0).2).2).2
 have hD6:=Lib.hid (show decide (((numM s (numM s (numM s (numTo s 3 st0).2).2).2).1:Int)≤6)=decide ((numM s (numM s (numM s (numTo s 3 st0).2).2).2).1≤6) from decide_eq_decide.2 (by omega))
 have HST:=Lib.hid (EntInv.start (idx:=idxRead s) (n1:=(numTo s 6 (numM s (numM s (numTo s 3 st0).2).2).2).1) (nref:=(numM s (numM s (numM s (numTo s 3 st0).2).2).2).1) ok6 (fun he=>(numTo_same he).symm) (fun he i=>by simp [idxRead,numM_err he]))
 have HQ:=Lib.hid (show gM s g true false (numTo s 3 st0).2=(⟨g,6,(entM s (idxRead s) (numTo s 6 (numM s (numM s (numTo s 3 st0).2).2).2).1 0 (numTo s 6 (numM s (numM s (numTo s 3 st0).2).2).2).2).1,0,0,0,(numM s (numTo s 3 st0).2).1,(numM s (numM s (numTo s 3 st0).2).2).1,true,false⟩,(entM s (idxRead s) (numTo s 6 (numM s (numM s (numTo s 3 st0).2).2).2).1 0 (numTo s 6 (numM s (numM s (numTo s 3 st0).2).2).2).2).2) from rfl)
 unfold RFwd
 rw [HQ.out]
 clear HQ ok1 ok2 ok6 ok3 ok4 
 generalize entM s (idxRead s) (numTo s 6 (numM s (numM s (numTo s 3 st0).2).2).2).1 0 (numTo s 6 (numM s (numM s (numTo s 3 st0).2).2).2).2=M at *
 generalize (numTo s 6 (numM s (numM s (numTo s 3 st0).2).2).2).1=n1 at *
 generalize (numTo s 6 (numM s (numM s (numTo s 3 st0).2).2).2).2=st7 at *
 generalize numM s (numM s (numM s (numTo s 3 st0).2).2).2=R6 at *
 generalize numM s (numM s (numTo s 3 st0).2).2=R4 at *
 generalize numM s (numTo s 3 st0).2=R3 at *
 generalize (numTo s 3 st0).2=st2 at *
 generalize numM s st0=R1 at *
 obtain ⟨k,st1⟩:=R1
 obtain ⟨ni,st3⟩:=R3
 obtain ⟨nt,st4⟩:=R4
 obtain ⟨nref,st6⟩:=R6
 dsimp only at *
 generalize decide (k≤3)=bD at *
 generalize decide (nref≤6)=bE at *
 have hdd:decide ((k:Int)≤3)=bD:=hDD.out
 have hde:decide ((nref:Int)≤6)=bE:=hD6.out
 clear hDD hD6
 go_enter Tryz.func64,Tryz.ntmps64
 go_wp2_with (first
  | (go_at_call 35;((with_reducible refine (G1.out _ h).mono ?_);rintro e w1 ⟨rfl,H1,hF⟩;have hp1:=hF.get hp hXb;have hF1:=FrameT.trans (FrameT.refl (fun k=>k=b∨k=X) w) (hF.mono (fun _ h=>Or.inl h));clear hF))
  | (go_at_call 61;((with_reducible refine (G2.out _ H1).mono ?_);rintro e w2 ⟨rfl,H2,hF⟩;have hp2:=hF.get hp1 hXb;have hF2:=FrameT.trans hF1 (hF.mono (fun _ h=>Or.inl h));clear hF;have kf28:=frozen_of_row _ _ 8 _ _ hp2;have kc28:w2.cell? ⟨X,8,none⟩=some (.bool false):=cell_of_row _ _ 8 _ _ _ hp2;have kf29:=frozen_of_row _ _ 9 _ _ hp2;have kc29:w2.cell? ⟨X,9,none⟩=some (.bool false):=cell_of_row _ _ 9 _ _ _ hp2;have hp2a:=(Go.Joins.block_setCell (Go.Joins.block_setCell hp2 (.bool true) (i:=8)) (.bool false) (i:=9));simp only [List.setIfInBounds_toArray,List.set_cons_succ,List.set_cons_zero] at hp2a;have H2a:=(CurAt.st (CurAt.st H2 (i:=8) (v:=.bool true) (Ne.symm hXb)) (i:=9) (v:=.bool false) (Ne.symm hXb));have hF2a:=(FrameT.trans (FrameT.trans hF2 ((FrameT.setCell _ X 8 (.bool true)).mono (fun _ h=>Or.inr h))) ((FrameT.setCell _ X 9 (.bool false)).mono (fun _ h=>Or.inr h)))))
  | (go_at_call 35;((with_reducible refine (G3.out _ H2a).mono ?_);rintro e w3 ⟨rfl,H3,hF⟩;have hp3:=hF.get hp2a hXb;have hF3:=FrameT.trans hF2a (hF.mono (fun _ h=>Or.inl h));clear hF;have kf36:=frozen_of_row _ _ 6 _ _ hp3;have kc36:w3.cell? ⟨X,6,none⟩=some (.int .i64 0):=cell_of_row _ _ 6 _ _ _ hp3;have hp3a:=(Go.Joins.block_setCell hp3 (.int .i64 ni) (i:=6));simp only [List.setIfInBounds_toArray,List.set_cons_succ,List.set_cons_zero] at hp3a;have H3a:=(CurAt.st H3 (i:=6) (v:=.int .i64 ni) (Ne.symm hXb));have hF3a:=(FrameT.trans hF3 ((FrameT.setCell _ X 6 (.int .i64 ni)).mono (fun _ h=>Or.inr h)))))
  | (go_at_call 35;((with_reducible refine (G4.out _ H3a).mono ?_);rintro e w4 ⟨rfl,H4,hF⟩;have hp4:=hF.get hp3a hXb;have hF4:=FrameT.trans hF3a (hF.mono (fun _ h=>Or.inl h));clear hF;have kf47:=frozen_of_row _ _ 7 _ _ hp4;have kc47:w4.cell? ⟨X,7,none⟩=some (.int .i64 0):=cell_of_row _ _ 7 _ _ _ hp4;have kq9:w4.cell? ⟨X,9,none⟩=some (.bool false):=cell_of_row _ _ 9 _ _ _ hp4;have hp4a:=(Go.Joins.block_setCell hp4 (.int .i64 nt) (i:=7));simp only [List.setIfInBounds_toArray,List.set_cons_succ,List.set_cons_zero] at hp4a;have H4a:=(CurAt.st H4 (i:=7) (v:=.int .i64 nt) (Ne.symm hXb));have hF4a:=(FrameT.trans hF4 ((FrameT.setCell _ X 7 (.int .i64 nt)).mono (fun _ h=>Or.inr h)))))
  | (go_at_call 35;((with_reducible refine (G6.out _ H4a).mono ?_);rintro e w5 ⟨rfl,H5,hF⟩;have hp5:=hF.get hp4a hXb;have hF5:=FrameT.trans hF4a (hF.mono (fun _ h=>Or.inl h));clear hF))
  | (go_at_call 61;((with_reducible refine (G7.out _ H5).mono ?_);rintro e w6 ⟨rfl,H6,hF⟩;have hp6:=hF.get hp5 hXb;have hF6:=FrameT.trans hF5 (hF.mono (fun _ h=>Or.inl h));clear hF)))
 clear hmk hhd hdd hde
 go_loopw [6,7,8] (fun i _ _ wr=>∃ (j:Nat) (l:List EntryC) (q:RSt) (a:Option Addr) (cap:Nat),i=.int .i64 j∧EntInv s (idxRead s) n1 M nref j l q∧CurAt b s q wr∧wr.heap[X]?=some (.cells #[.int .i64 g,.int .i64 6,.slice a j cap,.int .i64 0,.int .i64 0,.int .i64 0,.int .i64 ni,.int .i64 nt,.bool true,.bool false] 37 (0,0))∧wr.ownsRow w.heap.size 58 3 (.slice a j cap) j (entryCells l)∧FrameT (fun k=>k=b∨k=X) w wr) (fun i _ _ _=>6 - (intOf i).toNat)
 case atStart=>exact ⟨0,[],st7,none,0,rfl,HST.out,H6,hp6,World.ownsRow_nil _ _ _ _,hF6⟩
 case round =>
  obtain ⟨j,l,q,a,cap,rfl,hInv,Hq,hpq,hown,hF⟩:=hrel
  have hsz:=hF.size
  obtain ⟨c0,c1,c2,f1,f2⟩:=Hq.cells
  have hj6:=hInv.le
  by_cases hlt:j<nref
  ·by_cases he:q.e=0
   ·have HN:=Lib.hid (hInv.step (idxRead_ok s) (by omega) he hlt)
    have hgo:=(hInv.go he).1
    have hgo2:j<6:=by omega
    have hz:(q.e:Int)=0:=by omega
    rw [hz] at c2
    have okq:=numM_ok hInv.ok
    have okr:=numM_ok okq
    have K0:=Lib.hid (curNum_any b s hs q hInv.ok wr Hq)
    have K1:=Lib.hid (fun W (hW:CurAt b s (numM s q).2 W)=>curNum_any b s hs _ okq W hW)
    have K2:=Lib.hid (fun W (hW:CurAt b s (numM s (numM s q).2).2 W)=>curText_any b s hs _ okr W hW)
    unfold idxRead at HN
    dsimp only at HN
    clear hInv he hz okq okr hgo
    generalize txtM s (numM s (numM s q).2).2=R5 at *
    generalize numM s (numM s q).2=R4 at *
    generalize numM s q=R3 at *
    obtain ⟨ni2,q3⟩:=R3
    obtain ⟨nt2,q4⟩:=R4
    obtain ⟨xx,q5⟩:=R5
    dsimp only at *
    have HC:=Lib.hid (show entryCells (l ++ [(⟨ni2,nt2,xx⟩:EntryC)])=entryCells l ++ [.int .i64 ni2,.int .i64 nt2,.string xx] from entryCells_snoc _ _)
    have hj0:(0:Int)≤(j:Int):=by omega
    have hXq:=heap_ltP hpq
    have hbq:=Hq.lt
    go_wp2_with (first
     | (go_at_call 35;((with_reducible refine (K0.out).mono ?_);rintro e w21 ⟨rfl,I1,hF⟩;have hpa:=hF.get hpq hXb;have hFa:=FrameT.trans ‹FrameT (fun k=>k=b∨k=X) w wr› (hF.mono (fun _ h=>Or.inl h));have howna:=Stab.ownsRow (B:=0) (T:=fun k=>k=b) (fun k hk=>by have hk:k=b:=hk;omega) _ _ hown hF.moves;clear hF))
     | (go_at_call 35;((with_reducible refine (K1.out _ I1).mono ?_);rintro e w22 ⟨rfl,I2,hF⟩;have hpb:=hF.get hpa hXb;have hFb:=hFa.trans (hF.mono (fun _ h=>Or.inl h));have hownb:=Stab.ownsRow (B:=0) (T:=fun k=>k=b) (fun k hk=>by have hk:k=b:=hk;omega) _ _ howna hF.moves;clear hF)))
    have hx2:w22.cell? ⟨X,2,none⟩=some (.slice a j cap):=cell_of_row _ _ 2 _ _ _ hpb
    have I2d:CurAt b s q4 w22.drew:=I2
    have hpd:w22.drew.heap[X]?=some (.cells #[.int .i64 g,.int .i64 6,.slice a j cap,.int .i64 0,.int .i64 0,.int .i64 0,.int .i64 ni,.int .i64 nt,.bool true,.bool false] 37 (0,0)):=hpb
    have hownd:w22.drew.ownsRow w.heap.size 58 3 (.slice a j cap) j (entryCells l):=hownb
    have hFd:FrameT (fun k=>k=b∨k=X) w w22.drew:=hFb.drew
    go_region_law (first
     | (go_simp;go_at_call 79;((with_reducible refine (K2.out _ I2d).mono ?_);rintro e w5 ⟨rfl,I3,hF⟩;have hpc:=hF.get hpd hXb;have hFc:=hFd.trans (hF.mono (fun _ h=>Or.inl h));have hownc:=Stab.ownsRow (B:=0) (T:=fun k=>k=b) (fun k hk=>by have hk:k=b:=hk;omega) _ _ hownd hF.moves;have hsz5:=hFc.size;have hX5:=heap_ltP hpc;have kx5:w5.cell? ⟨X,2,none⟩=some (.slice a j cap):=cell_of_row _ _ 2 _ _ _ hpc;clear hF))
     | (refine step_append_lies _ rfl _ _ 33 rfl w.heap.size 58 i0 (.agg #[.int .i64 0,.int .i64 0,.string ⟨#[]⟩]) 3 32 Tryz.underlying33 hi hz0 hz1 hz2 rfl (by decide) _ _ _ rfl (hownc.alloc _) ⟨w5.heap.size,0,none⟩ 1 1 [.int .i64 ni2,.int .i64 nt2,.string xx] rfl rfl (news_new _ _ _) (by simp [Value.oneCell']) (by omega) (by unfold maxLen;omega) (by omega) (by simp;omega) _ rfl ?_;intro g' cap' w3 hown3 hgrow _ _;have hA5:=bel_alloc (Below.refl w5.heap.size w5) (.cells #[.int .i64 ni2,.int .i64 nt2,.string xx] 58);have hnb:(Value.slice a j cap).ownBlock≠some b:=(fun e=>by have:=ownBlock_ge hownc e;omega);have hnX:(Value.slice a j cap).ownBlock≠some X:=(fun e=>by have:=ownBlock_ge hownc e;omega);have I4:CurAt b s q5 w3:=(hgrow.block b (by simp;omega) (fun e=>hnb e.symm)).trans (CurAt.below I3 hA5);have hpe:=(hgrow.block X (by simp;omega) (fun e=>hnX e.symm)).trans ((hA5.block _ hX5).trans hpc);have hFe:=(hFc.trans (FrameT.below hA5)).grown hgrow (fun k hk=>ownBlock_ge hownc hk);have kf2:=frozen_of_row _ _ 2 _ _ hpe;have kc2:w3.cell? ⟨X,2,none⟩=some (.slice a j cap):=cell_of_row _ _ 2 _ _ _ hpe;have hpf:=Go.Joins.block_setCell hpe (.slice (some ⟨g',0,none⟩) (j+1) cap') (i:=2);simp only [List.setIfInBounds_toArray,List.set_cons_succ,List.set_cons_zero] at hpf;have I5:=CurAt.st I4 (i:=2) (v:=.slice (some ⟨g',0,none⟩) (j+1) cap') (Ne.symm hXb);have hFf:=hFe.trans ((FrameT.setCell _ X 2 (.slice (some ⟨g',0,none⟩) (j+1) cap')).mono (fun _ h=>Or.inr h));have hownf:=Stab.ownsRow (B:=0) (T:=fun k=>k=X) (fun k hk=>by have hk:k=X:=hk;omega) _ _ hown3 (FrameT.setCell w3 X 2 (.slice (some ⟨g',0,none⟩) (j+1) cap')).moves))
    all_goals
     rw [← HC.out] at hownf
     refine NoPanic.normal ?_
     go_wp2
     go_roundw
     case rel=>exact ⟨j+1,_,q5,_,_,by go_num,HN.out,I5,hpf,hownf,hFf⟩
     case measure=>simp [intOf];omega
   ·have hz:(0:Int)<(q.e:Int):=by omega
    have hlj:=hInv.len
    have hlt':(j:Int)<(nref:Int):=by omega
    have HI:=Lib.hid (show M.2=q from hInv.stop he)
    clear hInv he
    go_wp2
    go_end0
    subst hlj
    obtain ⟨a',cap',e',hrow,hoff⟩:=own_ent hown
    cases e'
    exact ⟨rfl,by rw [HI.out];exact Hq,hF,a,cap,l,by omega,fun h0=>absurd h0 (by rw [HI.out];omega),hpq,hrow,hoff⟩
  ·have hlt':(nref:Int)≤(j:Int):=by omega
   have hlj:=hInv.len
   have HI:=Lib.hid hInv
   clear hInv
   go_wp2
   go_end0
   subst hlj
   obtain ⟨a',cap',e',hrow,hoff⟩:=own_ent hown
   cases e'
   refine ⟨rfl,?_,hF,a,cap,l,by omega,fun h0=>?_,hpq,hrow,hoff⟩
   ·by_cases he:q.e=0
    ·obtain ⟨e1,e2,e3,e4⟩:=HI.out.go he
     have:n1 - l.length=0:=by omega
     rw [e4,this,entM];exact Hq
    ·rw [HI.out.stop he];exact Hq
   ·by_cases he:q.e=0
    ·obtain ⟨e1,e2,e3,e4⟩:=HI.out.go he
     have:n1 - l.length=0:=by omega
     show l=M.1
     rw [e3,this,entM,List.append_nil]
    ·exact absurd h0 (by rw [HI.out.stop he];exact he)

set_option maxRecDepth 100000 in
set_option maxHeartbeats 8000000 in
theorem rfwd01 (b X:Nat) (s:ByteArray) (hs:s.size<4611686018427387904) (st0:RSt) (hok0:st0.ok s) (hmk:(bits .and .i64 ((numM s st0).1:Int) 1 == 1)=false) (hhd:(bits .and .i64 ((numM s st0).1:Int) 2 == 2)=true) (g:Int) (hXb:X≠b) (w:World) (h:CurAt b s st0 w)
  (hp:w.heap[X]?=some (.cells #[.int .i64 g,.int .i64 6,.slice none 0 0,.int .i64 0,.int .i64 0,.int .i64 0,.int .i64 0,.int .i64 0,.bool false,.bool false] 37 (0,0))) :
  Calls Tryz.prog 64 #[.pointer (some ⟨b,0,none⟩),.pointer (some ⟨X,0,none⟩)] w (RFwd b X s g false true (numTo s 3 st0).2 w):=by
 obtain ⟨i0,hi,hz0,hz1,hz2⟩:=info_parts infoEntry
 have hbw:=h.lt
 have hXw:=heap_ltP hp
 have ok1:=numM_ok hok0
 have ok2:=numTo_ok (most:=3) hok0
 have hNN:=numM_lt s st0
 have G1:=Lib.hid (fun W (hW:CurAt b s st0 W)=>curNum_any b s hs st0 hok0 W hW)
 have G2:=Lib.hid (fun W (hW:CurAt b s (numM s st0).2 W)=>curMust_any b s (numM s st0).2 (decide ((numM s st0).1≤3)) W hW)
 rw [must_numTo] at G2
 have hDD:=Lib.hid (show decide (((numM s st0).1:Int)≤3)=decide ((numM s st0).1≤3) from decide_eq_decide.2 (by omega))
 have G5:=Lib.hid (fun W (hW:CurAt b s (numTo s 3 st0).2 W)=>curHard_any b s hs _ ok2 W hW)
 have ok5:=hardM_ok ok2
 have G6:=Lib.hid (fun W (hW:CurAt b s (hardM s (numTo s 3 st0).2).2 W)=>curNum_any b s hs _ ok5 W hW)
 have ok6:=numTo_ok (most:=6) ok5
 have G7:=Lib.hid (fun W (hW:CurAt b s (numM s (hardM s (numTo s 3 st0).2).2).2 W)=>curMust_any b s (numM s (hardM s (numTo s 3 st0).2).2).2 (decide ((numM s (hardM s (numTo s 3 st0).2).2).1≤6)) W hW)
 rw [must_numTo] at G7
 have hN6:=numM_lt s (hardM s (numTo s 3 st0).2).2
 have hm6:=numTo_le s 6 (hardM s (numTo s 3 st0).2).2
 have hD6:=Lib.hid (show decide (((numM s (hardM s (numTo s 3 st0).2).2).1:Int)≤6)=decide ((numM s (hardM s (numTo s 3 st0).2).2).1≤6) from decide_eq_decide.2 (by omega))
 have HST:=Lib.hid (EntInv.start (idx:=idxRead s) (n1:=(numTo s 6 (hardM s (numTo s 3 st0).2).2).1) (nref:=(numM s (hardM s (numTo s 3 st0).2).2).1) ok6 (fun he=>(numTo_same he).symm) (fun he i=>by simp [idxRead,numM_err he]))
 have HQ:=Lib.hid (show gM s g false true (numTo s 3 st0).2=(⟨g,6,(entM s (idxRead s) (numTo s 6 (hardM s (numTo s 3 st0).2).2).1 0 (numTo s 6 (hardM s (numTo s 3 st0).2).2).2).1,(hardM s (numTo s 3 st0).2).1.1,(hardM s (numTo s 3 st0).2).1.2.1,(hardM s (numTo s 3 st0).2).1.2.2,0,0,false,true⟩,(entM s (idxRead s) (numTo s 6 (hardM s (numTo s 3 st0).2).2).1 0 (numTo s 6 (hardM s (numTo s 3 st0).2).2).2).2) from rfl)
 unfold RFwd
 rw [HQ.out]
 clear HQ ok1 ok2 ok6 ok5
 generalize entM s (idxRead s) (numTo s 6 (hardM s (numTo s 3 st0).2).2).1 0 (numTo s 6 (hardM s (numTo s 3 st0).2).2).2=M at *
 generalize (numTo s 6 (hardM s (numTo s 3 st0).2).2).1=n1 at *
 generalize (numTo s 6 (hardM s (numTo s 3 st0).2).2).2=st7 at *
 generalize numM s (hardM s (numTo s 3 st0).2).2=R6 at *
 generalize hardM s (numTo s 3 st0).2=R5 at *
 generalize (numTo s 3 st0).2=st2 at *
 generalize numM s st0=R1 at *
 obtain ⟨k,st1⟩:=R1
 obtain ⟨⟨x1,x2,x3⟩,st5⟩:=R5
 obtain ⟨nref,st6⟩:=R6
 dsimp only at *
 generalize decide (k≤3)=bD at *
 generalize decide (nref≤6)=bE at *
 have hdd:decide ((k:Int)≤3)=bD:=hDD.out
 have hde:decide ((nref:Int)≤6)=bE:=hD6.out
 clear hDD hD6
 go_enter Tryz.func64,Tryz.ntmps64
 go_wp2_with (first
  | (go_at_call 35;((with_reducible refine (G1.out _ h).mono ?_);rintro e w1 ⟨rfl,H1,hF⟩;have hp1:=hF.get hp hXb;have hF1:=FrameT.trans (FrameT.refl (fun k=>k=b∨k=X) w) (hF.mono (fun _ h=>Or.inl h));clear hF))
  | (go_at_call 61;((with_reducible refine (G2.out _ H1).mono ?_);rintro e w2 ⟨rfl,H2,hF⟩;have hp2:=hF.get hp1 hXb;have hF2:=FrameT.trans hF1 (hF.mono (fun _ h=>Or.inl h));clear hF;have kf28:=frozen_of_row _ _ 8 _ _ hp2;have kc28:w2.cell? ⟨X,8,none⟩=some (.bool false):=cell_of_row _ _ 8 _ _ _ hp2;have kf29:=frozen_of_row _ _ 9 _ _ hp2;have kc29:w2.cell? ⟨X,9,none⟩=some (.bool false):=cell_of_row _ _ 9 _ _ _ hp2;have hp2a:=(Go.Joins.block_setCell (Go.Joins.block_setCell hp2 (.bool false) (i:=8)) (.bool true) (i:=9));simp only [List.setIfInBounds_toArray,List.set_cons_succ,List.set_cons_zero] at hp2a;have H2a:=(CurAt.st (CurAt.st H2 (i:=8) (v:=.bool false) (Ne.symm hXb)) (i:=9) (v:=.bool true) (Ne.symm hXb));have hF2a:=(FrameT.trans (FrameT.trans hF2 ((FrameT.setCell _ X 8 (.bool false)).mono (fun _ h=>Or.inr h))) ((FrameT.setCell _ X 9 (.bool true)).mono (fun _ h=>Or.inr h)))))
  | (go_at_call 63;((with_reducible refine (G5.out _ H2a).mono ?_);rintro e w3 ⟨rfl,H3,hF⟩;have hp3:=hF.get hp2a hXb;have hF3:=FrameT.trans hF2a (hF.mono (fun _ h=>Or.inl h));clear hF;have kf33:=frozen_of_row _ _ 3 _ _ hp3;have kc33:w3.cell? ⟨X,3,none⟩=some (.int .i64 0):=cell_of_row _ _ 3 _ _ _ hp3;have kf34:=frozen_of_row _ _ 4 _ _ hp3;have kc34:w3.cell? ⟨X,4,none⟩=some (.int .i64 0):=cell_of_row _ _ 4 _ _ _ hp3;have kf35:=frozen_of_row _ _ 5 _ _ hp3;have kc35:w3.cell? ⟨X,5,none⟩=some (.int .i64 0):=cell_of_row _ _ 5 _ _ _ hp3;have hp3a:=(Go.Joins.block_setCell (Go.Joins.block_setCell (Go.Joins.block_setCell hp3 (.int .i64 x1) (i:=3)) (.int .i64 x2) (i:=4)) (.int .i64 x3) (i:=5));simp only [List.setIfInBounds_toArray,List.set_cons_succ,List.set_cons_zero] at hp3a;have H3a:=(CurAt.st (CurAt.st (CurAt.st H3 (i:=3) (v:=.int .i64 x1) (Ne.symm hXb)) (i:=4) (v:=.int .i64 x2) (Ne.symm hXb)) (i:=5) (v:=.int .i64 x3) (Ne.symm hXb));have hF3a:=(FrameT.trans (FrameT.trans (FrameT.trans hF3 ((FrameT.setCell _ X 3 (.int .i64 x1)).mono (fun _ h=>Or.inr h))) ((FrameT.setCell _ X 4 (.int .i64 x2)).mono (fun _ h=>Or.inr h))) ((FrameT.setCell _ X 5 (.int .i64 x3)).mono (fun _ h=>Or.inr h)))))
  | (go_at_call 35;((with_reducible refine (G6.out _ H3a).mono ?_);rintro e w4 ⟨rfl,H4,hF⟩;have hp4:=hF.get hp3a hXb;have hF4:=FrameT.trans hF3a (hF.mono (fun _ h=>Or.inl h));clear hF))
  | (go_at_call 61;((with_reducible refine (G7.out _ H4).mono ?_);rintro e w5 ⟨rfl,H5,hF⟩;have hp5:=hF.get hp4 hXb;have hF5:=FrameT.trans hF4 (hF.mono (fun _ h=>Or.inl h));clear hF)))
 clear hmk hhd hdd hde
 go_loopw [6,7,8] (fun i _ _ wr=>∃ (j:Nat) (l:List EntryC) (q:RSt) (a:Option Addr) (cap:Nat),i=.int .i64 j∧EntInv s (idxRead s) n1 M nref j l q∧CurAt b s q wr∧wr.heap[X]?=some (.cells #[.int .i64 g,.int .i64 6,.slice a j cap,.int .i64 x1,.int .i64 x2,.int .i64 x3,.int .i64 0,.int .i64 0,.bool false,.bool true] 37 (0,0))∧wr.ownsRow w.heap.size 58 3 (.slice a j cap) j (entryCells l)∧FrameT (fun k=>k=b∨k=X) w wr) (fun i _ _ _=>6 - (intOf i).toNat)
 case atStart=>exact ⟨0,[],st7,none,0,rfl,HST.out,H5,hp5,World.ownsRow_nil _ _ _ _,hF5⟩
 case round =>
  obtain ⟨j,l,q,a,cap,rfl,hInv,Hq,hpq,hown,hF⟩:=hrel
  have hsz:=hF.size
  obtain ⟨c0,c1,c2,f1,f2⟩:=Hq.cells
  have hj6:=hInv.le
  by_cases hlt:j<nref
  ·by_cases he:q.e=0
   ·have HN:=Lib.hid (hInv.step (idxRead_ok s) (by omega) he hlt)
    have hgo:=(hInv.go he).1
    have hgo2:j<6:=by omega
    have hz:(q.e:Int)=0:=by omega
    rw [hz] at c2
    have okq:=numM_ok hInv.ok
    have okr:=numM_ok okq
    have K0:=Lib.hid (curNum_any b s hs q hInv.ok wr Hq)
    have K1:=Lib.hid (fun W (hW:CurAt b s (numM s q).2 W)=>curNum_any b s hs _ okq W hW)
    have K2:=Lib.hid (fun W (hW:CurAt b s (numM s (numM s q).2).2 W)=>curText_any b s hs _ okr W hW)
    unfold idxRead at HN
    dsimp only at HN
    clear hInv he hz okq okr hgo
    generalize txtM s (numM s (numM s q).2).2=R5 at *
    generalize numM s (numM s q).2=R4 at *
    generalize numM s q=R3 at *
    obtain ⟨ni2,q3⟩:=R3
    obtain ⟨nt2,q4⟩:=R4
    obtain ⟨xx,q5⟩:=R5
    dsimp only at *
    have HC:=Lib.hid (show entryCells (l ++ [(⟨ni2,nt2,xx⟩:EntryC)])=entryCells l ++ [.int .i64 ni2,.int .i64 nt2,.string xx] from entryCells_snoc _ _)
    have hj0:(0:Int)≤(j:Int):=by omega
    have hXq:=heap_ltP hpq
    have hbq:=Hq.lt
    go_wp2_with (first
     | (go_at_call 35;((with_reducible refine (K0.out).mono ?_);rintro e w21 ⟨rfl,I1,hF⟩;have hpa:=hF.get hpq hXb;have hFa:=FrameT.trans ‹FrameT (fun k=>k=b∨k=X) w wr› (hF.mono (fun _ h=>Or.inl h));have howna:=Stab.ownsRow (B:=0) (T:=fun k=>k=b) (fun k hk=>by have hk:k=b:=hk;omega) _ _ hown hF.moves;clear hF))
     | (go_at_call 35;((with_reducible refine (K1.out _ I1).mono ?_);rintro e w22 ⟨rfl,I2,hF⟩;have hpb:=hF.get hpa hXb;have hFb:=hFa.trans (hF.mono (fun _ h=>Or.inl h));have hownb:=Stab.ownsRow (B:=0) (T:=fun k=>k=b) (fun k hk=>by have hk:k=b:=hk;omega) _ _ howna hF.moves;clear hF)))
    have hx2:w22.cell? ⟨X,2,none⟩=some (.slice a j cap):=cell_of_row _ _ 2 _ _ _ hpb
    have I2d:CurAt b s q4 w22.drew:=I2
    have hpd:w22.drew.heap[X]?=some (.cells #[.int .i64 g,.int .i64 6,.slice a j cap,.int .i64 x1,.int .i64 x2,.int .i64 x3,.int .i64 0,.int .i64 0,.bool false,.bool true] 37 (0,0)):=hpb
    have hownd:w22.drew.ownsRow w.heap.size 58 3 (.slice a j cap) j (entryCells l):=hownb
    have hFd:FrameT (fun k=>k=b∨k=X) w w22.drew:=hFb.drew
    go_region_law (first
     | (go_simp;go_at_call 79;((with_reducible refine (K2.out _ I2d).mono ?_);rintro e w5 ⟨rfl,I3,hF⟩;have hpc:=hF.get hpd hXb;have hFc:=hFd.trans (hF.mono (fun _ h=>Or.inl h));have hownc:=Stab.ownsRow (B:=0) (T:=fun k=>k=b) (fun k hk=>by have hk:k=b:=hk;omega) _ _ hownd hF.moves;have hsz5:=hFc.size;have hX5:=heap_ltP hpc;have kx5:w5.cell? ⟨X,2,none⟩=some (.slice a j cap):=cell_of_row _ _ 2 _ _ _ hpc;clear hF))
     | (refine step_append_lies _ rfl _ _ 33 rfl w.heap.size 58 i0 (.agg #[.int .i64 0,.int .i64 0,.string ⟨#[]⟩]) 3 32 Tryz.underlying33 hi hz0 hz1 hz2 rfl (by decide) _ _ _ rfl (hownc.alloc _) ⟨w5.heap.size,0,none⟩ 1 1 [.int .i64 ni2,.int .i64 nt2,.string xx] rfl rfl (news_new _ _ _) (by simp [Value.oneCell']) (by omega) (by unfold maxLen;omega) (by omega) (by simp;omega) _ rfl ?_;intro g' cap' w3 hown3 hgrow _ _;have hA5:=bel_alloc (Below.refl w5.heap.size w5) (.cells #[.int .i64 ni2,.int .i64 nt2,.string xx] 58);have hnb:(Value.slice a j cap).ownBlock≠some b:=(fun e=>by have:=ownBlock_ge hownc e;omega);have hnX:(Value.slice a j cap).ownBlock≠some X:=(fun e=>by have:=ownBlock_ge hownc e;omega);have I4:CurAt b s q5 w3:=(hgrow.block b (by simp;omega) (fun e=>hnb e.symm)).trans (CurAt.below I3 hA5);have hpe:=(hgrow.block X (by simp;omega) (fun e=>hnX e.symm)).trans ((hA5.block _ hX5).trans hpc);have hFe:=(hFc.trans (FrameT.below hA5)).grown hgrow (fun k hk=>ownBlock_ge hownc hk);have kf2:=frozen_of_row _ _ 2 _ _ hpe;have kc2:w3.cell? ⟨X,2,none⟩=some (.slice a j cap):=cell_of_row _ _ 2 _ _ _ hpe;have hpf:=Go.Joins.block_setCell hpe (.slice (some ⟨g',0,none⟩) (j+1) cap') (i:=2);simp only [List.setIfInBounds_toArray,List.set_cons_succ,List.set_cons_zero] at hpf;have I5:=CurAt.st I4 (i:=2) (v:=.slice (some ⟨g',0,none⟩) (j+1) cap') (Ne.symm hXb);have hFf:=hFe.trans ((FrameT.setCell _ X 2 (.slice (some ⟨g',0,none⟩) (j+1) cap')).mono (fun _ h=>Or.inr h));have hownf:=Stab.ownsRow (B:=0) (T:=fun k=>k=X) (fun k hk=>by have hk:k=X:=hk;omega) _ _ hown3 (FrameT.setCell w3 X 2 (.slice (some ⟨g',0,none⟩) (j+1) cap')).moves))
    all_goals
     rw [← HC.out] at hownf
     refine NoPanic.normal ?_
     go_wp2
     go_roundw
     case rel=>exact ⟨j+1,_,q5,_,_,by go_num,HN.out,I5,hpf,hownf,hFf⟩
     case measure=>simp [intOf];omega
   ·have hz:(0:Int)<(q.e:Int):=by omega
    have hlj:=hInv.len
    have hlt':(j:Int)<(nref:Int):=by omega
    have HI:=Lib.hid (show M.2=q from hInv.stop he)
    clear hInv he
    go_wp2
    go_end0
    subst hlj
    obtain ⟨a',cap',e',hrow,hoff⟩:=own_ent hown
    cases e'
    exact ⟨rfl,by rw [HI.out];exact Hq,hF,a,cap,l,by omega,fun h0=>absurd h0 (by rw [HI.out];omega),hpq,hrow,hoff⟩
  ·have hlt':(nref:Int)≤(j:Int):=by omega
   have hlj:=hInv.len
   have HI:=Lib.hid hInv
   clear hInv
   go_wp2
   go_end0
   subst hlj
   obtain ⟨a',cap',e',hrow,hoff⟩:=own_ent hown
   cases e'
   refine ⟨rfl,?_,hF,a,cap,l,by omega,fun h0=>?_,hpq,hrow,hoff⟩
   ·by_cases he:q.e=0
    ·obtain ⟨e1,e2,e3,e4⟩:=HI.out.go he
     have:n1 - l.length=0:=by omega
     rw [e4,this,entM];exact Hq
    ·rw [HI.out.stop he];exact Hq
   ·by_cases he:q.e=0
    ·obtain ⟨e1,e2,e3,e4⟩:=HI.out.go he
     have:n1 - l.length=0:=by omega
     show l=M.1
     rw [e3,this,entM,List.append_nil]
    ·exact absurd h0 (by rw [HI.out.stop he];exact he)

set_option maxRecDepth 100000 in
set_option maxHeartbeats 8000000 in
theorem rfwd00 (b X:Nat) (s:ByteArray) (hs:s.size<4611686018427387904) (st0:RSt) (hok0:st0.ok s) (hmk:(bits .and .i64 ((numM s st0).1:Int) 1 == 1)=false) (hhd:(bits .and .i64 ((numM s st0).1:Int) 2 == 2)=false) (g:Int) (hXb:X≠b) (w:World) (h:CurAt b s st0 w)
  (hp:w.heap[X]?=some (.cells #[.int .i64 g,.int .i64 6,.slice none 0 0,.int .i64 0,.int .i64 0,.int .i64 0,.int .i64 0,.int .i64 0,.bool false,.bool false] 37 (0,0))) :
  Calls Tryz.prog 64 #[.pointer (some ⟨b,0,none⟩),.pointer (some ⟨X,0,none⟩)] w (RFwd b X s g false false (numTo s 3 st0).2 w):=by
 obtain ⟨i0,hi,hz0,hz1,hz2⟩:=info_parts infoEntry
 have hbw:=h.lt
 have hXw:=heap_ltP hp
 have ok1:=numM_ok hok0
 have ok2:=numTo_ok (most:=3) hok0
 have hNN:=numM_lt s st0
 have G1:=Lib.hid (fun W (hW:CurAt b s st0 W)=>curNum_any b s hs st0 hok0 W hW)
 have G2:=Lib.hid (fun W (hW:CurAt b s (numM s st0).2 W)=>curMust_any b s (numM s st0).2 (decide ((numM s st0).1≤3)) W hW)
 rw [must_numTo] at G2
 have hDD:=Lib.hid (show decide (((numM s st0).1:Int)≤3)=decide ((numM s st0).1≤3) from decide_eq_decide.2 (by omega))
 have G6:=Lib.hid (fun W (hW:CurAt b s (numTo s 3 st0).2 W)=>curNum_any b s hs _ ok2 W hW)
 have ok6:=numTo_ok (most:=6) ok2
 have G7:=Lib.hid (fun W (hW:CurAt b s (numM s (numTo s 3 st0).2).2 W)=>curMust_any b s (numM s (numTo s 3 st0).2).2 (decide ((numM s (numTo s 3 st0).2).1≤6)) W hW)
 rw [must_numTo] at G7
 have hN6:=numM_lt s (numTo s 3 st0).2
 have hm6:=numTo_le s 6 (numTo s 3 st0).2
 have hD6:=Lib.hid (show decide (((numM s (numTo s 3 st0).2).1:Int)≤6)=decide ((numM s (numTo s 3 st0).2).1≤6) from decide_eq_decide.2 (by omega))
 have HST:=Lib.hid (EntInv.start (idx:=idxRead s) (n1:=(numTo s 6 (numTo s 3 st0).2).1) (nref:=(numM s (numTo s 3 st0).2).1) ok6 (fun he=>(numTo_same he).symm) (fun he i=>by simp [idxRead,numM_err he]))
 have HQ:=Lib.hid (show gM s g false false (numTo s 3 st0).2=(⟨g,6,(entM s (idxRead s) (numTo s 6 (numTo s 3 st0).2).1 0 (numTo s 6 (numTo s 3 st0).2).2).1,0,0,0,0,0,false,false⟩,(entM s (idxRead s) (numTo s 6 (numTo s 3 st0).2).1 0 (numTo s 6 (numTo s 3 st0).2).2).2) from rfl)
 unfold RFwd
 rw [HQ.out]
 clear HQ ok1 ok2 ok6 
 generalize entM s (idxRead s) (numTo s 6 (numTo s 3 st0).2).1 0 (numTo s 6 (numTo s 3 st0).2).2=M at *
 generalize (numTo s 6 (numTo s 3 st0).2).1=n1 at *
 generalize (numTo s 6 (numTo s 3 st0).2).2=st7 at *
 generalize numM s (numTo s 3 st0).2=R6 at *
 generalize (numTo s 3 st0).2=st2 at *
 generalize numM s st0=R1 at *
 obtain ⟨k,st1⟩:=R1
 obtain ⟨nref,st6⟩:=R6
 dsimp only at *
 generalize decide (k≤3)=bD at *
 generalize decide (nref≤6)=bE at *
 have hdd:decide ((k:Int)≤3)=bD:=hDD.out
 have hde:decide ((nref:Int)≤6)=bE:=hD6.out
 clear hDD hD6
 go_enter Tryz.func64,Tryz.ntmps64
 go_wp2_with (first
  | (go_at_call 35;((with_reducible refine (G1.out _ h).mono ?_);rintro e w1 ⟨rfl,H1,hF⟩;have hp1:=hF.get hp hXb;have hF1:=FrameT.trans (FrameT.refl (fun k=>k=b∨k=X) w) (hF.mono (fun _ h=>Or.inl h));clear hF))
  | (go_at_call 61;((with_reducible refine (G2.out _ H1).mono ?_);rintro e w2 ⟨rfl,H2,hF⟩;have hp2:=hF.get hp1 hXb;have hF2:=FrameT.trans hF1 (hF.mono (fun _ h=>Or.inl h));clear hF;have kf28:=frozen_of_row _ _ 8 _ _ hp2;have kc28:w2.cell? ⟨X,8,none⟩=some (.bool false):=cell_of_row _ _ 8 _ _ _ hp2;have kf29:=frozen_of_row _ _ 9 _ _ hp2;have kc29:w2.cell? ⟨X,9,none⟩=some (.bool false):=cell_of_row _ _ 9 _ _ _ hp2;have hp2a:=(Go.Joins.block_setCell (Go.Joins.block_setCell hp2 (.bool false) (i:=8)) (.bool false) (i:=9));simp only [List.setIfInBounds_toArray,List.set_cons_succ,List.set_cons_zero] at hp2a;have H2a:=(CurAt.st (CurAt.st H2 (i:=8) (v:=.bool false) (Ne.symm hXb)) (i:=9) (v:=.bool false) (Ne.symm hXb));have hF2a:=(FrameT.trans (FrameT.trans hF2 ((FrameT.setCell _ X 8 (.bool false)).mono (fun _ h=>Or.inr h))) ((FrameT.setCell _ X 9 (.bool false)).mono (fun _ h=>Or.inr h)))))
  | (go_at_call 35;((with_reducible refine (G6.out _ H2a).mono ?_);rintro e w3 ⟨rfl,H3,hF⟩;have hp3:=hF.get hp2a hXb;have hF3:=FrameT.trans hF2a (hF.mono (fun _ h=>Or.inl h));clear hF))
  | (go_at_call 61;((with_reducible refine (G7.out _ H3).mono ?_);rintro e w4 ⟨rfl,H4,hF⟩;have hp4:=hF.get hp3 hXb;have hF4:=FrameT.trans hF3 (hF.mono (fun _ h=>Or.inl h));clear hF)))
 clear hmk hhd hdd hde
 go_loopw [6,7,8] (fun i _ _ wr=>∃ (j:Nat) (l:List EntryC) (q:RSt) (a:Option Addr) (cap:Nat),i=.int .i64 j∧EntInv s (idxRead s) n1 M nref j l q∧CurAt b s q wr∧wr.heap[X]?=some (.cells #[.int .i64 g,.int .i64 6,.slice a j cap,.int .i64 0,.int .i64 0,.int .i64 0,.int .i64 0,.int .i64 0,.bool false,.bool false] 37 (0,0))∧wr.ownsRow w.heap.size 58 3 (.slice a j cap) j (entryCells l)∧FrameT (fun k=>k=b∨k=X) w wr) (fun i _ _ _=>6 - (intOf i).toNat)
 case atStart=>exact ⟨0,[],st7,none,0,rfl,HST.out,H4,hp4,World.ownsRow_nil _ _ _ _,hF4⟩
 case round =>
  obtain ⟨j,l,q,a,cap,rfl,hInv,Hq,hpq,hown,hF⟩:=hrel
  have hsz:=hF.size
  obtain ⟨c0,c1,c2,f1,f2⟩:=Hq.cells
  have hj6:=hInv.le
  by_cases hlt:j<nref
  ·by_cases he:q.e=0
   ·have HN:=Lib.hid (hInv.step (idxRead_ok s) (by omega) he hlt)
    have hgo:=(hInv.go he).1
    have hgo2:j<6:=by omega
    have hz:(q.e:Int)=0:=by omega
    rw [hz] at c2
    have okq:=numM_ok hInv.ok
    have okr:=numM_ok okq
    have K0:=Lib.hid (curNum_any b s hs q hInv.ok wr Hq)
    have K1:=Lib.hid (fun W (hW:CurAt b s (numM s q).2 W)=>curNum_any b s hs _ okq W hW)
    have K2:=Lib.hid (fun W (hW:CurAt b s (numM s (numM s q).2).2 W)=>curText_any b s hs _ okr W hW)
    unfold idxRead at HN
    dsimp only at HN
    clear hInv he hz okq okr hgo
    generalize txtM s (numM s (numM s q).2).2=R5 at *
    generalize numM s (numM s q).2=R4 at *
    generalize numM s q=R3 at *
    obtain ⟨ni2,q3⟩:=R3
    obtain ⟨nt2,q4⟩:=R4
    obtain ⟨xx,q5⟩:=R5
    dsimp only at *
    have HC:=Lib.hid (show entryCells (l ++ [(⟨ni2,nt2,xx⟩:EntryC)])=entryCells l ++ [.int .i64 ni2,.int .i64 nt2,.string xx] from entryCells_snoc _ _)
    have hj0:(0:Int)≤(j:Int):=by omega
    have hXq:=heap_ltP hpq
    have hbq:=Hq.lt
    go_wp2_with (first
     | (go_at_call 35;((with_reducible refine (K0.out).mono ?_);rintro e w21 ⟨rfl,I1,hF⟩;have hpa:=hF.get hpq hXb;have hFa:=FrameT.trans ‹FrameT (fun k=>k=b∨k=X) w wr› (hF.mono (fun _ h=>Or.inl h));have howna:=Stab.ownsRow (B:=0) (T:=fun k=>k=b) (fun k hk=>by have hk:k=b:=hk;omega) _ _ hown hF.moves;clear hF))
     | (go_at_call 35;((with_reducible refine (K1.out _ I1).mono ?_);rintro e w22 ⟨rfl,I2,hF⟩;have hpb:=hF.get hpa hXb;have hFb:=hFa.trans (hF.mono (fun _ h=>Or.inl h));have hownb:=Stab.ownsRow (B:=0) (T:=fun k=>k=b) (fun k hk=>by have hk:k=b:=hk;omega) _ _ howna hF.moves;clear hF)))
    have hx2:w22.cell? ⟨X,2,none⟩=some (.slice a j cap):=cell_of_row _ _ 2 _ _ _ hpb
    have I2d:CurAt b s q4 w22.drew:=I2
    have hpd:w22.drew.heap[X]?=some (.cells #[.int .i64 g,.int .i64 6,.slice a j cap,.int .i64 0,.int .i64 0,.int .i64 0,.int .i64 0,.int .i64 0,.bool false,.bool false] 37 (0,0)):=hpb
    have hownd:w22.drew.ownsRow w.heap.size 58 3 (.slice a j cap) j (entryCells l):=hownb
    have hFd:FrameT (fun k=>k=b∨k=X) w w22.drew:=hFb.drew
    go_region_law (first
     | (go_simp;go_at_call 79;((with_reducible refine (K2.out _ I2d).mono ?_);rintro e w5 ⟨rfl,I3,hF⟩;have hpc:=hF.get hpd hXb;have hFc:=hFd.trans (hF.mono (fun _ h=>Or.inl h));have hownc:=Stab.ownsRow (B:=0) (T:=fun k=>k=b) (fun k hk=>by have hk:k=b:=hk;omega) _ _ hownd hF.moves;have hsz5:=hFc.size;have hX5:=heap_ltP hpc;have kx5:w5.cell? ⟨X,2,none⟩=some (.slice a j cap):=cell_of_row _ _ 2 _ _ _ hpc;clear hF))
     | (refine step_append_lies _ rfl _ _ 33 rfl w.heap.size 58 i0 (.agg #[.int .i64 0,.int .i64 0,.string ⟨#[]⟩]) 3 32 Tryz.underlying33 hi hz0 hz1 hz2 rfl (by decide) _ _ _ rfl (hownc.alloc _) ⟨w5.heap.size,0,none⟩ 1 1 [.int .i64 ni2,.int .i64 nt2,.string xx] rfl rfl (news_new _ _ _) (by simp [Value.oneCell']) (by omega) (by unfold maxLen;omega) (by omega) (by simp;omega) _ rfl ?_;intro g' cap' w3 hown3 hgrow _ _;have hA5:=bel_alloc (Below.refl w5.heap.size w5) (.cells #[.int .i64 ni2,.int .i64 nt2,.string xx] 58);have hnb:(Value.slice a j cap).ownBlock≠some b:=(fun e=>by have:=ownBlock_ge hownc e;omega);have hnX:(Value.slice a j cap).ownBlock≠some X:=(fun e=>by have:=ownBlock_ge hownc e;omega);have I4:CurAt b s q5 w3:=(hgrow.block b (by simp;omega) (fun e=>hnb e.symm)).trans (CurAt.below I3 hA5);have hpe:=(hgrow.block X (by simp;omega) (fun e=>hnX e.symm)).trans ((hA5.block _ hX5).trans hpc);have hFe:=(hFc.trans (FrameT.below hA5)).grown hgrow (fun k hk=>ownBlock_ge hownc hk);have kf2:=frozen_of_row _ _ 2 _ _ hpe;have kc2:w3.cell? ⟨X,2,none⟩=some (.slice a j cap):=cell_of_row _ _ 2 _ _ _ hpe;have hpf:=Go.Joins.block_setCell hpe (.slice (some ⟨g',0,none⟩) (j+1) cap') (i:=2);simp only [List.setIfInBounds_toArray,List.set_cons_succ,List.set_cons_zero] at hpf;have I5:=CurAt.st I4 (i:=2) (v:=.slice (some ⟨g',0,none⟩) (j+1) cap') (Ne.symm hXb);have hFf:=hFe.trans ((FrameT.setCell _ X 2 (.slice (some ⟨g',0,none⟩) (j+1) cap')).mono (fun _ h=>Or.inr h));have hownf:=Stab.ownsRow (B:=0) (T:=fun k=>k=X) (fun k hk=>by have hk:k=X:=hk;omega) _ _ hown3 (FrameT.setCell w3 X 2 (.slice (some ⟨g',0,none⟩) (j+1) cap')).moves))
    all_goals
     rw [← HC.out] at hownf
     refine NoPanic.normal ?_
     go_wp2
     go_roundw
     case rel=>exact ⟨j+1,_,q5,_,_,by go_num,HN.out,I5,hpf,hownf,hFf⟩
     case measure=>simp [intOf];omega
   ·have hz:(0:Int)<(q.e:Int):=by omega
    have hlj:=hInv.len
    have hlt':(j:Int)<(nref:Int):=by omega
    have HI:=Lib.hid (show M.2=q from hInv.stop he)
    clear hInv he
    go_wp2
    go_end0
    subst hlj
    obtain ⟨a',cap',e',hrow,hoff⟩:=own_ent hown
    cases e'
    exact ⟨rfl,by rw [HI.out];exact Hq,hF,a,cap,l,by omega,fun h0=>absurd h0 (by rw [HI.out];omega),hpq,hrow,hoff⟩
  ·have hlt':(nref:Int)≤(j:Int):=by omega
   have hlj:=hInv.len
   have HI:=Lib.hid hInv
   clear hInv
   go_wp2
   go_end0
   subst hlj
   obtain ⟨a',cap',e',hrow,hoff⟩:=own_ent hown
   cases e'
   refine ⟨rfl,?_,hF,a,cap,l,by omega,fun h0=>?_,hpq,hrow,hoff⟩
   ·by_cases he:q.e=0
    ·obtain ⟨e1,e2,e3,e4⟩:=HI.out.go he
     have:n1 - l.length=0:=by omega
     rw [e4,this,entM];exact Hq
    ·rw [HI.out.stop he];exact Hq
   ·by_cases he:q.e=0
    ·obtain ⟨e1,e2,e3,e4⟩:=HI.out.go he
     have:n1 - l.length=0:=by omega
     show l=M.1
     rw [e3,this,entM,List.append_nil]
    ·exact absurd h0 (by rw [HI.out.stop he];exact he)

end Go.Proofs.YtpogklceaoiacaaGreat
