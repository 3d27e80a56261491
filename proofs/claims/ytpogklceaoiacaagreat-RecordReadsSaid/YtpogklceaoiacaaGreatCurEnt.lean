/- The contracts of the document's Cursor.close and Cursor.forward. -/
import Derived.Test.YtpogklceaoiacaaGreatCur
namespace Go.Proofs.YtpogklceaoiacaaGreat
open Go.RowKit Go.Shelf
set_option linter.unusedVariables false
attribute [local go_sem] Oper.semAt_some wide_fn wide_round_fn

theorem FrameT.grown {T:Nat→Prop} {a w w':World} {row:Option Nat} (h:FrameT T a w) (hg:w.grownBy w' row) (hr:∀ k,row=some k→a.heap.size≤k):FrameT T a w' :=
 ⟨hg.os.trans h.os,hg.tape.trans h.tape,hg.output.trans h.output,Nat.le_trans h.size hg.size,fun k hk hT=>(hg.block k (Nat.lt_of_lt_of_le hk h.size) (fun e=>by have:=hr k e.symm;omega)).trans (h.block k hk hT)⟩

/-- What the entries' loop holds at its j-th round: M is what the mathematics tells. -/
structure EntInv (s:ByteArray) (idx:Nat→RSt→Int × RSt) (n1:Nat) (M:List EntryC × RSt) (nref:Nat) (j:Nat) (l:List EntryC) (st:RSt):Prop where
 len:l.length=j
 le:j≤6
 ok:st.ok s
 go:st.e=0→nref=n1∧j≤n1∧M.1=l ++ (entM s idx (n1 - j) j st).1∧M.2=(entM s idx (n1 - j) j st).2
 stop:st.e≠0→M.2=st
theorem EntInv.step {s:ByteArray} {idx:Nat→RSt→Int × RSt} (hi:IdxOk s idx) {n1:Nat} {M:List EntryC × RSt} {nref j:Nat} {l:List EntryC} {st:RSt} (h:EntInv s idx n1 M nref j l st) (h6:n1≤6) (he:st.e=0) (hj:j<nref) :
  EntInv s idx n1 M nref (j+1) (l ++ [⟨(idx j st).1,(numM s (idx j st).2).1,(txtM s (numM s (idx j st).2).2).1⟩]) (txtM s (numM s (idx j st).2).2).2:=by
 obtain ⟨g1,g2,g3,g4⟩:=h.go he
 obtain ⟨m,hm⟩:∃ m,n1 - j=m+1:=⟨n1 - j - 1,by omega⟩
 rw [hm,entM] at g3 g4
 have hm2:n1 - (j+1)=m:=by omega
 refine ⟨by simp [h.len],by omega,txtM_ok (numM_ok (hi j st h.ok)),fun h0=>?_,fun h0=>?_⟩
 ·rw [if_neg (by simp [h0])] at g3 g4
  exact ⟨g1,by omega,by rw [g3,hm2];simp,by rw [g4,hm2]⟩
 ·rw [if_pos h0] at g3 g4
  exact g4
theorem entM_err {s:ByteArray} {idx:Nat→RSt→Int × RSt} {st:RSt} (he:st.e≠0) (hi:∀ i,(idx i st).2=st) (m i:Nat):(entM s idx m i st).2=st:=by
 cases m with
 | zero=>rfl
 | succ m =>
  have h1:numM s st=(0,st):=by unfold numM;rw [if_pos he]
  have h2:txtM s st=(⟨#[]⟩,st):=by unfold txtM;rw [if_pos he]
  rw [entM,hi,h1]
  dsimp only
  rw [h2,if_pos he]
theorem getA_err:∀ (l:List UInt8) (k N:Nat),(getA k N l).2.2≠0→(getA k N l).1=0
 | [],_,_,_=>rfl
 | c :: r,k,N,h=>by
  unfold getA at h ⊢
  split
  ·rename_i h1
   rw [if_pos h1] at h
   split
   ·rfl
   ·rename_i h2;rw [if_neg h2] at h;exact absurd rfl h
  ·rename_i h1
   rw [if_neg h1] at h
   split
   ·rfl
   ·rename_i h2;rw [if_neg h2] at h;exact getA_err r _ _ h
theorem getL_err {l:List UInt8} (h:(getL l).2.2≠0):(getL l).1=0:=getA_err l 0 0 h
theorem numM_err {s:ByteArray} {st:RSt} (he:st.e≠0):numM s st=(0,st):=by unfold numM;rw [if_pos he]
theorem numM_e {s:ByteArray} {st:RSt} (h:(numM s st).2.e=0):st.e=0:=by
 apply Classical.byContradiction;intro h0;rw [numM_err h0] at h;exact h0 h
/-- 'Num' and 'must(n <= most)' come to the state that numberTo leaves. -/
theorem must_numTo (s:ByteArray) (most:Nat) (st:RSt):mustM (decide ((numM s st).1≤most)) (numM s st).2=(numTo s most st).2:=by
 unfold mustM numTo
 by_cases h:most<(numM s st).1
 ·have he:(numM s st).2.e=0:=by
   unfold numM at h ⊢
   split at h
   ·simp at h
   ·rename_i h0
    rw [if_neg h0]
    apply Classical.byContradiction
    intro h1
    have:=getL_err h1
    rw [this] at h
    exact absurd h (Nat.not_lt_zero _)
  rw [if_pos h,if_pos ⟨he,by simp;omega⟩]
 ·rw [if_neg h,if_neg (by rintro ⟨_,h1⟩;simp at h1;omega)]
theorem numTo_same {s:ByteArray} {most:Nat} {st:RSt} (h:(numTo s most st).2.e=0):(numTo s most st).1=(numM s st).1:=by
 unfold numTo at h ⊢
 split
 ·rename_i h1;rw [if_pos h1] at h;cases h
 ·rfl
theorem EntInv.start {s:ByteArray} {idx:Nat→RSt→Int × RSt} {n1 nref:Nat} {st:RSt} (hok:st.ok s) (h1:st.e=0→nref=n1) (hi:st.e≠0→∀ i,(idx i st).2=st):EntInv s idx n1 (entM s idx n1 0 st) nref 0 [] st :=
 ⟨rfl,by omega,hok,fun he=>⟨h1 he,by omega,rfl,rfl⟩,fun he=>entM_err he (hi he) _ _⟩

set_option maxRecDepth 100000 in
set_option maxHeartbeats 4000000 in
theorem close_any (b:Nat) (s:ByteArray) (hs:s.size<4611686018427387904) (st:RSt) (hok:st.ok s) (w:World) (h:CurAt b s st w) :
  Calls Tryz.prog 62 #[.pointer (some ⟨b,0,none⟩)] w fun e w'=>∃ (v:Value) (l:List EntryC),e=.returned v∧l.length≤6 ∧
   ((entM s (idxFrom (numM s (numTo s 6 st).2).1) (numTo s 6 st).1 0 (numM s (numTo s 6 st).2).2).2.e=0→l=(entM s (idxFrom (numM s (numTo s 6 st).2).1) (numTo s 6 st).1 0 (numM s (numTo s 6 st).2).2).1) ∧
   CurAt b s (entM s (idxFrom (numM s (numTo s 6 st).2).1) (numTo s 6 st).1 0 (numM s (numTo s 6 st).2).2).2 w'∧w'.ownsRow w.heap.size 58 3 v l.length (entryCells l)∧FrameT (fun k=>k=b) w w':=by
 obtain ⟨i0,hi,hz0,hz1,hz2⟩:=info_parts infoEntry
 have hbw:=h.lt
 have ok1:=numM_ok hok
 have ok2:=numTo_ok (most:=6) hok
 have ok3:=numM_ok ok2
 have hm6:=numTo_le s 6 st
 have G1:=Lib.hid (curNum_any b s hs st hok w h)
 have G2:=Lib.hid (fun W (hW:CurAt b s (numM s st).2 W)=>curMust_any b s (numM s st).2 (decide ((numM s st).1≤6)) W hW)
 rw [must_numTo] at G2
 have G3:=Lib.hid (fun W (hW:CurAt b s (numTo s 6 st).2 W)=>curNum_any b s hs _ ok2 W hW)
 have HST:=Lib.hid (EntInv.start (idx:=idxFrom (numM s (numTo s 6 st).2).1) (n1:=(numTo s 6 st).1) (nref:=(numM s st).1) ok3 (fun he=>(numTo_same (numM_e he)).symm) (fun _ _=>rfl))
 have hNN:=numM_lt s st
 have hDD:=Lib.hid (show decide (((numM s st).1:Int)≤6)=decide ((numM s st).1≤6) from decide_eq_decide.2 (by omega))
 have hFF:=numM_lt s (numTo s 6 st).2
 generalize hM:entM s (idxFrom (numM s (numTo s 6 st).2).1) (numTo s 6 st).1 0 (numM s (numTo s 6 st).2).2=M at *
 clear hM
 generalize (numTo s 6 st).1=n1 at *
 generalize numM s (numTo s 6 st).2=R3 at *
 generalize (numTo s 6 st).2=st2 at *
 generalize numM s st=R1 at *
 obtain ⟨nref,st1⟩:=R1
 obtain ⟨fi,st3⟩:=R3
 dsimp only at *
 generalize decide (nref≤6)=bD at *
 have hdd:decide ((nref:Int)≤6)=bD:=hDD.out
 clear hDD ok1 ok2 ok3
 go_enter Tryz.func62,Tryz.ntmps62
 go_wp2_with (first
  | (go_at_call 35;((with_reducible refine (G1.out).mono ?_);rintro e w1 ⟨rfl,H1,hF1⟩))
  | (go_at_call 61;((with_reducible refine (G2.out _ H1).mono ?_);rintro e w2 ⟨rfl,H2,hF⟩;have hF2:=hF1.trans hF;clear hF))
  | (go_at_call 35;((with_reducible refine (G3.out _ H2).mono ?_);rintro e w3 ⟨rfl,H3,hF⟩;have hF3:=hF2.trans hF;clear hF)))
 go_loopw [5,6,7] (fun sv i _ wr=>∃ (j:Nat) (l:List EntryC) (q:RSt) (v:Value),v=sv∧i=.int .i64 j∧EntInv s (idxFrom fi) n1 M nref j l q∧CurAt b s q wr∧wr.ownsRow w.heap.size 58 3 v j (entryCells l)∧FrameT (fun k=>k=b) w wr) (fun _ i _ _=>6 - (intOf i).toNat)
 case atStart=>exact ⟨0,[],st3,_,rfl,rfl,HST.out,H3,World.ownsRow_nil _ _ _ _,hF3⟩
 case round =>
  obtain ⟨j,l,q,v,rfl,rfl,hInv,Hq,hown,hF⟩:=hrel
  have hsz:=hF.size
  obtain ⟨c0,c1,c2,f1,f2⟩:=Hq.cells
  have hj6:=hInv.le
  by_cases hlt:j<nref
  ·by_cases he:q.e=0
   ·have HN:=Lib.hid (hInv.step (idxFrom_ok s fi) (by omega) he hlt)
    have hln:=hInv.len
    have hgo:=(hInv.go he).1
    have hgo2:j<6:=by omega
    have hz:(q.e:Int)=0:=by omega
    rw [hz] at c2
    have K1:=Lib.hid (curNum_any b s hs q hInv.ok wr Hq)
    have okq:=numM_ok hInv.ok
    have K2:=Lib.hid (fun W (hW:CurAt b s (numM s q).2 W)=>curText_any b s hs _ okq W hW)
    unfold idxFrom at HN
    dsimp only at HN
    clear hInv he hz okq hgo
    generalize txtM s (numM s q).2=R5 at *
    generalize numM s q=R4 at *
    obtain ⟨nt,q4⟩:=R4
    obtain ⟨xx,q5⟩:=R5
    dsimp only at *
    have HC:=Lib.hid (show entryCells (l ++ [(⟨wrap64 ((fi:Int)+j),nt,xx⟩:EntryC)])=entryCells l ++ [.int .i64 (wrap64 ((fi:Int)+j)),.int .i64 nt,.string xx] from entryCells_snoc _ _)
    have hln2:(l.length:Int)=j:=by omega
    clear hln2 hln
    have hj0:(0:Int)≤(j:Int):=by omega
    go_wp2_with (first
     | (go_at_call 35;((with_reducible refine (K1.out).mono ?_);rintro e w4 ⟨rfl,H4,hF⟩;have hF4:=FrameT.trans ‹FrameT (fun k=>k=b) w wr› hF;have hown4:=Stab.ownsRow (B:=0) (T:=fun k=>k=b) (fun k hk=>by have hk:k=b:=hk;omega) _ _ hown hF.moves;clear hF))
     | (go_at_call 79;((with_reducible refine (K2.out _ H4).mono ?_);rintro e w5 ⟨rfl,H5,hF⟩;have hF5:=hF4.trans hF;have hown5:=Stab.ownsRow (B:=0) (T:=fun k=>k=b) (fun k hk=>by have hk:k=b:=hk;omega) _ _ hown4 hF.moves;have hsz5:=hF5.size;clear hF))
     | (at_builtin;refine wpList_append_own _ rfl _ _ 33 rfl w.heap.size 58 i0 (.agg #[.int .i64 0,.int .i64 0,.string ⟨#[]⟩]) 3 32 Tryz.underlying33 hi hz0 hz1 hz2 rfl (by decide) _ _ _ rfl (hown5.alloc _) ⟨w5.heap.size,0,none⟩ 1 1 [.int .i64 (wrap64 ((fi:Int)+j)),.int .i64 nt,.string xx] rfl rfl (news_new _ _ _) (by simp [Value.oneCell']) (by unfold maxLen;omega) (by omega) (by simp;omega) ?_;intro v' w3 hown3 hgrow _;have hA5:=bel_alloc (Below.refl w5.heap.size w5) (.cells #[.int .i64 (wrap64 ((fi:Int)+j)),.int .i64 nt,.string xx] 58);have hne:v.ownBlock≠some b:=(fun e=>by have:=ownBlock_ge hown5 e;omega);have H6:CurAt b s q5 w3:=(hgrow.block b (by simp;omega) (fun e=>hne e.symm)).trans (CurAt.below H5 hA5);have hF6:=(hF5.trans (FrameT.below hA5)).grown hgrow (fun k hk=>ownBlock_ge hown5 hk)))
    rw [← HC.out] at hown3
    go_roundw
    case rel=>exact ⟨j+1,_,q5,_,rfl,by go_num,HN.out,H6,hown3,hF6⟩
    case measure=>simp [intOf];omega
   ·have hz:(0:Int)<(q.e:Int):=by omega
    have hlj:=hInv.len
    have hlt':(j:Int)<(nref:Int):=by omega
    have hst:=hInv.stop he
    have HI:=Lib.hid (show M.2=q from hst)
    clear hInv hst he
    go_wp2
    go_ret
    subst hlj
    exact ⟨_,l,rfl,by omega,fun h0=>absurd h0 (by rw [HI.out];omega),by rw [HI.out];exact Hq,hown,hF⟩
  ·have hlt':(nref:Int)≤(j:Int):=by omega
   have hlj:=hInv.len
   have HI:=Lib.hid hInv
   clear hInv
   go_wp2
   go_ret
   subst hlj
   refine ⟨_,l,rfl,by omega,fun h0=>?_,?_,hown,hF⟩
   ·by_cases he:q.e=0
    ·obtain ⟨e1,e2,e3,e4⟩:=HI.out.go he
     have:n1 - l.length=0:=by omega
     rw [e3,this,entM,List.append_nil]
    ·exact absurd h0 (by rw [HI.out.stop he];exact he)
   ·by_cases he:q.e=0
    ·obtain ⟨e1,e2,e3,e4⟩:=HI.out.go he
     have:n1 - l.length=0:=by omega
     rw [e4,this,entM];exact Hq
    ·rw [HI.out.stop he];exact Hq

end Go.Proofs.YtpogklceaoiacaaGreat
