/- RecRef, RecRefB, RecRefR, Bytes: in one text. -/
import Derived.Test.YtpogklceaoiacaaGreatRecs
import Derived.Test.YtpogklceaoiacaaGreatRefIs6
import Derived.Test.YtpogklceaoiacaaGreatRefBs
import Derived.Test.YtpogklceaoiacaaGreatRefRead
import Derived.Test.YtpogklceaoiacaaGreatKit
import Derived.Test.YtpogklceaoiacaaGreatProg
import Derived.Laws.IdiomStrings
import Derived.Laws.OwnMore
/- The contracts of the document's IsRecord, SameParts, Same. -/
namespace Go.Proofs.YtpogklceaoiacaaGreat
open Go.RowKit Go.Shelf
set_option linter.unusedVariables false
attribute [local go_sem] Oper.semAt_some wide_fn wide_round_fn

attribute [local irreducible] wpQuiet
set_option maxRecDepth 100000 in
set_option maxHeartbeats 2000000 in
theorem refIsRec_short (s:Int) (a:Option Addr) (len cap:Nat) (w:World) (hm:len<1000000) (h:s<1∨1125899906842624<s∨len<1∨4<len):Gives Tryz.prog 14 #[.agg #[.int .i64 s,.slice a len cap]] w (.bool false):=by
 have hA:=bel_alloc (Below.refl w.heap.size w) (.cells #[.int .i64 s,.slice a len cap] 24)
 unfold Gives
 by_cases h1:wB s 1 1125899906842624=true
 ·have h1':=wB_bd h1
  have G1:=Lib.hid (fun W=>(show Gives Tryz.prog 27 #[.int .i64 s,.int .i64 1,.int .i64 1125899906842624] W (.bool true) from by have:=refWithin_any s 1 1125899906842624 W;rwa [h1] at this))
  have G2:=Lib.hid (fun W=>(show Gives Tryz.prog 27 #[.int .i64 len,.int .i64 1,.int .i64 4] W (.bool false) from by have:=refWithin_any len 1 4 W;rwa [show wB (len:Int) 1 4=false from by rw [Bool.eq_false_iff,Ne,wB_iff];omega] at this))
  clear h1 h1'
  go_enter Tryz.func14,Tryz.ntmps14
  go_wp2_with (first
   | (go_at_call 27;((with_reducible refine (G1.out _).mono ?_);rintro e w1 ⟨rfl,hB1⟩;have c1:w1.cell? ⟨w.heap.size,1,none⟩=some (.slice a len cap):=blk_cell hB1 1;replace hA:=bel2 hA hB1))
   | (go_at_call 27;((with_reducible refine (G2.out _).mono ?_);rintro e w2 ⟨rfl,hB2⟩;replace hA:=bel2 hA hB2)))
  go_ret
  exact ⟨rfl,hA⟩
 ·have G1:=Lib.hid (fun W=>(show Gives Tryz.prog 27 #[.int .i64 s,.int .i64 1,.int .i64 1125899906842624] W (.bool false) from by have:=refWithin_any s 1 1125899906842624 W;rwa [Bool.eq_false_iff.2 h1] at this))
  clear h1
  go_enter Tryz.func14,Tryz.ntmps14
  go_wp2_with (go_at_call 27;((with_reducible refine (G1.out _).mono ?_);rintro e w1 ⟨rfl,hB1⟩;replace hA:=bel2 hA hB1))
  go_ret
  exact ⟨rfl,hA⟩

set_option maxRecDepth 100000 in
set_option maxHeartbeats 8000000 in
theorem refIsRec_any (s:Int) (a:Option Addr) (len cap:Nat) (L:List PL) (w:World) (h:HasP w a len L):Gives Tryz.prog 14 #[.agg #[.int .i64 s,.slice a len cap]] w (.bool (recB s L)):=by
 by_cases hs:s<1∨1125899906842624<s∨len<1∨4<len
 ·rw [recB_short (by rw [h.1];exact hs)];exact refIsRec_short s a len cap w h.2.1 hs
 have s1:1≤s:=by omega
 have s2:s≤1125899906842624:=by omega
 have l1:1≤len:=by omega
 have l2:len≤4:=by omega
 clear hs
 have G1:=Lib.hid (fun W=>(show Gives Tryz.prog 27 #[.int .i64 s,.int .i64 1,.int .i64 1125899906842624] W (.bool true) from by have:=refWithin_any s 1 1125899906842624 W;rwa [wB_iff.2 ⟨s1,s2⟩] at this))
 have G2:=Lib.hid (fun W=>(show Gives Tryz.prog 27 #[.int .i64 len,.int .i64 1,.int .i64 4] W (.bool true) from by have:=refWithin_any len 1 4 W;rwa [wB_iff.2 ⟨by omega,by omega⟩] at this))
 obtain ⟨hL,hm,hrow,hE⟩:=h
 have HE:=Lib.hid hE
 have HL:=Lib.hid hL
 obtain ⟨b,off,rfl,hb,hx⟩:=hrow.2.2 l1
 have HX:=Lib.hid hx
 have HK:=Lib.hid (fun W (hW:Below w.heap.size w W)=>(show W.cell? ⟨b,off+1,none⟩=some (.int .i64 L[0].1.k) from by
  have:=(part_at10 hb hW hx (k:=0) (by omega)).2.1
  simpa using this))
 have HF:=Lib.hid (head_k (L:=L) (by omega))
 have HN:=Lib.hid (fun (k:Nat) (hk:k<L.length) h=>recB_no (s:=s) hk h)
 have HY:=Lib.hid (fun h=>recB_all (L:=L) ⟨s1,s2⟩ (by omega) h)
 generalize L[0].1.k=k0 at *
 clear hE hL hrow hx
 unfold Gives
 cases hf:fwdOf L
 ·rw [hf] at HF HN HY
  have hkn:¬ k0=6:=of_decide_eq_false HF.out.symm
  have hk6:(k0 == 6)=false:=by simpa using hkn
  have HKn:=Lib.hid hkn
  clear hkn
  clear HF hf
  go_enter Tryz.func14,Tryz.ntmps14
  go_wp2_with (first
   | (go_at_call 27;((with_reducible refine (G1.out _).mono ?_);rintro e w1 ⟨rfl,hB1⟩;have c1:w1.cell? ⟨w.heap.size,1,none⟩=some (.slice (some ⟨b,off,none⟩) len cap):=blk_cell hB1 1))
   | (go_at_call 27;((with_reducible refine (G2.out _).mono ?_);rintro e w2 ⟨rfl,hB2⟩;have hA2:=bel2 hB1 hB2;clear c1)))
  go_loopw [3] (fun q wr=>∃ k:Nat,k≤len∧q=.int .i64 k∧(L.take k).all (okR false)=true∧Below (w.alloc (.cells #[.int .i64 s,.slice (some ⟨b,off,none⟩) len cap] 24)).heap.size (w.alloc (.cells #[.int .i64 s,.slice (some ⟨b,off,none⟩) len cap] 24)) wr) (fun q _=>len - (intOf q).toNat)
  case atStart=>exact ⟨0,by omega,rfl,rfl,hA2⟩
  case round =>
   obtain ⟨k,hk,rfl,ha,hBA⟩:=hrel
   have HAl:=Lib.hid ha
   have c1:wr.cell? ⟨w.heap.size,1,none⟩=some (.slice (some ⟨b,off,none⟩) len cap):=blk_cell hBA 1
   have hBw:=blk_below hBA
   have hxs:w.heap.size<wr.heap.size:=Nat.lt_of_lt_of_le (by simp) hBA.size
   clear ha hA2 hB1 hB2
   by_cases hlt:k<len
   ·have hkl:k<L.length:=by rw [HL.out];exact hlt
    have HS9:=Lib.hid (fun W (hW:Above wr W)=>And.intro ((Below.cell hW (p:=⟨w.heap.size,1,none⟩) hxs).trans c1) (And.intro (HK.out W (bel2 hBw hW)) (part_at10 hb (bel2 hBw hW) HX.out hkl)))
    have HN2:=Lib.hid (HN.out k hkl)
    have HY2:=Lib.hid (show okR false L[k]=true→(L.take (k+1)).all (okR false)=true from fun h=>by rw [List.take_succ_eq_append_getElem hkl,List.all_append,HAl.out];simp [h])
    have hEk:=HE.out L[k] (List.getElem_mem hkl)
    have hk0:(0:Int)≤(k:Int):=by omega
    have hk1:(k:Int)<(len:Int):=by omega
    have hl0:0<len:=by omega
    clear HN HY HE HX HL HAl HK
    generalize L[k]=x at *
    obtain ⟨p,l⟩:=x
    have GI:=Lib.hid (fun W (hW:Below w.heap.size w W)=>refIs_any p l W (hEk.below hW))
    have HO:=Lib.hid (show okR false (p,l)=(isB p l && (decide (p.k=6) == false)) from rfl)
    obtain ⟨pg,pk,pa,plen,pcap,pht,phv,phc,pi,pt,pm,ph⟩:=p
    dsimp only [PartC.val] at *
    clear hEk
    cases hi:isB ⟨pg,pk,pa,plen,pcap,pht,phv,phc,pi,pt,pm,ph⟩ l
    ·rw [hi] at GI HO
     have HO2:=Lib.hid (show okR false (_,l)=false from HO.out)
     go_wp2
     refine wp_region_below (by kernel_rfl) (by kernel_rfl) ?_
     repeat (first
      | (refine BigFrame.wpQuiet_skip (by rfl) ?_;(try simp only [Act.put,List.setIfInBounds_toArray,List.set_cons_zero,List.set_cons_succ]))
      | (refine BigFrame.wpQuiet_want (by rfl) (fun K hK=>?_);apply Exists.intro;refine ⟨fun W hW=>?_,hK _ ?_⟩;(focus (have hWB:Below _ _ W:=hW;obtain ⟨x1,xk,⟨z0,z1,z2,z3,z4,z5,z6,z7,z8,z9⟩⟩:=HS9.out _ hW;go_simp;(first | done | with_reducible rfl | (go_at_call 28;with_reducible exact gives_above hW (GI.out _ (bel2 hBw hWB))) | (rw [if_neg (by omega)];go_simp;(first | done | with_reducible rfl)))));clear hK K;(try simp only [Act.put,List.setIfInBounds_toArray,List.set_cons_zero,List.set_cons_succ])))
     refine wpQuiet_nil ?_
     intro w9 hB9
     replace hB9:Below _ _ w9:=hB9
     go_wp2
     go_ret
     exact ⟨by rw [HN2.out HO2.out];rfl,bel2 hBw hB9⟩
    ·rw [hi] at GI HO
     by_cases h6:pk=6
     ·subst h6
      have HO2:=Lib.hid (show okR false (_,l)=false from HO.out.trans (by simp ))
      clear HO
      go_wp2
      refine wp_region_below (by kernel_rfl) (by kernel_rfl) ?_
      repeat (first
       | (refine BigFrame.wpQuiet_skip (by rfl) ?_;(try simp only [Act.put,List.setIfInBounds_toArray,List.set_cons_zero,List.set_cons_succ]))
       | (refine BigFrame.wpQuiet_want (by rfl) (fun K hK=>?_);apply Exists.intro;refine ⟨fun W hW=>?_,hK _ ?_⟩;(focus (have hWB:Below _ _ W:=hW;obtain ⟨x1,xk,⟨z0,z1,z2,z3,z4,z5,z6,z7,z8,z9⟩⟩:=HS9.out _ hW;go_simp;(first | done | with_reducible rfl | (go_at_call 28;with_reducible exact gives_above hW (GI.out _ (bel2 hBw hWB))) | (rw [if_neg (by omega)];go_simp;(first | done | with_reducible rfl)))));clear hK K;(try simp only [Act.put,List.setIfInBounds_toArray,List.set_cons_zero,List.set_cons_succ])))
      refine wpQuiet_nil ?_
      intro w9 hB9
      replace hB9:Below _ _ w9:=hB9
      go_wp2
      go_ret
      exact ⟨by rw [HN2.out HO2.out];rfl,bel2 hBw hB9⟩
     ·have h6':(pk == 6)=false:=by simpa using h6
      have H6:=Lib.hid h6
      clear h6
      have HO2:=Lib.hid (show okR false (_,l)=true from HO.out.trans (by simp [H6.out]))
      clear HO
      go_wp2
      refine wp_region_below (by kernel_rfl) (by kernel_rfl) ?_
      repeat (first
       | (refine BigFrame.wpQuiet_skip (by rfl) ?_;(try simp only [Act.put,List.setIfInBounds_toArray,List.set_cons_zero,List.set_cons_succ]))
       | (refine BigFrame.wpQuiet_want (by rfl) (fun K hK=>?_);apply Exists.intro;refine ⟨fun W hW=>?_,hK _ ?_⟩;(focus (have hWB:Below _ _ W:=hW;obtain ⟨x1,xk,⟨z0,z1,z2,z3,z4,z5,z6,z7,z8,z9⟩⟩:=HS9.out _ hW;go_simp;(first | done | with_reducible rfl | (go_at_call 28;with_reducible exact gives_above hW (GI.out _ (bel2 hBw hWB))) | (rw [if_neg (by omega)];go_simp;(first | done | with_reducible rfl)))));clear hK K;(try simp only [Act.put,List.setIfInBounds_toArray,List.set_cons_zero,List.set_cons_succ])))
      refine wpQuiet_nil ?_
      intro w9 hB9
      replace hB9:Below _ _ w9:=hB9
      go_wp2
      go_roundw
      case rel=>exact ⟨k+1,by omega,by go_num,HY2.out HO2.out,bel2 hBA hB9⟩
      case measure=>simp [intOf];omega
   ·obtain rfl:k=len:=by omega
    have HV:=Lib.hid (HY.out (by rw [HL.out];exact HAl.out))
    go_wp2
    go_ret
    exact ⟨by rw [HV.out];rfl,hBw⟩
 ·rw [hf] at HF HN HY
  have hk6:k0=6:=of_decide_eq_true HF.out.symm
  subst hk6
  clear HF hf
  go_enter Tryz.func14,Tryz.ntmps14
  go_wp2_with (first
   | (go_at_call 27;((with_reducible refine (G1.out _).mono ?_);rintro e w1 ⟨rfl,hB1⟩;have c1:w1.cell? ⟨w.heap.size,1,none⟩=some (.slice (some ⟨b,off,none⟩) len cap):=blk_cell hB1 1))
   | (go_at_call 27;((with_reducible refine (G2.out _).mono ?_);rintro e w2 ⟨rfl,hB2⟩;have hA2:=bel2 hB1 hB2;clear c1)))
  go_loopw [3] (fun q wr=>∃ k:Nat,k≤len∧q=.int .i64 k∧(L.take k).all (okR true)=true∧Below (w.alloc (.cells #[.int .i64 s,.slice (some ⟨b,off,none⟩) len cap] 24)).heap.size (w.alloc (.cells #[.int .i64 s,.slice (some ⟨b,off,none⟩) len cap] 24)) wr) (fun q _=>len - (intOf q).toNat)
  case atStart=>exact ⟨0,by omega,rfl,rfl,hA2⟩
  case round =>
   obtain ⟨k,hk,rfl,ha,hBA⟩:=hrel
   have HAl:=Lib.hid ha
   have c1:wr.cell? ⟨w.heap.size,1,none⟩=some (.slice (some ⟨b,off,none⟩) len cap):=blk_cell hBA 1
   have hBw:=blk_below hBA
   have hxs:w.heap.size<wr.heap.size:=Nat.lt_of_lt_of_le (by simp) hBA.size
   clear ha hA2 hB1 hB2
   by_cases hlt:k<len
   ·have hkl:k<L.length:=by rw [HL.out];exact hlt
    have HS9:=Lib.hid (fun W (hW:Above wr W)=>And.intro ((Below.cell hW (p:=⟨w.heap.size,1,none⟩) hxs).trans c1) (And.intro (HK.out W (bel2 hBw hW)) (part_at10 hb (bel2 hBw hW) HX.out hkl)))
    have HN2:=Lib.hid (HN.out k hkl)
    have HY2:=Lib.hid (show okR true L[k]=true→(L.take (k+1)).all (okR true)=true from fun h=>by rw [List.take_succ_eq_append_getElem hkl,List.all_append,HAl.out];simp [h])
    have hEk:=HE.out L[k] (List.getElem_mem hkl)
    have hk0:(0:Int)≤(k:Int):=by omega
    have hk1:(k:Int)<(len:Int):=by omega
    have hl0:0<len:=by omega
    clear HN HY HE HX HL HAl HK
    generalize L[k]=x at *
    obtain ⟨p,l⟩:=x
    have GI:=Lib.hid (fun W (hW:Below w.heap.size w W)=>refIs_any p l W (hEk.below hW))
    have HO:=Lib.hid (show okR true (p,l)=(isB p l && (decide (p.k=6) == true)) from rfl)
    obtain ⟨pg,pk,pa,plen,pcap,pht,phv,phc,pi,pt,pm,ph⟩:=p
    dsimp only [PartC.val] at *
    clear hEk
    cases hi:isB ⟨pg,pk,pa,plen,pcap,pht,phv,phc,pi,pt,pm,ph⟩ l
    ·rw [hi] at GI HO
     have HO2:=Lib.hid (show okR true (_,l)=false from HO.out)
     go_wp2
     refine wp_region_below (by kernel_rfl) (by kernel_rfl) ?_
     repeat (first
      | (refine BigFrame.wpQuiet_skip (by rfl) ?_;(try simp only [Act.put,List.setIfInBounds_toArray,List.set_cons_zero,List.set_cons_succ]))
      | (refine BigFrame.wpQuiet_want (by rfl) (fun K hK=>?_);apply Exists.intro;refine ⟨fun W hW=>?_,hK _ ?_⟩;(focus (have hWB:Below _ _ W:=hW;obtain ⟨x1,xk,⟨z0,z1,z2,z3,z4,z5,z6,z7,z8,z9⟩⟩:=HS9.out _ hW;go_simp;(first | done | with_reducible rfl | (go_at_call 28;with_reducible exact gives_above hW (GI.out _ (bel2 hBw hWB))) | (rw [if_neg (by omega)];go_simp;(first | done | with_reducible rfl)))));clear hK K;(try simp only [Act.put,List.setIfInBounds_toArray,List.set_cons_zero,List.set_cons_succ])))
     refine wpQuiet_nil ?_
     intro w9 hB9
     replace hB9:Below _ _ w9:=hB9
     go_wp2
     go_ret
     exact ⟨by rw [HN2.out HO2.out];rfl,bel2 hBw hB9⟩
    ·rw [hi] at GI HO
     by_cases h6:pk=6
     ·subst h6
      have HO2:=Lib.hid (show okR true (_,l)=true from HO.out.trans (by simp ))
      clear HO
      go_wp2
      refine wp_region_below (by kernel_rfl) (by kernel_rfl) ?_
      repeat (first
       | (refine BigFrame.wpQuiet_skip (by rfl) ?_;(try simp only [Act.put,List.setIfInBounds_toArray,List.set_cons_zero,List.set_cons_succ]))
       | (refine BigFrame.wpQuiet_want (by rfl) (fun K hK=>?_);apply Exists.intro;refine ⟨fun W hW=>?_,hK _ ?_⟩;(focus (have hWB:Below _ _ W:=hW;obtain ⟨x1,xk,⟨z0,z1,z2,z3,z4,z5,z6,z7,z8,z9⟩⟩:=HS9.out _ hW;go_simp;(first | done | with_reducible rfl | (go_at_call 28;with_reducible exact gives_above hW (GI.out _ (bel2 hBw hWB))) | (rw [if_neg (by omega)];go_simp;(first | done | with_reducible rfl)))));clear hK K;(try simp only [Act.put,List.setIfInBounds_toArray,List.set_cons_zero,List.set_cons_succ])))
      refine wpQuiet_nil ?_
      intro w9 hB9
      replace hB9:Below _ _ w9:=hB9
      go_wp2
      go_roundw
      case rel=>exact ⟨k+1,by omega,by go_num,HY2.out HO2.out,bel2 hBA hB9⟩
      case measure=>simp [intOf];omega
     ·have h6':(pk == 6)=false:=by simpa using h6
      have H6:=Lib.hid h6
      clear h6
      have HO2:=Lib.hid (show okR true (_,l)=false from HO.out.trans (by simp [H6.out]))
      clear HO
      go_wp2
      refine wp_region_below (by kernel_rfl) (by kernel_rfl) ?_
      repeat (first
       | (refine BigFrame.wpQuiet_skip (by rfl) ?_;(try simp only [Act.put,List.setIfInBounds_toArray,List.set_cons_zero,List.set_cons_succ]))
       | (refine BigFrame.wpQuiet_want (by rfl) (fun K hK=>?_);apply Exists.intro;refine ⟨fun W hW=>?_,hK _ ?_⟩;(focus (have hWB:Below _ _ W:=hW;obtain ⟨x1,xk,⟨z0,z1,z2,z3,z4,z5,z6,z7,z8,z9⟩⟩:=HS9.out _ hW;go_simp;(first | done | with_reducible rfl | (go_at_call 28;with_reducible exact gives_above hW (GI.out _ (bel2 hBw hWB))) | (rw [if_neg (by omega)];go_simp;(first | done | with_reducible rfl)))));clear hK K;(try simp only [Act.put,List.setIfInBounds_toArray,List.set_cons_zero,List.set_cons_succ])))
      refine wpQuiet_nil ?_
      intro w9 hB9
      replace hB9:Below _ _ w9:=hB9
      go_wp2
      go_ret
      exact ⟨by rw [HN2.out HO2.out];rfl,bel2 hBw hB9⟩
   ·obtain rfl:k=len:=by omega
    have HV:=Lib.hid (HY.out (by rw [HL.out];exact HAl.out))
    go_wp2
    go_ret
    exact ⟨by rw [HV.out];rfl,hBw⟩

set_option maxRecDepth 100000 in
set_option maxHeartbeats 4000000 in
theorem refSamePs_any (a1 a2:Option Addr) (n1 n2 k1 k2:Nat) (L M:List PL) (w:World) (h1:HasP w a1 n1 L) (h2:HasP w a2 n2 M) :
  Gives Tryz.prog 37 #[.slice a1 n1 k1,.slice a2 n2 k2] w (.bool (samePs L M)):=by
 obtain ⟨hL,hm1,hr1,hE1⟩:=h1
 obtain ⟨hM,hm2,hr2,hE2⟩:=h2
 have hc1:=hr1.2.2
 have hc2:=hr2.2.2
 have HE1:=Lib.hid hE1
 have HE2:=Lib.hid hE2
 clear hr1 hr2 hE1 hE2
 unfold Gives
 by_cases hne:n1=n2
 ·subst hne
  have HL:=Lib.hid hL
  have HM:=Lib.hid hM
  clear hL hM
  go_enter Tryz.func37,Tryz.ntmps37
  go_wp2
  go_loopw [5] (fun i wr=>∃ k:Nat,k≤n1∧i=.int .i64 k∧samePs (L.take k) (M.take k)=true∧Below w.heap.size w wr) (fun i _=>n1 - (intOf i).toNat)
  case atStart=>exact ⟨0,by omega,rfl,by simp [samePs],Below.refl _ _⟩
  case round =>
   obtain ⟨k,hk,rfl,ht,hB⟩:=hrel
   have HT:=Lib.hid ht
   clear ht
   by_cases hlt:k<n1
   ·obtain ⟨b1,o1,rfl,hb1,hx1⟩:=hc1 (by omega)
    obtain ⟨b2,o2,rfl,hb2,hx2⟩:=hc2 (by omega)
    have hkl:k<L.length:=by rw [HL.out];exact hlt
    have hkm:k<M.length:=by rw [HM.out];exact hlt
    have HS9:=Lib.hid (fun W (hW:Above wr W)=>And.intro (part_at10 hb1 (bel2 hB hW) hx1 hkl) (part_at10 hb2 (bel2 hB hW) hx2 hkm))
    have HS:=Lib.hid (show samePs (L.take (k+1)) (M.take (k+1))=(true && sameB L[k].1 M[k].1 L[k].2 M[k].2) by rw [samePs_take hkl hkm,HT.out])
    have HN:=Lib.hid (fun h=>samePs_no hkl hkm h)
    have hx:=HE1.out L[k] (List.getElem_mem _)
    have hy:=HE2.out M[k] (List.getElem_mem _)
    have G:=Lib.hid (fun W (hW:Below w.heap.size w W)=>refSame_any _ _ _ _ W (hx.below hW) (hy.below hW))
    have hk0:(0:Int)≤(k:Int):=by omega
    have hk1:(k:Int)<(n1:Int):=by omega
    clear hx hy hx1 hx2 hc1 hc2 HE1 HE2 HT
    generalize L[k]=x at *
    generalize M[k]=y at *
    obtain ⟨p,l⟩:=x
    obtain ⟨q,m⟩:=y
    dsimp only at *
    generalize hs:sameB p q l m=c at *
    clear hs
    obtain ⟨pg,pk,pa,plen,pcap,pht,phv,phc,pi,pt,pm,ph⟩:=p
    obtain ⟨qg,qk,qa,qlen,qcap,qht,qhv,qhc,qi,qt,qm,qh⟩:=q
    dsimp only [PartC.val] at *
    cases c
    ·have HN2:=Lib.hid (HN.out rfl)
     clear HN HS
     go_wp2
     refine wp_region_below (by kernel_rfl) (by kernel_rfl) ?_
     repeat (first
      | (refine BigFrame.wpQuiet_skip (by rfl) ?_;(try simp only [Act.put,List.setIfInBounds_toArray,List.set_cons_zero,List.set_cons_succ]))
      | (refine BigFrame.wpQuiet_want (by rfl) (fun K hK=>?_);apply Exists.intro;refine ⟨fun W hW=>?_,hK _ ?_⟩;(focus (have hWB:Below _ _ W:=hW;obtain ⟨⟨y0,y1,y2,y3,y4,y5,y6,y7,y8,y9⟩,⟨z0,z1,z2,z3,z4,z5,z6,z7,z8,z9⟩⟩:=HS9.out _ hW;go_simp;(first | done | with_reducible rfl | (go_at_call 65;with_reducible exact gives_above hW (G.out _ (bel2 hB hWB))) | (rw [if_neg (by omega)];go_simp;(first | done | with_reducible rfl)))));clear hK K;(try simp only [Act.put,List.setIfInBounds_toArray,List.set_cons_zero,List.set_cons_succ])))
     refine wpQuiet_nil ?_
     intro w9 hB9
     replace hB9:Below _ _ w9:=hB9
     go_wp2
     go_ret
     exact ⟨by rw [HN2.out];rfl,bel2 hB hB9⟩
    ·have HS2:=Lib.hid HS.out
     clear HN HS
     go_wp2
     refine wp_region_below (by kernel_rfl) (by kernel_rfl) ?_
     repeat (first
      | (refine BigFrame.wpQuiet_skip (by rfl) ?_;(try simp only [Act.put,List.setIfInBounds_toArray,List.set_cons_zero,List.set_cons_succ]))
      | (refine BigFrame.wpQuiet_want (by rfl) (fun K hK=>?_);apply Exists.intro;refine ⟨fun W hW=>?_,hK _ ?_⟩;(focus (have hWB:Below _ _ W:=hW;obtain ⟨⟨y0,y1,y2,y3,y4,y5,y6,y7,y8,y9⟩,⟨z0,z1,z2,z3,z4,z5,z6,z7,z8,z9⟩⟩:=HS9.out _ hW;go_simp;(first | done | with_reducible rfl | (go_at_call 65;with_reducible exact gives_above hW (G.out _ (bel2 hB hWB))) | (rw [if_neg (by omega)];go_simp;(first | done | with_reducible rfl)))));clear hK K;(try simp only [Act.put,List.setIfInBounds_toArray,List.set_cons_zero,List.set_cons_succ])))
     refine wpQuiet_nil ?_
     intro w9 hB9
     replace hB9:Below _ _ w9:=hB9
     go_wp2
     go_roundw
     case rel=>exact ⟨k+1,by omega,by go_num,HS2.out,bel2 hB hB9⟩
     case measure=>simp [intOf];omega
   ·obtain rfl:k=n1:=by omega
    have HV:=Lib.hid (show samePs L M=true by
     have:=HT.out
     rwa [List.take_of_length_le (by rw [HL.out];omega),List.take_of_length_le (by rw [HM.out];omega)] at this)
    go_wp2
    go_ret
    exact ⟨by rw [HV.out];rfl,hB⟩
 ·have HV:=Lib.hid (show samePs L M=false by rw [Bool.eq_false_iff];intro h;have:=samePs_len h;omega)
  go_enter Tryz.func37,Tryz.ntmps37
  go_wp2
  go_ret
  exact ⟨by rw [HV.out];rfl,Below.refl _ _⟩

set_option maxRecDepth 100000 in
set_option maxHeartbeats 1000000 in
theorem refSameR_any (s t:Int) (a1 a2:Option Addr) (n1 n2 k1 k2:Nat) (L M:List PL) (w:World) (h1:HasP w a1 n1 L) (h2:HasP w a2 n2 M) :
  Gives Tryz.prog 19 #[.agg #[.int .i64 s,.slice a1 n1 k1],.agg #[.int .i64 t,.slice a2 n2 k2]] w (.bool (sameR s t L M)):=by
 have G:=Lib.hid (fun W (hW:Below w.heap.size w W)=>refSamePs_any a1 a2 n1 n2 k1 k2 L M W (h1.below hW) (h2.below hW))
 have hBw:=bel_alloc (bel_alloc (Below.refl w.heap.size w) (.cells #[.int .i64 s,.slice a1 n1 k1] 24)) (.cells #[.int .i64 t,.slice a2 n2 k2] 24)
 clear h1 h2
 unfold Gives sameR
 by_cases e:s=t
 ·subst e
  go_enter Tryz.func19,Tryz.ntmps19
  go_wp2_with (go_at_call 37;((with_reducible refine (G.out _ hBw).mono ?_);rintro e w1 ⟨rfl,hB1⟩))
  go_ret
  exact ⟨by simp,bel2 hBw hB1⟩
 ·go_enter Tryz.func19,Tryz.ntmps19
  go_wp2
  go_ret
  exact ⟨by simp [e],hBw⟩

end Go.Proofs.YtpogklceaoiacaaGreat

/- The contract of the document's Bytes of a record. -/
namespace Go.Proofs.YtpogklceaoiacaaGreat
open Go.RowKit Go.Shelf
set_option linter.unusedVariables false
attribute [local go_sem] Oper.semAt_some wide_fn wide_round_fn

attribute [local irreducible] wpQuiet
set_option maxRecDepth 100000 in
set_option maxHeartbeats 4000000 in
theorem refRecBytes_any (s:Int) (a:Option Addr) (len cap:Nat) (L:List PL) (w:World) (h:HasP w a len L):Gives Tryz.prog 6 #[.agg #[.int .i64 s,.slice a len cap]] w (.tuple #[.string (recS s L),.int .i64 (recE s L)]):=by
 have GI:=Lib.hid (fun W (hW:Below w.heap.size w W)=>refIsRec_any s a len cap L W (h.below hW))
 unfold Gives recS recE
 by_cases hok:recB s L=true
 ·obtain ⟨⟨s1,s2⟩,⟨l1,l2⟩,hall⟩:=recB_iff.1 hok
  obtain ⟨z1,z2⟩:=bodyL_len (fun x hx=>(h.2.2.2 x hx).1) hok
  have GW:=Lib.hid (refWrap_ok (bodyS s L) (by show 0<(bodyL s L).length;omega) (by show (bodyL s L).length≤2000;omega))
  rw [if_pos hok,if_pos hok]
  rw [hok] at GI
  obtain ⟨hL,hm,hrow,hE⟩:=h
  rw [hL] at l1 l2
  obtain ⟨b,off,rfl,hb,hx⟩:=hrow.2.2 l1
  have HX:=Lib.hid hx
  have HE:=Lib.hid (show ∀ x ∈ L,HasE w x.1 x.2∧isB x.1 x.2=true from fun x hx=>⟨hE x hx,okR_isB (hall x hx)⟩)
  have HL:=Lib.hid hL
  obtain ⟨X1,e1,y1,G1⟩:=putV s (by omega)
  obtain ⟨X2,e2,y2,G2⟩:=putV (len:Int) (by omega)
  have HP:=Lib.hid (show (X1 ++ X2).data.toList=sevL s.toNat ++ sevL L.length by rw [e1,e2,mkB_app,hL];simp [mkB])
  have hzP:(X1 ++ X2).size≤18:=by rw [ByteArray.size_append];omega
  replace G1:=Lib.hid G1;replace G2:=Lib.hid G2
  have hA:=bel_alloc (Below.refl w.heap.size w) (.cells #[.int .i64 s,.slice (some ⟨b,off,none⟩) len cap] 24)
  clear hok s1 s2 z1 z2 hall hrow hE hx hL e1 e2
  go_enter Tryz.func6,Tryz.ntmps6
  go_wp2_with (go_at_call 14;((with_reducible refine (GI.out _ hA).mono ?_);rintro e w1 ⟨rfl,hB1⟩))
  have hs1:w.heap.size<w1.heap.size:=Nat.lt_of_lt_of_le (by simp) hB1.size
  have HS:=Lib.hid (fun W (hW:Above w1 W)=>And.intro ((Below.cell hW (p:=⟨w.heap.size,0,none⟩) hs1).trans (blk_cell hB1 0)) ((Below.cell hW (p:=⟨w.heap.size,1,none⟩) hs1).trans (blk_cell hB1 1)))
  simp only [List.getElem?_toArray,List.getElem?_cons_zero,List.getElem?_cons_succ] at HS
  refine wp_region_below (by kernel_rfl) (by kernel_rfl) ?_
  repeat (first
   | (refine BigFrame.wpQuiet_skip (by rfl) ?_;(try simp only [Act.put,List.setIfInBounds_toArray,List.set_cons_zero,List.set_cons_succ]))
   | (refine BigFrame.wpQuiet_want (by rfl) (fun K hK=>?_);apply Exists.intro;refine ⟨fun W hW=>?_,hK _ ?_⟩;(focus (obtain ⟨z0,z1⟩:=HS.out _ hW;go_simp;(first | done | with_reducible rfl | ((go_at_call 15;first | with_reducible exact gives_above hW (G1.out _) | with_reducible exact gives_above hW (G2.out _))) | (rw [if_neg (by omega)];go_simp;(first | done | with_reducible rfl)))));clear hK K;(try simp only [Act.put,List.setIfInBounds_toArray,List.set_cons_zero,List.set_cons_succ])))
  refine wpQuiet_nil ?_
  intro w2 hB2
  replace hB2:Below _ _ w2:=hB2
  have hBA:=bel2 hB1 hB2
  go_wp2
  go_loopw [4,5] (fun ss q wr=>∃ (k:Nat) (S:ByteArray),k≤len∧q=.int .i64 k∧ss=.string S∧S.data.toList=(X1 ++ X2).data.toList ++ allB (L.take k)∧S.size≤18+483 * k∧Below (w.alloc (.cells #[.int .i64 s,.slice (some ⟨b,off,none⟩) len cap] 24)).heap.size (w.alloc (.cells #[.int .i64 s,.slice (some ⟨b,off,none⟩) len cap] 24)) wr) (fun _ q _=>len - (intOf q).toNat)
  case atStart=>exact ⟨0,X1 ++ X2,by omega,rfl,rfl,by simp [allB],by omega,hBA⟩
  case round =>
   obtain ⟨k,S,hk,rfl,rfl,hS,hz,hBA⟩:=hrel
   have HSl:=Lib.hid hS
   have hBw:=blk_below hBA
   have x1:wr.cell? ⟨w.heap.size,1,none⟩=some (.slice (some ⟨b,off,none⟩) len cap):=blk_cell hBA 1
   clear hS hB1 hB2 HS
   by_cases hlt:k<len
   ·have hkl:k<L.length:=by rw [HL.out];exact hlt
    obtain ⟨c0,c1,c2,c3,c4,c5,c6,c7,c8,c9⟩:=part_at10 hb hBw HX.out hkl
    obtain ⟨hEk,hIk⟩:=HE.out L[k] (List.getElem_mem hkl)
    have HT:=Lib.hid (show allB (L.take (k+1))=allB (L.take k) ++ bytP L[k] by rw [List.take_succ_eq_append_getElem hkl,allB_snoc])
    have hbz:=bytP_len hEk.1 hIk
    clear HX HE HL
    generalize L[k]=x at *
    obtain ⟨p,l⟩:=x
    dsimp only at *
    have GB:=Lib.hid (fun W (hW:Below w.heap.size w W)=>refBytes_any p l W (hEk.below hW) hIk)
    have hXs:(mkB (bytesL p l)).size≤483:=by rw [size_mkB];exact hbz
    have HX2:=Lib.hid (show (mkB (bytesL p l)).data.toList=bytP (p,l) from by simp [mkB,bytP])
    generalize mkB (bytesL p l)=X at *
    have HSN:=Lib.hid (show (S ++ X).data.toList=(X1 ++ X2).data.toList ++ allB (L.take (k+1)) by rw [HT.out,← HX2.out,← List.append_assoc,← HSl.out];simp)
    have hSz:(S ++ X).size≤18+483 * (k+1):=by rw [ByteArray.size_append];omega
    obtain ⟨pg,pk,pa,plen,pcap,pht,phv,phc,pi,pt,pm,ph⟩:=p
    dsimp only [PartC.val] at *
    clear hEk hIk hbz
    go_wp2_with (go_at_call 16;((with_reducible refine (GB.out _ hBw).mono ?_);rintro e w4 ⟨rfl,hB4⟩))
    go_roundw
    case rel=>exact ⟨k+1,_,by omega,by go_num,rfl,HSN.out,hSz,bel2 hBA hB4⟩
    case measure=>simp [intOf];omega
   ·obtain rfl:k=len:=by omega
    obtain rfl:S=bodyS s L:=by
     have h1:=HSl.out
     rw [List.take_of_length_le (by rw [HL.out];omega),HP.out,List.append_assoc] at h1
     exact ByteArray.ext (Array.toList_inj.1 (by rw [h1];simp [bodyS,bodyL]))
    go_wp2_with (go_at_call 17;((with_reducible refine (GW.out _).mono ?_);rintro e w5 ⟨rfl,hB5⟩))
    go_ret2
    exact ⟨rfl,bel2 hBw hB5⟩
 ·rw [if_neg hok,if_neg hok]
  rw [Bool.eq_false_iff.2 hok] at GI
  have hA:=bel_alloc (Below.refl w.heap.size w) (.cells #[.int .i64 s,.slice a len cap] 24)
  clear hok h
  go_enter Tryz.func6,Tryz.ntmps6
  go_wp2_with (go_at_call 14;((with_reducible refine (GI.out _ hA).mono ?_);rintro e w1 ⟨rfl,hB1⟩;replace hA:=bel2 hA hB1))
  go_ret2
  exact ⟨rfl,hA⟩

end Go.Proofs.YtpogklceaoiacaaGreat

/- The contract of the document's Read of a record. -/
namespace Go.Proofs.YtpogklceaoiacaaGreat
open Go.RowKit Go.Shelf
set_option linter.unusedVariables false
attribute [local go_sem] Oper.semAt_some wide_fn wide_round_fn

theorem numM_seq (x:ByteArray):numM x ⟨0,0⟩=((seqM x).1,⟨(seqM x).2.1,(seqM x).2.2⟩):=by
 unfold numM seqM;simp
theorem numM_cnt {x:ByteArray} {k:Nat} (h:(seqM x).2.1=k):numM x ⟨k,0⟩=((cntM x).1,⟨k+(cntM x).2.1,(cntM x).2.2⟩):=by
 unfold numM cntM;rw [h,restB_list];simp
theorem refRec_no {s x:ByteArray} {n:Nat} (hF:readF s=(x,n,1)) (h:refOk x=false):recM s=(0,[],0,4):=by
 unfold recM;rw [hF];dsimp only;rw [if_neg (by simp),if_neg]
 intro hh;rw [(refOk_iff x).2 hh] at h;cases h
theorem refRec_yes {s x:ByteArray} {n:Nat} (hF:readF s=(x,n,1)) (h:refOk x=true):recM s=((openM x).1,(openM x).2,n,1):=by
 unfold recM;rw [hF];dsimp only;rw [if_neg (by simp),if_pos ((refOk_iff x).1 h)]
theorem refOk_short {x:ByteArray} {q k e1 m k2 e2:Nat} (h1:seqM x=(q,k,e1)) (h2:numM x ⟨k,e1⟩=(m,⟨k2,e2⟩)) (h:e2≠0∨4<m):refOk x=false:=by
 unfold refOk
 by_cases he:e1=0
 ·subst he
  rw [numM_cnt (by rw [h1])] at h2
  obtain ⟨h3,h4,h5⟩:(cntM x).1=m∧k+(cntM x).2.1=k2∧(cntM x).2.2=e2:=by simpa using h2
  rw [h3,h5,h1]
  rcases h with h | h
  ·simp [h]
  ·simp [show ¬ m≤4 by omega]
 ·rw [h1];simp [he]
theorem refOk_full {x:ByteArray} {q k e1 m k2:Nat} (h1:seqM x=(q,k,e1)) (h2:numM x ⟨k,e1⟩=(m,⟨k2,0⟩)) (hm:m≤4):refOk x=((refParts x m k2).2.2 && (decide ((refParts x m k2).2.1=x.size) && recB q ((refParts x m k2).1.map plOf)))∧openM x=((q:Int),(refParts x m k2).1):=by
 have he:e1=0:=by
  by_cases he:e1=0
  ·exact he
  ·unfold numM at h2;rw [if_pos he] at h2;simp at h2;exact h2.2.2
 subst he
 rw [numM_cnt (by rw [h1])] at h2
 obtain ⟨h3,h4,h5⟩:(cntM x).1=m∧k+(cntM x).2.1=k2∧(cntM x).2.2=0:=by simpa using h2
 constructor
 ·unfold refOk;rw [h3,h5,h1];dsimp only;rw [h4];simp [hm]
 ·unfold openM;rw [h3,h5,h1];dsimp only;rw [if_neg (by omega),h4,refParts_fst]
theorem refOk_not {x:ByteArray} {q k e1 m k2:Nat} (h1:seqM x=(q,k,e1)) (h2:numM x ⟨k,e1⟩=(m,⟨k2,0⟩)) (h:∃ L p b,refParts x m k2=(L,p,b)∧(b=false∨p≠x.size∨recB q (L.map plOf)=false)):refOk x=false:=by
 by_cases hm:m≤4
 ·obtain ⟨L,p,b,hp,h⟩:=h
  rw [(refOk_full h1 h2 hm).1,hp]
  rcases h with h | h | h <;> simp [h]
 ·exact refOk_short h1 h2 (.inr (by omega))
theorem refRec_full {s x:ByteArray} {n q k e1 m k2:Nat} (hF:readF s=(x,n,1)) (h1:seqM x=(q,k,e1)) (h2:numM x ⟨k,e1⟩=(m,⟨k2,0⟩)) (hm:m≤4) {L:List ReadC} (h:refParts x m k2=(L,x.size,true)∧recB q (L.map plOf)=true):recM s=((q:Int),L,n,1):=by
 obtain ⟨h3,h4⟩:=refOk_full h1 h2 hm
 rw [h.1] at h3 h4
 rw [refRec_yes hF (by rw [h3];simp [h.2]),h4]
theorem refParts_snoc {x:ByteArray} {m k2 j p0 jj:Nat} {r:ReadC} {pre:List PL} (h:refParts x m k2=(pre.map core ++ (refParts x (m - j) p0).1,(refParts x (m - j) p0).2)) (hj:j<m) (hr:readM (restB x p0)=(r,jj,0)) :
  refParts x m k2=((pre.map core ++ [r]) ++ (refParts x (m - (j+1)) (p0+jj)).1,(refParts x (m - (j+1)) (p0+jj)).2):=by
 rw [h,show m - j=(m - (j+1))+1 by omega,refParts_yes hr];simp
theorem refParts_stop {x:ByteArray} {m k2 j p0:Nat} {L:List ReadC} (h:refParts x m k2=(L ++ (refParts x (m - j) p0).1,(refParts x (m - j) p0).2)) (hj:j<m) (hr:(readM (restB x p0)).2.2≠0):refParts x m k2=(L,p0,false):=by
 rw [h,show m - j=(m - (j+1))+1 by omega,refParts_no hr];simp
theorem refParts_done {x:ByteArray} {m k2 p0:Nat} {L:List ReadC} (h:refParts x m k2=(L ++ (refParts x (m - m) p0).1,(refParts x (m - m) p0).2)):refParts x m k2=(L,p0,true):=by
 rw [h,Nat.sub_self];simp [refParts]
theorem opV_set {w W:World} {R X C B i:Nat} {q:Int} {v:Value} {pre:List PL} (u:Value) (h:opV w R X C q v pre W) (hB:w.heap.size≤B∧B<C∧B≠X∧B≠R):opV w R X C q v pre (W.setCell ⟨B,i,none⟩ u):=by
 obtain ⟨h1,h2,h3,h4,h5,h6⟩:=h
 have hF:=FrameT.setCell W B i u
 refine ⟨hF.get h1 (fun e=>hB.2.2.1 e.symm),h2.kept (row:=some B) ⟨rfl,rfl,rfl,hF.size,fun k hk hne=>hF.block k hk (fun e=>hne (congrArg some e))⟩ (.inr (fun e=>by have:=(ownBlock_lt h2 e.symm).2.1;omega)),fun x hx=>⟨(h3 x hx).1.frame hF (fun k hk e=>by have:=((h3 x hx).2 k hk).1;omega),(h3 x hx).2⟩,hF.get h4 (fun e=>hB.2.2.2 e.symm),h5.trans (hF.toBelow h5.size (fun k hk=>by omega)),Nat.le_trans h6 hF.size⟩
theorem CurAt.move {b k m:Nat} {s:ByteArray} {w:World} (h:CurAt b s ⟨k,0⟩ w) {K:Int} (hK:K=((k+m:Nat):Int)):CurAt b s ⟨k+m,0⟩ (w.setCell ⟨b,1,none⟩ (.int .i64 K)):=by
 subst hK
 exact heap_setCell_same w b 1 _ _ _ h

set_option maxRecDepth 100000 in
set_option maxHeartbeats 8000000 in
theorem refRecRead_any (s:ByteArray) (hs:s.size<4611686018427387904) (w:World):Calls Tryz.prog 18 #[.string s] w (RecPost s w):=by
 obtain ⟨x,n,c,hF⟩:∃ x n c,readF s=(x,n,c):=⟨_,_,_,rfl⟩
 have hx:x.size≤s.size:=by have:=readF_size s;rw [hF] at this;exact this
 have g0:=fun W=>refRead_any s (by omega) W
 rw [hF] at g0
 by_cases hc:c=1
 ·subst hc
  have GF:=Lib.hid (fun W=>(show Gives Tryz.prog 34 #[.string s] W (.tuple #[.string x,.int .i64 n,.int .i64 1]) from g0 W))
  have HF:=Lib.hid hF
  clear hF g0
  obtain ⟨q,k,e1,h1⟩:∃ q k e1,seqM x=(q,k,e1):=⟨_,_,_,rfl⟩
  have hn1:=numM_seq x
  have ok0:RSt.ok x ⟨0,0⟩:=⟨Nat.zero_le _,Nat.zero_le _⟩
  have ok1:=numM_ok ok0
  rw [h1] at hn1
  rw [hn1] at ok1
  dsimp only at hn1 ok1
  have ok2:=numM_ok ok1
  have hmm:=numM_lt x ⟨k,e1⟩
  obtain ⟨m,⟨k2,e2⟩,hn2⟩:∃ m st,numM x ⟨k,e1⟩=(m,st):=⟨_,_,rfl⟩
  rw [hn2] at ok2 hmm
  dsimp only at hmm
  have hk2:k2≤x.size:=ok2.1
  have he2:e2≤12:=ok2.2
  have G1:=Lib.hid (fun (B:Nat) W (hW:CurAt B x ⟨0,0⟩ W)=>(show CReads 35 #[.pointer (some ⟨B,0,none⟩)] B x W (.int .i64 q) ⟨k,e1⟩ from by have:=curNum_any B x (by omega) ⟨0,0⟩ ok0 W hW;rwa [hn1] at this))
  have G2:=Lib.hid (fun (B:Nat) W (hW:CurAt B x ⟨k,e1⟩ W)=>(show CReads 35 #[.pointer (some ⟨B,0,none⟩)] B x W (.int .i64 m) ⟨k2,e2⟩ from by have:=curNum_any B x (by omega) ⟨k,e1⟩ ok1 W hW;rwa [hn2] at this))
  by_cases hsh:e2≠0∨4<m
  ·have HNo:=Lib.hid (refRec_no HF.out (refOk_short h1 hn2 hsh))
   clear h1 hn1 hn2 ok0 ok1 ok2
   by_cases he:e2=0
   ·subst he
    have h4:(4:Int)<(m:Int):=by omega
    clear hsh
    go_enter Tryz.func18,Tryz.ntmps18
    go_wp2_with (first
     | (go_at_call 34;((with_reducible refine (GF.out _).mono ?_);rintro e w1 ⟨rfl,hB1⟩;have hr1:=rec_block hB1;have hA1:=bel2 (bel_alloc (Below.refl w.heap.size w) (.cells #[.int .i64 0,.slice none 0 0] 24)) hB1;have hcb:=bel_alloc (Below.refl w1.heap.size w1) (.cells #[.string x,.int .i64 0,.int .i64 0] 68);have H0:CurAt w1.heap.size x ⟨0,0⟩ (w1.alloc (.cells #[.string x,.int .i64 0,.int .i64 0] 68)):=World.alloc_heap_new w1 _;have hr2:=(hcb.block _ (heap_lt hr1)).trans hr1;have hRC:=heap_lt hr1;have hA2:=bel2 hA1 hcb;clear hcb))
     | (go_at_call 35;((with_reducible refine (G1.out _ _ H0).mono ?_);rintro e w2 ⟨rfl,H1,hF⟩;have hr3:=hF.get hr2 (show w.heap.size≠w1.heap.size from Nat.ne_of_lt hRC);have hA3:=hA2.trans (hF.toBelow hA2.size (fun k (hk:k=w1.heap.size)=>Nat.le_trans (Nat.le_of_lt hRC) (Nat.le_of_eq hk.symm)));have hXb:=H1.lt;have hxa:=bel_alloc (Below.refl w2.heap.size w2) (.cells #[.int .i64 q,.slice none 0 0] 24);have H1a:=H1.below hxa;have hX3:=World.alloc_heap_new w2 (.cells #[.int .i64 q,.slice none 0 0] 24);have hr4:=(hxa.block _ (heap_lt hr3)).trans hr3;have hA4:=bel2 hA3 hxa;have hs4:(w2.alloc (.cells #[.int .i64 q,.slice none 0 0] 24)).heap.size=w2.heap.size+1:=(by simp);clear hF hxa))
     | (go_at_call 35;((with_reducible refine (G2.out _ _ H1a).mono ?_);rintro e w3 ⟨rfl,H2,hF⟩;have hr:=hF.get hr4 (show w.heap.size≠w1.heap.size from Nat.ne_of_lt hRC);have hX:=hF.get hX3 (show w2.heap.size≠w1.heap.size from Nat.ne_of_gt hXb);have hA:=hA4.trans (hF.toBelow hA4.size (fun k (hk:k=w1.heap.size)=>Nat.le_trans (Nat.le_of_lt hRC) (Nat.le_of_eq hk.symm)));have hs3:=hF.size;rw [hs4] at hs3;clear hF hs4;obtain ⟨k0,k1,kz,kf1,kf2⟩:=H2.cells;dsimp only at k0 k1 kz;have c0:w3.cell? ⟨w.heap.size,0,none⟩=some (.int .i64 0):=cell_of_row _ _ 0 _ _ _ hr;have c1:w3.cell? ⟨w.heap.size,1,none⟩=some (.slice none 0 0):=cell_of_row _ _ 1 _ _ _ hr;have f0:w3.frozen? ⟨w.heap.size,0,none⟩=false:=frozen_of_row _ _ 0 _ _ hr;have f1:w3.frozen? ⟨w.heap.size,1,none⟩=false:=frozen_of_row _ _ 1 _ _ hr)))
    refine bodyPost_ret (v:=.tuple #[.agg #[.int .i64 0,.slice none 0 0],.int .i64 0,.int .i64 4]) (by simp [results,Tryz.results18,go_sem,c0,c1]) rfl ?_
    exact recPost_bad HNo.out rfl ((hA.setCell (p:=⟨w.heap.size,0,none⟩) (Nat.le_refl _) _).setCell (p:=⟨w.heap.size,1,none⟩) (Nat.le_refl _) _)
   ·have y1:((e2:Int) == 0)=false:=by rw [beq_eq_false_iff_ne];omega
    have y2:((e2:Int) != 0)=true:=by rw [bne_iff_ne];omega
    clear he hsh
    go_enter Tryz.func18,Tryz.ntmps18
    go_wp2_with (first
     | (go_at_call 34;((with_reducible refine (GF.out _).mono ?_);rintro e w1 ⟨rfl,hB1⟩;have hr1:=rec_block hB1;have hA1:=bel2 (bel_alloc (Below.refl w.heap.size w) (.cells #[.int .i64 0,.slice none 0 0] 24)) hB1;have hcb:=bel_alloc (Below.refl w1.heap.size w1) (.cells #[.string x,.int .i64 0,.int .i64 0] 68);have H0:CurAt w1.heap.size x ⟨0,0⟩ (w1.alloc (.cells #[.string x,.int .i64 0,.int .i64 0] 68)):=World.alloc_heap_new w1 _;have hr2:=(hcb.block _ (heap_lt hr1)).trans hr1;have hRC:=heap_lt hr1;have hA2:=bel2 hA1 hcb;clear hcb))
     | (go_at_call 35;((with_reducible refine (G1.out _ _ H0).mono ?_);rintro e w2 ⟨rfl,H1,hF⟩;have hr3:=hF.get hr2 (show w.heap.size≠w1.heap.size from Nat.ne_of_lt hRC);have hA3:=hA2.trans (hF.toBelow hA2.size (fun k (hk:k=w1.heap.size)=>Nat.le_trans (Nat.le_of_lt hRC) (Nat.le_of_eq hk.symm)));have hXb:=H1.lt;have hxa:=bel_alloc (Below.refl w2.heap.size w2) (.cells #[.int .i64 q,.slice none 0 0] 24);have H1a:=H1.below hxa;have hX3:=World.alloc_heap_new w2 (.cells #[.int .i64 q,.slice none 0 0] 24);have hr4:=(hxa.block _ (heap_lt hr3)).trans hr3;have hA4:=bel2 hA3 hxa;have hs4:(w2.alloc (.cells #[.int .i64 q,.slice none 0 0] 24)).heap.size=w2.heap.size+1:=(by simp);clear hF hxa))
     | (go_at_call 35;((with_reducible refine (G2.out _ _ H1a).mono ?_);rintro e w3 ⟨rfl,H2,hF⟩;have hr:=hF.get hr4 (show w.heap.size≠w1.heap.size from Nat.ne_of_lt hRC);have hX:=hF.get hX3 (show w2.heap.size≠w1.heap.size from Nat.ne_of_gt hXb);have hA:=hA4.trans (hF.toBelow hA4.size (fun k (hk:k=w1.heap.size)=>Nat.le_trans (Nat.le_of_lt hRC) (Nat.le_of_eq hk.symm)));have hs3:=hF.size;rw [hs4] at hs3;clear hF hs4;obtain ⟨k0,k1,kz,kf1,kf2⟩:=H2.cells;dsimp only at k0 k1 kz;have c0:w3.cell? ⟨w.heap.size,0,none⟩=some (.int .i64 0):=cell_of_row _ _ 0 _ _ _ hr;have c1:w3.cell? ⟨w.heap.size,1,none⟩=some (.slice none 0 0):=cell_of_row _ _ 1 _ _ _ hr;have f0:w3.frozen? ⟨w.heap.size,0,none⟩=false:=frozen_of_row _ _ 0 _ _ hr;have f1:w3.frozen? ⟨w.heap.size,1,none⟩=false:=frozen_of_row _ _ 1 _ _ hr)))
    refine bodyPost_ret (v:=.tuple #[.agg #[.int .i64 0,.slice none 0 0],.int .i64 0,.int .i64 4]) (by simp [results,Tryz.results18,go_sem,c0,c1]) rfl ?_
    exact recPost_bad HNo.out rfl ((hA.setCell (p:=⟨w.heap.size,0,none⟩) (Nat.le_refl _) _).setCell (p:=⟨w.heap.size,1,none⟩) (Nat.le_refl _) _)
  ·obtain rfl:e2=0:=by omega
   have hm4:m≤4:=by omega
   have hmi:(m:Int)≤4:=by omega
   have HNo:=Lib.hid (show (∃ L p b,refParts x m k2=(L,p,b)∧(b=false∨p≠x.size∨recB q (L.map plOf)=false))→recM s=(0,[],0,4) from fun h=>refRec_no HF.out (refOk_not h1 hn2 h))
   have HYes:=Lib.hid (show ∀ L:List ReadC,refParts x m k2=(L,x.size,true)∧recB q (L.map plOf)=true→recM s=((q:Int),L,n,1) from fun L h=>refRec_full HF.out h1 hn2 hm4 h)
   obtain ⟨i0,hi,hz0,hz1,hz2⟩:=info_parts infoPart
   clear h1 hn1 hn2 ok0 ok1 ok2 hsh
   go_enter Tryz.func18,Tryz.ntmps18
   go_wp2_with (first
    | (go_at_call 34;((with_reducible refine (GF.out _).mono ?_);rintro e w1 ⟨rfl,hB1⟩;have hr1:=rec_block hB1;have hA1:=bel2 (bel_alloc (Below.refl w.heap.size w) (.cells #[.int .i64 0,.slice none 0 0] 24)) hB1;have hcb:=bel_alloc (Below.refl w1.heap.size w1) (.cells #[.string x,.int .i64 0,.int .i64 0] 68);have H0:CurAt w1.heap.size x ⟨0,0⟩ (w1.alloc (.cells #[.string x,.int .i64 0,.int .i64 0] 68)):=World.alloc_heap_new w1 _;have hr2:=(hcb.block _ (heap_lt hr1)).trans hr1;have hRC:=heap_lt hr1;have hA2:=bel2 hA1 hcb;clear hcb))
    | (go_at_call 35;((with_reducible refine (G1.out _ _ H0).mono ?_);rintro e w2 ⟨rfl,H1,hF⟩;have hr3:=hF.get hr2 (show w.heap.size≠w1.heap.size from Nat.ne_of_lt hRC);have hA3:=hA2.trans (hF.toBelow hA2.size (fun k (hk:k=w1.heap.size)=>Nat.le_trans (Nat.le_of_lt hRC) (Nat.le_of_eq hk.symm)));have hXb:=H1.lt;have hxa:=bel_alloc (Below.refl w2.heap.size w2) (.cells #[.int .i64 q,.slice none 0 0] 24);have H1a:=H1.below hxa;have hX3:=World.alloc_heap_new w2 (.cells #[.int .i64 q,.slice none 0 0] 24);have hr4:=(hxa.block _ (heap_lt hr3)).trans hr3;have hA4:=bel2 hA3 hxa;have hs4:(w2.alloc (.cells #[.int .i64 q,.slice none 0 0] 24)).heap.size=w2.heap.size+1:=(by simp);clear hF hxa))
    | (go_at_call 35;((with_reducible refine (G2.out _ _ H1a).mono ?_);rintro e w3 ⟨rfl,H2,hF⟩;have hr:=hF.get hr4 (show w.heap.size≠w1.heap.size from Nat.ne_of_lt hRC);have hX:=hF.get hX3 (show w2.heap.size≠w1.heap.size from Nat.ne_of_gt hXb);have hA:=hA4.trans (hF.toBelow hA4.size (fun k (hk:k=w1.heap.size)=>Nat.le_trans (Nat.le_of_lt hRC) (Nat.le_of_eq hk.symm)));have hs3:=hF.size;rw [hs4] at hs3;clear hF hs4;obtain ⟨k0,k1,kz,kf1,kf2⟩:=H2.cells;dsimp only at k0 k1 kz;have c0:w3.cell? ⟨w.heap.size,0,none⟩=some (.int .i64 0):=cell_of_row _ _ 0 _ _ _ hr;have c1:w3.cell? ⟨w.heap.size,1,none⟩=some (.slice none 0 0):=cell_of_row _ _ 1 _ _ _ hr;have f0:w3.frozen? ⟨w.heap.size,0,none⟩=false:=frozen_of_row _ _ 0 _ _ hr;have f1:w3.frozen? ⟨w.heap.size,1,none⟩=false:=frozen_of_row _ _ 1 _ _ hr)))
   have hop0:opV w w.heap.size w2.heap.size w3.heap.size q (.slice none 0 0) [] w3:=⟨hX,World.ownsRow_nil _ _ _ _,(fun x hx=>by cases hx),hr,hA,Nat.le_refl _⟩
   have hC:w.heap.size≤w.heap.size∧w.heap.size<w2.heap.size∧w2.heap.size<w3.heap.size:=by omega
   have hBs:w.heap.size≤w1.heap.size∧w1.heap.size<w3.heap.size∧w1.heap.size≠w2.heap.size∧w1.heap.size≠w.heap.size:=by omega
   have hle:w.heap.size≤w3.heap.size:=by omega
   clear c0 c1 f0 f1 k0 k1 kz kf1 kf2 hX hr hA hA1 hA2 hA3 hA4 hr1 hr2 hr3 hr4 hX3 H0 H1 H1a hs3 hB1
   go_loopw [11] (fun i wr=>∃ (j p0:Nat) (v:Value) (pre:List PL),j≤m∧i=.int .i64 j∧p0≤x.size∧CurAt w1.heap.size x ⟨p0,0⟩ wr∧opV w w.heap.size w2.heap.size w3.heap.size q v pre wr∧pre.length=j∧refParts x m k2=(pre.map core ++ (refParts x (m - j) p0).1,(refParts x (m - j) p0).2)) (fun i _=>m - (intOf i).toNat)
   case atStart=>exact ⟨0,k2,_,[],by omega,rfl,hk2,H2,hop0,rfl,by simp⟩
   case round =>
    obtain ⟨j,p0,v,pre,hj,rfl,hat,Hc,hop,hpl,hrp⟩:=hrel
    clear H2 hop0
    have HPL:=Lib.hid hpl
    have hp4:pre.length≤4:=by omega
    clear hpl
    obtain ⟨d0,d1,d2,g1,g2⟩:=Hc.cells
    dsimp only at d0 d1 d2
    have hrow:=hop.2.1
    have hCs:=hop.2.2.2.2.2
    have hr:=hop.2.2.2.1
    obtain ⟨va,vc,rfl,_,hrv⟩:=rowV_own hrow
    by_cases hlt:j<m
    ·obtain ⟨⟨r,jj,ee⟩,hR⟩:∃ y,readM (restB x p0)=y:=⟨_,rfl⟩
     have hjj:=readM_le (restB x p0)
     rw [hR,restB_size x p0 hat] at hjj
     dsimp only at hjj
     have gR:=fun W=>refReadPart_any (restB x p0) (by rw [restB_size x p0 hat];omega) W
     unfold ReadPost at gR
     rw [hR] at gR
     rw [show restB x p0=x.extract p0 x.size from rfl] at gR
     have GR:=Lib.hid gR
     clear gR
     have hp1:(p0:Int)≤(x.size:Int):=by omega
     by_cases he:ee=0
     ·subst he
      have HRp:=Lib.hid (refParts_snoc hrp hlt hR)
      clear hrp hR hrv hr
      obtain ⟨rg,rk,l,rht,rhv,rhc,ri,rt,rm,rh⟩:=r
      dsimp only [ReadC.part,PartC.val] at GR
      have HOp:=Lib.hid hop
      have HCu:=Lib.hid Hc
      clear hop Hc d2 g2 d1 g1
      have hjm:(j:Int)<(m:Int):=by omega
      have d1:=HCu.out.cells.2.1
      dsimp only at d1
      go_wp2_with (first
       | (go_at_call 36;((with_reducible refine (GR.out _).mono ?_);rintro e w4 ⟨xa,xc,rfl,hxE,hB4,hxN⟩;have hb4:=hB4.size;have hBa:=bel2 hB4 (bel_alloc (Below.refl w4.heap.size w4) (.cells #[.int .i64 rg,.int .i64 rk,.slice xa l.length xc,.int .i64 rht,.int .i64 rhv,.int .i64 rhc,.int .i64 ri,.int .i64 rt,.bool rm,.bool rh] 37));have hop4:=opV_stab hle _ _ HOp.out (FrameT.below hBa).moves;have H4:=HCu.out.below hBa;have hP4:=World.alloc_heap_new w4 (.cells #[.int .i64 rg,.int .i64 rk,.slice xa l.length xc,.int .i64 rht,.int .i64 rhv,.int .i64 rhc,.int .i64 ri,.int .i64 rt,.bool rm,.bool rh] 37);obtain ⟨d0,d1,d2,d3,d4,d5,d6,d7,d8,d9⟩:=arr10q hP4;have hrow4:=hop4.2.1;have cx4:(w4.alloc (.cells #[.int .i64 rg,.int .i64 rk,.slice xa l.length xc,.int .i64 rht,.int .i64 rhv,.int .i64 rhc,.int .i64 ri,.int .i64 rt,.bool rm,.bool rh] 37)).cell? ⟨w2.heap.size,1,none⟩=some (.slice va pre.length vc):=cell_of_row _ _ 1 _ _ _ hop4.1;have HXE:=Lib.hid (hxE.below (bel_alloc (Below.refl w4.heap.size w4) (.cells #[.int .i64 rg,.int .i64 rk,.slice xa l.length xc,.int .i64 rht,.int .i64 rhv,.int .i64 rhc,.int .i64 ri,.int .i64 rt,.bool rm,.bool rh] 37)));have HXN:=Lib.hid (show ∀ k,inBlkE xa l.length k→w3.heap.size≤k∧some k≠(Value.slice va pre.length vc).ownBlock from fun k hk=>⟨by have:=hxN k hk;omega,fun e=>by have:=(ownBlock_lt hrow e).1;have:=hxN k hk;omega⟩);have HOp4:=Lib.hid hop4;have HH4:=Lib.hid H4;clear hxE hxN hop4 H4 d1 hP4))
       | (at_builtin;refine wpList_append_own_at _ rfl _ _ 22 rfl w3.heap.size 37 i0 (.agg #[.int .i64 0,.int .i64 0,.slice none 0 0,.int .i64 0,.int .i64 0,.int .i64 0,.int .i64 0,.int .i64 0,.bool false,.bool false]) 10 88 Tryz.underlying22 hi hz0 hz1 hz2 rfl (by decide) _ _ _ rfl (hrow4.alloc _) ⟨w4.heap.size+1,0,none⟩ 1 1 [.int .i64 rg,.int .i64 rk,.slice xa l.length xc,.int .i64 rht,.int .i64 rhv,.int .i64 rhc,.int .i64 ri,.int .i64 rt,.bool rm,.bool rh] rfl rfl (by have h:=news_new (w4.alloc (.cells #[.int .i64 rg,.int .i64 rk,.slice xa l.length xc,.int .i64 rht,.int .i64 rhv,.int .i64 rhc,.int .i64 ri,.int .i64 rt,.bool rm,.bool rh] 37)) 37 [.int .i64 rg,.int .i64 rk,.slice xa l.length xc,.int .i64 rht,.int .i64 rhv,.int .i64 rhc,.int .i64 ri,.int .i64 rt,.bool rm,.bool rh];rwa [show (w4.alloc (.cells #[.int .i64 rg,.int .i64 rk,.slice xa l.length xc,.int .i64 rht,.int .i64 rhv,.int .i64 rhc,.int .i64 ri,.int .i64 rt,.bool rm,.bool rh] 37)).heap.size=w4.heap.size+1 by simp] at h) (by simp [Value.oneCell']) (by unfold maxLen;omega) (by omega) (by simp;omega) ?_;intro v' w9 hown' hgrow _ hnew;obtain ⟨g',cap',rfl⟩:=ownsRow_succ hown';have hA9:=bel_alloc (Below.refl (w4.alloc (.cells #[.int .i64 rg,.int .i64 rk,.slice xa l.length xc,.int .i64 rht,.int .i64 rhv,.int .i64 rhc,.int .i64 ri,.int .i64 rt,.bool rm,.bool rh] 37)).heap.size (w4.alloc (.cells #[.int .i64 rg,.int .i64 rk,.slice xa l.length xc,.int .i64 rht,.int .i64 rhv,.int .i64 rhc,.int .i64 ri,.int .i64 rt,.bool rm,.bool rh] 37))) (.cells #[.int .i64 rg,.int .i64 rk,.slice xa l.length xc,.int .i64 rht,.int .i64 rhv,.int .i64 rhc,.int .i64 ri,.int .i64 rt,.bool rm,.bool rh] 37);obtain ⟨hX9,_,hop9⟩:=opV_append (S:=fun _=>False) (x:=((⟨rg,rk,xa,l.length,xc,rht,rhv,rhc,ri,rt,rm,rh⟩:PartC),l)) HOp4.out hC (fun _ h=>h.elim) ⟨HXE.out,HXN.out⟩ hA9 hown' hgrow hnew;have H9:CurAt w1.heap.size x ⟨p0,0⟩ (w9.setCell ⟨w2.heap.size,1,none⟩ (.slice (some ⟨g',0,none⟩) (pre.length+1) cap')):=(heap_setCell_other _ _ _ _ hBs.2.2.1).trans ((hgrow.block w1.heap.size (heap_lt (HH4.out.below hA9)) (fun e=>by have:=(ownBlock_lt hrow4 e).2.1;omega)).trans (HH4.out.below hA9));have cx9:w9.cell? ⟨w2.heap.size,1,none⟩=some (.slice va pre.length vc):=cell_of_row _ _ 1 _ _ _ hX9;have fx9:w9.frozen? ⟨w2.heap.size,1,none⟩=false:=frozen_of_row _ _ 1 _ _ hX9;obtain ⟨t0,t1,t2,u1,u2⟩:=H9.cells;dsimp only at t1))
      go_roundw
      case rel=>exact ⟨j+1,p0+jj,_,_,by omega,by go_num,by omega,CurAt.move H9 (by go_num),opV_set _ hop9 hBs,by have:=HPL.out;simp [this],by have:=HRp.out;simpa [core] using this⟩
      case measure=>simp [intOf];omega
     ·have HM:=Lib.hid (HNo.out ⟨_,_,_,(refParts_stop hrp hlt (by rw [hR];exact he)),.inl rfl⟩)
      have z1:((ee:Int) == 0)=false:=by rw [beq_eq_false_iff_ne];omega
      have z2:((ee:Int) != 0)=true:=by rw [bne_iff_ne];omega
      have hjm:(j:Int)<(m:Int):=by omega
      have hA:=hop.2.2.2.2.1
      clear hrp hR hrv he HNo HYes hop hrow Hc d2 g2 g1
      obtain ⟨rg,rk,l,rht,rhv,rhc,ri,rt,rm,rh⟩:=r
      dsimp only [ReadC.part,PartC.val] at GR
      go_wp2_with (go_at_call 36;((with_reducible refine (GR.out _).mono ?_);rintro e w4 ⟨xa,xc,rfl,hxE,hB4,hxN⟩;have hBa:=bel2 hB4 (bel_alloc (Below.refl w4.heap.size w4) (.cells #[.int .i64 rg,.int .i64 rk,.slice xa l.length xc,.int .i64 rht,.int .i64 rhv,.int .i64 rhc,.int .i64 ri,.int .i64 rt,.bool rm,.bool rh] 37));have hr4:=(hBa.block _ (heap_lt hr)).trans hr;have hAw:=bel2 hA hBa;have c0:(w4.alloc (.cells #[.int .i64 rg,.int .i64 rk,.slice xa l.length xc,.int .i64 rht,.int .i64 rhv,.int .i64 rhc,.int .i64 ri,.int .i64 rt,.bool rm,.bool rh] 37)).cell? ⟨w.heap.size,0,none⟩=some (.int .i64 0):=cell_of_row _ _ 0 _ _ _ hr4;have c1:(w4.alloc (.cells #[.int .i64 rg,.int .i64 rk,.slice xa l.length xc,.int .i64 rht,.int .i64 rhv,.int .i64 rhc,.int .i64 ri,.int .i64 rt,.bool rm,.bool rh] 37)).cell? ⟨w.heap.size,1,none⟩=some (.slice none 0 0):=cell_of_row _ _ 1 _ _ _ hr4;have f0:(w4.alloc (.cells #[.int .i64 rg,.int .i64 rk,.slice xa l.length xc,.int .i64 rht,.int .i64 rhv,.int .i64 rhc,.int .i64 ri,.int .i64 rt,.bool rm,.bool rh] 37)).frozen? ⟨w.heap.size,0,none⟩=false:=frozen_of_row _ _ 0 _ _ hr4;have f1:(w4.alloc (.cells #[.int .i64 rg,.int .i64 rk,.slice xa l.length xc,.int .i64 rht,.int .i64 rhv,.int .i64 rhc,.int .i64 ri,.int .i64 rt,.bool rm,.bool rh] 37)).frozen? ⟨w.heap.size,1,none⟩=false:=frozen_of_row _ _ 1 _ _ hr4))
      refine bodyPost_ret (v:=.tuple #[.agg #[.int .i64 0,.slice none 0 0],.int .i64 0,.int .i64 4]) (by simp [results,Tryz.results18,go_sem,c0,c1]) rfl ?_
      exact recPost_bad HM.out rfl ((hAw.setCell (p:=⟨w.heap.size,0,none⟩) (Nat.le_refl _) _).setCell (p:=⟨w.heap.size,1,none⟩) (Nat.le_refl _) _)
    ·obtain rfl:j=m:=by omega
     have hd:=refParts_done hrp
     have hlenp:∀ y ∈ pre,y.2.length=y.1.len:=fun y hy=>(hop.2.2.1 y hy).1.1
     have hP:HasP wr va pre.length pre:=⟨rfl,by omega,hrv,fun y hy=>(hop.2.2.1 y hy).1⟩
     have hq:=recB_core (s:=(q:Int)) hlenp
     have HI:=Lib.hid (refIsRec_any q va pre.length vc pre wr hP)
     have HNew:=Lib.hid (show NewP w3.heap.size va pre.length pre from ⟨fun k ⟨g,off,e,_,hk⟩=>by subst e;have:=(ownBlock_lt hrow (j:=g) rfl).2.1;omega,fun x hx k hk=>((hop.2.2.1 x hx).2 k hk).1⟩)
     have hA:=hop.2.2.2.2.1
     have hX:=hop.1
     have c0:wr.cell? ⟨w.heap.size,0,none⟩=some (.int .i64 0):=cell_of_row _ _ 0 _ _ _ hr;have c1:wr.cell? ⟨w.heap.size,1,none⟩=some (.slice none 0 0):=cell_of_row _ _ 1 _ _ _ hr;have f0:wr.frozen? ⟨w.heap.size,0,none⟩=false:=frozen_of_row _ _ 0 _ _ hr;have f1:wr.frozen? ⟨w.heap.size,1,none⟩=false:=frozen_of_row _ _ 1 _ _ hr
     have x0:wr.cell? ⟨w2.heap.size,0,none⟩=some (.int .i64 q):=cell_of_row _ _ 0 _ _ _ hX
     have x1:wr.cell? ⟨w2.heap.size,1,none⟩=some (.slice va pre.length vc):=cell_of_row _ _ 1 _ _ _ hX
     have HP:=Lib.hid hP
     clear hop hrow hrv hP hlenp hrp Hc d2 g1 g2 hlt
     by_cases hz:p0=x.size
     ·cases hb:recB q pre
      ·have HM:=Lib.hid (HNo.out ⟨_,_,_,hd,.inr (.inr (by rw [hq];exact hb))⟩)
       rw [hb] at HI
       subst hz
       clear hd hq hb HNo HYes
       go_wp2_with (go_at_call 14;((with_reducible refine (HI.out).mono ?_);rintro e w5 ⟨rfl,hB5⟩;have hA5:=bel2 hA hB5;have hr5:=(hB5.block _ (heap_lt hr)).trans hr;have hX5:=(hB5.block _ (heap_lt hX)).trans hX;clear c0 c1 f0 f1 x0 x1;have c0:w5.cell? ⟨w.heap.size,0,none⟩=some (.int .i64 0):=cell_of_row _ _ 0 _ _ _ hr5;have c1:w5.cell? ⟨w.heap.size,1,none⟩=some (.slice none 0 0):=cell_of_row _ _ 1 _ _ _ hr5;have f0:w5.frozen? ⟨w.heap.size,0,none⟩=false:=frozen_of_row _ _ 0 _ _ hr5;have f1:w5.frozen? ⟨w.heap.size,1,none⟩=false:=frozen_of_row _ _ 1 _ _ hr5;have x0:w5.cell? ⟨w2.heap.size,0,none⟩=some (.int .i64 q):=cell_of_row _ _ 0 _ _ _ hX5;have x1:w5.cell? ⟨w2.heap.size,1,none⟩=some (.slice va pre.length vc):=cell_of_row _ _ 1 _ _ _ hX5))
       refine bodyPost_ret (v:=.tuple #[.agg #[.int .i64 0,.slice none 0 0],.int .i64 0,.int .i64 4]) (by simp [results,Tryz.results18,go_sem,c0,c1]) rfl ?_
       exact recPost_bad HM.out rfl ((hA5.setCell (p:=⟨w.heap.size,0,none⟩) (Nat.le_refl _) _).setCell (p:=⟨w.heap.size,1,none⟩) (Nat.le_refl _) _)
      ·have HM:=Lib.hid (HYes.out _ ⟨hz ▸ hd,by rw [hq];exact hb⟩)
       rw [hb] at HI
       subst hz
       clear hd hq hb HNo HYes
       go_wp2_with (go_at_call 14;((with_reducible refine (HI.out).mono ?_);rintro e w5 ⟨rfl,hB5⟩;have hA5:=bel2 hA hB5;have hr5:=(hB5.block _ (heap_lt hr)).trans hr;have hX5:=(hB5.block _ (heap_lt hX)).trans hX;clear c0 c1 f0 f1 x0 x1;have c0:w5.cell? ⟨w.heap.size,0,none⟩=some (.int .i64 0):=cell_of_row _ _ 0 _ _ _ hr5;have c1:w5.cell? ⟨w.heap.size,1,none⟩=some (.slice none 0 0):=cell_of_row _ _ 1 _ _ _ hr5;have f0:w5.frozen? ⟨w.heap.size,0,none⟩=false:=frozen_of_row _ _ 0 _ _ hr5;have f1:w5.frozen? ⟨w.heap.size,1,none⟩=false:=frozen_of_row _ _ 1 _ _ hr5;have x0:w5.cell? ⟨w2.heap.size,0,none⟩=some (.int .i64 q):=cell_of_row _ _ 0 _ _ _ hX5;have x1:w5.cell? ⟨w2.heap.size,1,none⟩=some (.slice va pre.length vc):=cell_of_row _ _ 1 _ _ _ hX5))
       have hFr:=(FrameT.setCell w5 w.heap.size 0 (.int .i64 q)).trans (FrameT.setCell (w5.setCell ⟨w.heap.size,0,none⟩ (.int .i64 q)) w.heap.size 1 (.slice va pre.length vc))
       refine bodyPost_ret (v:=.tuple #[.agg #[.int .i64 q,.slice va pre.length vc],.int .i64 n,.int .i64 1]) (by simp [results,Tryz.results18,go_sem,c0,c1]) rfl ?_
       exact ⟨va,pre.length,vc,pre,by rw [HM.out];rfl,(HP.out.below hB5).frame hFr HNew.out (fun k (hk:w3.heap.size≤k) (e:k=w.heap.size)=>by omega),by rw [HM.out],hA5.trans (hFr.toBelow hA5.size (fun k hk=>Nat.le_of_eq hk.symm)),HNew.out.le hle⟩
     ·have HM:=Lib.hid (HNo.out ⟨_,_,_,hd,.inr (.inl hz)⟩)
      have z1:((p0:Int) == (x.size:Int))=false:=by rw [beq_eq_false_iff_ne];omega
      have z2:((p0:Int) != (x.size:Int))=true:=by rw [bne_iff_ne];omega
      clear hd hq hz HNo HYes
      go_wp2
      refine bodyPost_ret (v:=.tuple #[.agg #[.int .i64 0,.slice none 0 0],.int .i64 0,.int .i64 4]) (by simp [results,Tryz.results18,go_sem,c0,c1]) rfl ?_
      exact recPost_bad HM.out rfl ((hA.setCell (p:=⟨w.heap.size,0,none⟩) (Nat.le_refl _) _).setCell (p:=⟨w.heap.size,1,none⟩) (Nat.le_refl _) _)
 ·have GF:=Lib.hid (fun W=>(show Gives Tryz.prog 34 #[.string s] W (.tuple #[.string x,.int .i64 n,.int .i64 c]) from g0 W))
  have hM:=Lib.hid (show recM s=(0,[],0,c) by unfold recM;rw [hF];dsimp only;rw [if_pos (by simpa using hc)])
  have x1:((c:Int) == 1)=false:=by rw [beq_eq_false_iff_ne];omega
  have x2:((c:Int) != 1)=true:=by rw [bne_iff_ne];omega
  clear hc hF g0
  go_enter Tryz.func18,Tryz.ntmps18
  go_wp2_with (go_at_call 34;((with_reducible refine (GF.out _).mono ?_);rintro e w1 ⟨rfl,hB1⟩;have hr:=rec_block hB1;have hA:=bel2 (bel_alloc (Below.refl w.heap.size w) (.cells #[.int .i64 0,.slice none 0 0] 24)) hB1;have c0:w1.cell? ⟨w.heap.size,0,none⟩=some (.int .i64 0):=cell_of_row _ _ 0 _ _ _ hr;have c1:w1.cell? ⟨w.heap.size,1,none⟩=some (.slice none 0 0):=cell_of_row _ _ 1 _ _ _ hr;have f0:w1.frozen? ⟨w.heap.size,0,none⟩=false:=frozen_of_row _ _ 0 _ _ hr;have f1:w1.frozen? ⟨w.heap.size,1,none⟩=false:=frozen_of_row _ _ 1 _ _ hr))
  refine bodyPost_ret (v:=.tuple #[.agg #[.int .i64 0,.slice none 0 0],.int .i64 0,.int .i64 c]) (by simp [results,Tryz.results18,go_sem,c0,c1]) rfl ?_
  exact recPost_bad hM.out rfl ((hA.setCell (p:=⟨w.heap.size,0,none⟩) (Nat.le_refl _) _).setCell (p:=⟨w.heap.size,1,none⟩) (Nat.le_refl _) _)

end Go.Proofs.YtpogklceaoiacaaGreat

/- Rows of bytes that a call has made: '[]byte(s)', 'make([]byte, n)'; a store into one; 'string(b)'. -/
namespace Go.Proofs.YtpogklceaoiacaaGreat
open Go.RowKit Go.Shelf
set_option linter.unusedVariables false

/-- Block g holds the bytes l from its beginning on; none of them is frozen. -/
structure BytesAt (W:World) (g:Nat) (l:List UInt8):Prop where
 lt:g<W.heap.size
 cell:∀ j (h:j<l.length),W.cell? ⟨g,j,none⟩=some (vb l[j])
 frozen:∀ j,j<l.length→W.frozen? ⟨g,j,none⟩=false

theorem BytesAt.below {W W':World} {g:Nat} {l:List UInt8} (h:BytesAt W g l) (hb:Below W.heap.size W W'):BytesAt W' g l :=
 ⟨Nat.lt_of_lt_of_le h.lt hb.size,fun j hj=>(hb.cell (p:=⟨g,j,none⟩) h.lt).trans (h.cell j hj),fun j hj=>(hb.frozen (p:=⟨g,j,none⟩) h.lt).trans (h.frozen j hj)⟩
theorem BytesAt.drew {W:World} {g:Nat} {l:List UInt8} (h:BytesAt W g l):BytesAt W.drew g l:=⟨h.lt,h.cell,h.frozen⟩
theorem BytesAt.set {W:World} {g:Nat} {l:List UInt8} (h:BytesAt W g l) (j:Nat) (hj:j<l.length) (x:UInt8):BytesAt (W.setCell ⟨g,j,none⟩ (vb x)) g (l.set j x):=by
 refine ⟨by simpa using h.lt,fun k hk=>?_,fun k hk=>by rw [World.frozen?_setCell];exact h.frozen k (by simpa using hk)⟩
 rw [List.length_set] at hk
 by_cases e:k=j
 ·subst e
  rw [List.getElem_set_self]
  exact World.cell?_setCell_same _ _ _ (h.cell k hj)
 ·rw [List.getElem_set_ne (Ne.symm e)]
  refine Eq.trans ?_ (h.cell k hk)
  exact World.cell?_setCell_other _ _ _ _ (fun e2=>e (by cases e2;rfl))

/-- '[]byte(s)'. -/
theorem bytes_of {P:Program} {src dst e:TypeId} (hs:P.underlying src=some .string) (hd:P.underlying dst=some (.slice e)) (he:P.underlying e=some (.int .u8)) (s:ByteArray) (W:World) :
  ∃ cap W',s.size≤cap∧(convert src dst (.string s)).run P W=.ok (.slice (some ⟨W.heap.size,0,none⟩) s.size cap) W'∧Below W.heap.size W W'∧BytesAt W' W.heap.size s.data.toList:=by
 refine ⟨_,_,?_,run_bytes_of_string W src dst e s hs hd he,?_,?_⟩
 ·exact grownCap_ge _ _ _ _
 ·exact ((Below.refl _ W).drew).alloc (Nat.le_refl _) _
 ·have hsz:s.data.toList.length=s.data.size:=by simp
  refine ⟨by simp,fun j hj=>?_,fun j hj=>?_⟩
  ·rw [hsz] at hj
   have h1:=World.cell?_alloc_mark W.drew (bytesRow s (grownCap W s.size 0 e)) e ((bytesRow s (grownCap W s.size 0 e)).size,(bytesRow s (grownCap W s.size 0 e)).size+1) j
   rw [bytesRow_at s _ j hj] at h1
   exact h1
  ·rw [hsz] at hj
   have h1:=World.frozen?_alloc_mark W.drew (bytesRow s (grownCap W s.size 0 e)) e (bytesRow s (grownCap W s.size 0 e)).size ((bytesRow s (grownCap W s.size 0 e)).size+1) j
   refine h1.trans ?_
   have h2:j<(bytesRow s (grownCap W s.size 0 e)).size:=by unfold bytesRow;rw [Array.size_append,Array.size_map];omega
   rw [decide_eq_false (by omega)];rfl
/-- 'string(b)'. -/
theorem string_of {P:Program} {src dst e:TypeId} (hs:P.underlying src=some (.slice e)) (he:P.underlying e=some (.int .u8)) (hd:P.underlying dst=some .string) {W:World} {g:Nat} {l:List UInt8} (h:BytesAt W g l) (n cap:Nat) (hn:l.length=n) :
  (convert src dst (.slice (some ⟨g,0,none⟩) n cap)).run P W=.ok (.string ⟨l.toArray⟩) W:=by
 subst hn
 refine run_convert_bytes_back W src dst e _ cap l hs he hd fun j hj=>?_
 rw [show (⟨g,0,none⟩:Addr).add j=⟨g,j,none⟩ from by cases j <;> simp [Addr.add]]
 exact h.cell j hj

end Go.Proofs.YtpogklceaoiacaaGreat
