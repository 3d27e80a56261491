/- Law RecordReads: for every input the call answers true; its arguments read as they did. No condition. -/
import Derived.Test.YtpogklceaoiacaaGreatLaw
import Derived.Test.YtpogklceaoiacaaGreatRecs
import Derived.Test.YtpogklceaoiacaaGreatRecRefs
namespace Go.Proofs.YtpogklceaoiacaaGreat.recordReads
open Go.ChangeShapes Go.WideShapes Go.ChangeAt Go.RowKit Go.Shelf
open Go.ChangeMaps (open_string shut_string)
set_option linter.unusedVariables false
attribute [local go_sem] Oper.semAt_some wide_fn wide_round_fn

theorem goodP_below {w W:World} {x:PL} (h:GoodP w x) (hB:Below w.heap.size w W):GoodP W x:=⟨h.1,h.2.1,h.2.2.1.below hB,h.2.2.2⟩
theorem xor_u8 (x y:UInt8):bits .xor .u8 (x.toNat:Int) (y.toNat:Int)=((x ^^^ y).toNat:Int):=by
 have hx:=x.toNat_lt
 have hy:=y.toNat_lt
 show IntKind.u8.wrap ((BitVec.ofInt 8 (x.toNat:Int) ^^^ BitVec.ofInt 8 (y.toNat:Int)).toNat:Int)=_
 have h1:(BitVec.ofInt 8 (x.toNat:Int)).toNat=x.toNat:=by rw [BitVec.toNat_ofInt];omega
 have h2:(BitVec.ofInt 8 (y.toNat:Int)).toNat=y.toNat:=by rw [BitVec.toNat_ofInt];omega
 have hxy:x.toNat ^^^ y.toNat<256:=Nat.xor_lt_two_pow (n:=8) hx hy
 rw [BitVec.toNat_xor,h1,h2,UInt8.toNat_xor]
 simp [IntKind.wrap,IntKind.bits,IntKind.signed];omega
theorem refRecRead_at (s:ByteArray) (q:Int) (rs:List ReadC) (n c:Nat) (hs:s.size<4611686018427387904) (h:recM s=(q,rs,n,c)) (w:World) :
  Calls Tryz.prog 18 #[.string s] w fun e w'=>∃ (a:Option Addr) (len cap:Nat) (L:List PL),e=.returned (.tuple #[.agg #[.int .i64 q,.slice a len cap],.int .i64 n,.int .i64 c])∧HasP w' a len L∧L.map core=rs∧Below w.heap.size w w':=by
 have:=refRecRead_any s hs w
 unfold RecPost at this
 rw [h] at this
 exact this.mono fun _ _ ⟨a,len,cap,L,h1,h2,h3,h4,_⟩=>⟨a,len,cap,L,h1,h2,h3,h4⟩

set_option maxRecDepth 100000 in
set_option maxHeartbeats 4000000 in
theorem reads_any (s:ByteArray) (hs:s.size<4611686018427387904) (w:World):Gives Tryz.prog 7 #[.string s] w (.bool true):=by
 unfold Gives
 obtain ⟨q,rs,n,c,h⟩:∃ q rs n c,recM s=(q,rs,n,c):=⟨_,_,_,_,rfl⟩
 have G1:=Lib.hid (fun W=>recRead_at s q rs n c hs h W)
 have G2:=Lib.hid (fun W=>refRecRead_at s q rs n c hs h W)
 clear h
 go_enter Tryz.func7,Tryz.ntmps7
 go_wp2_with (first
  | (go_at_call 9;((with_reducible refine (G1.out _).mono ?_);rintro e w1 ⟨a1,n1,k1,L1,rfl,hP1,hL1,hB1⟩;have hA1:=bel_alloc (Below.refl w1.heap.size w1) (.cells #[.int .i64 q,.slice a1 n1 k1] 24);have hA:=bel2 hB1 hA1;have hp:=World.alloc_heap_new w1 (.cells #[.int .i64 q,.slice a1 n1 k1] 24);have HP1:=hP1.below hA1;clear hP1 hB1 hA1))
  | (go_at_call 18;((with_reducible refine (G2.out _).mono ?_);rintro e w2 ⟨a2,n2,k2,L2,rfl,hP2,hL2,hB2⟩;have hA2:=bel2 hB2 (bel_alloc (Below.refl w2.heap.size w2) (.cells #[.int .i64 q,.slice a2 n2 k2] 24));replace hA:=bel2 hA hA2;have hq:=World.alloc_heap_new w2 (.cells #[.int .i64 q,.slice a2 n2 k2] 24);replace HP1:=HP1.below hA2;replace hp:=(hA2.block _ (heap_lt hp)).trans hp;have HP2:=hP2.below (bel_alloc (Below.refl w2.heap.size w2) (.cells #[.int .i64 q,.slice a2 n2 k2] 24));have GS:=Lib.hid (show Gives Tryz.prog 19 #[.agg #[.int .i64 q,.slice a1 n1 k1],.agg #[.int .i64 q,.slice a2 n2 k2]] (w2.alloc (.cells #[.int .i64 q,.slice a2 n2 k2] 24)) (.bool true) from by have:=refSameR_any q q a1 a2 n1 n2 k1 k2 L1 L2 _ HP1 HP2;rwa [sameR_iff.2 ⟨rfl,hL1.trans hL2.symm⟩] at this);clear HP1 HP2 hP2 hB2 hA2 hL1 hL2;have p0:(w2.alloc (.cells #[.int .i64 q,.slice a2 n2 k2] 24)).cell? ⟨w1.heap.size,0,none⟩=some (.int .i64 q):=cell_of_row _ _ 0 _ _ _ hp;have p1:(w2.alloc (.cells #[.int .i64 q,.slice a2 n2 k2] 24)).cell? ⟨w1.heap.size,1,none⟩=some (.slice a1 n1 k1):=cell_of_row _ _ 1 _ _ _ hp;have q0:(w2.alloc (.cells #[.int .i64 q,.slice a2 n2 k2] 24)).cell? ⟨w2.heap.size,0,none⟩=some (.int .i64 q):=cell_of_row _ _ 0 _ _ _ hq;have q1:(w2.alloc (.cells #[.int .i64 q,.slice a2 n2 k2] 24)).cell? ⟨w2.heap.size,1,none⟩=some (.slice a2 n2 k2):=cell_of_row _ _ 1 _ _ _ hq))
  | (go_at_call 19;((with_reducible refine (GS.out).mono ?_);rintro e w3 ⟨rfl,hB3⟩;replace hA:=bel2 hA hB3)))
 go_ret
 exact ⟨by simp,hA⟩

set_option maxRecDepth 100000 in
set_option maxHeartbeats 8000000 in
theorem rreads_few (w:World) (s1:Int) (a1:Option Addr) (len1 cap1:Nat) (L1:List PL) (hl1:L1.length=len1) (hr1:RowV w a1 len1 10 (partCells L1)) (hg1:∀ x ∈ L1,GoodP w x) (at_:Nat) (hat:at_<65536) (y:UInt8) (s:ByteArray) (hf1:fewPs L1=false):Calls Tryz.prog 3 #[.agg #[.int .i64 s1,.slice a1 len1 cap1],.int .u16 at_,.int .u8 y.toNat,.string s] w fun e w'=>e=.returned (.bool true)∧Below w.heap.size w w':=by
 have GK:=Lib.hid rec_known
 have GF1:=Lib.hid (fun W (hB:Below w.heap.size w W)=>fewPs_any a1 len1 cap1 L1 W hl1 (hr1.below hB) (fun x hx=>goodP_below (hg1 x hx) hB))
 rw [hf1] at GF1
 have hp:=World.alloc_heap_new w (.cells #[.int .i64 s1,.slice a1 len1 cap1] 24)
 have hC:Below w.heap.size w (w.alloc (.cells #[.int .i64 s1,.slice a1 len1 cap1] 24)):=bel_alloc (Below.refl _ _) _
 have p0:(w.alloc (.cells #[.int .i64 s1,.slice a1 len1 cap1] 24)).cell? ⟨w.heap.size,0,none⟩=some (.int .i64 s1):=cell_of_row _ _ 0 _ _ _ hp;have p1:(w.alloc (.cells #[.int .i64 s1,.slice a1 len1 cap1] 24)).cell? ⟨w.heap.size,1,none⟩=some (.slice a1 len1 cap1):=cell_of_row _ _ 1 _ _ _ hp
 go_enter Tryz.func3,Tryz.ntmps3
 go_wp2_with (first
 | (go_at_call 4;((with_reducible refine (GK.out _).mono ?_);rintro e w1 ⟨rfl,hB⟩;replace hC:=bel2 hC hB;replace hp:=(hB.block _ (heap_lt hp)).trans hp;clear p0 p1;have p0:w1.cell? ⟨w.heap.size,0,none⟩=some (.int .i64 s1):=cell_of_row _ _ 0 _ _ _ hp;have p1:w1.cell? ⟨w.heap.size,1,none⟩=some (.slice a1 len1 cap1):=cell_of_row _ _ 1 _ _ _ hp;clear hB))
 | (go_at_call 5;((with_reducible refine (GF1.out _ hC).mono ?_);rintro e w2 ⟨rfl,hB⟩;replace hC:=bel2 hC hB;replace hp:=(hB.block _ (heap_lt hp)).trans hp;clear p0 p1;have p0:w2.cell? ⟨w.heap.size,0,none⟩=some (.int .i64 s1):=cell_of_row _ _ 0 _ _ _ hp;have p1:w2.cell? ⟨w.heap.size,1,none⟩=some (.slice a1 len1 cap1):=cell_of_row _ _ 1 _ _ _ hp;clear hB)))
 go_ret
 exact ⟨by simp,hC⟩

set_option maxRecDepth 100000 in
set_option maxHeartbeats 8000000 in
theorem rreads_long (w:World) (s1:Int) (a1:Option Addr) (len1 cap1:Nat) (L1:List PL) (hl1:L1.length=len1) (hr1:RowV w a1 len1 10 (partCells L1)) (hg1:∀ x ∈ L1,GoodP w x) (at_:Nat) (hat:at_<65536) (y:UInt8) (s:ByteArray) (hf1:fewPs L1=true) (hz:800<s.size):Calls Tryz.prog 3 #[.agg #[.int .i64 s1,.slice a1 len1 cap1],.int .u16 at_,.int .u8 y.toNat,.string s] w fun e w'=>e=.returned (.bool true)∧Below w.heap.size w w':=by
 have GK:=Lib.hid rec_known
 have GF1:=Lib.hid (fun W (hB:Below w.heap.size w W)=>fewPs_any a1 len1 cap1 L1 W hl1 (hr1.below hB) (fun x hx=>goodP_below (hg1 x hx) hB))
 rw [hf1] at GF1
 have hp:=World.alloc_heap_new w (.cells #[.int .i64 s1,.slice a1 len1 cap1] 24)
 have hC:Below w.heap.size w (w.alloc (.cells #[.int .i64 s1,.slice a1 len1 cap1] 24)):=bel_alloc (Below.refl _ _) _
 have p0:(w.alloc (.cells #[.int .i64 s1,.slice a1 len1 cap1] 24)).cell? ⟨w.heap.size,0,none⟩=some (.int .i64 s1):=cell_of_row _ _ 0 _ _ _ hp;have p1:(w.alloc (.cells #[.int .i64 s1,.slice a1 len1 cap1] 24)).cell? ⟨w.heap.size,1,none⟩=some (.slice a1 len1 cap1):=cell_of_row _ _ 1 _ _ _ hp
 go_enter Tryz.func3,Tryz.ntmps3
 go_wp2_with (first
 | (go_at_call 4;((with_reducible refine (GK.out _).mono ?_);rintro e w1 ⟨rfl,hB⟩;replace hC:=bel2 hC hB;replace hp:=(hB.block _ (heap_lt hp)).trans hp;clear p0 p1;have p0:w1.cell? ⟨w.heap.size,0,none⟩=some (.int .i64 s1):=cell_of_row _ _ 0 _ _ _ hp;have p1:w1.cell? ⟨w.heap.size,1,none⟩=some (.slice a1 len1 cap1):=cell_of_row _ _ 1 _ _ _ hp;clear hB))
 | (go_at_call 5;((with_reducible refine (GF1.out _ hC).mono ?_);rintro e w2 ⟨rfl,hB⟩;replace hC:=bel2 hC hB;replace hp:=(hB.block _ (heap_lt hp)).trans hp;clear p0 p1;have p0:w2.cell? ⟨w.heap.size,0,none⟩=some (.int .i64 s1):=cell_of_row _ _ 0 _ _ _ hp;have p1:w2.cell? ⟨w.heap.size,1,none⟩=some (.slice a1 len1 cap1):=cell_of_row _ _ 1 _ _ _ hp;clear hB)))
 go_ret
 exact ⟨by simp,hC⟩

set_option maxRecDepth 100000 in
set_option maxHeartbeats 8000000 in
theorem rreads_none (w:World) (s1:Int) (a1:Option Addr) (len1 cap1:Nat) (L1:List PL) (hl1:L1.length=len1) (hr1:RowV w a1 len1 10 (partCells L1)) (hg1:∀ x ∈ L1,GoodP w x) (at_:Nat) (hat:at_<65536) (y:UInt8) (s:ByteArray) (hf1:fewPs L1=true) (hz:s.size≤800) (hok:recB s1 L1=false):Calls Tryz.prog 3 #[.agg #[.int .i64 s1,.slice a1 len1 cap1],.int .u16 at_,.int .u8 y.toNat,.string s] w fun e w'=>e=.returned (.bool true)∧Below w.heap.size w w':=by
 have GK:=Lib.hid rec_known
 have GF1:=Lib.hid (fun W (hB:Below w.heap.size w W)=>fewPs_any a1 len1 cap1 L1 W hl1 (hr1.below hB) (fun x hx=>goodP_below (hg1 x hx) hB))
 rw [hf1] at GF1
 have H1:HasP w a1 len1 L1:=fewPs_has hl1 hr1 hg1 hf1
 have hlen1:∀ x ∈ L1,x.2.length=x.1.len:=fun x hx=>(H1.2.2.2 x hx).1
 have GB:=Lib.hid (fun W (hB:Below w.heap.size w W)=>(show Gives Tryz.prog 6 #[.agg #[.int .i64 s1,.slice a1 len1 cap1]] W (.tuple #[.string ⟨#[]⟩,.int .i64 11]) from by have:=refRecBytes_any s1 a1 len1 cap1 L1 W (H1.below hB);rwa [recS_no hok,recE_no hok] at this))
 have GR:=Lib.hid (fun (x:ByteArray) (hx:x.size<4611686018427387904) W=>reads_any x hx W)
 clear H1 hlen1 hok
 have hp:=World.alloc_heap_new w (.cells #[.int .i64 s1,.slice a1 len1 cap1] 24)
 have hC:Below w.heap.size w (w.alloc (.cells #[.int .i64 s1,.slice a1 len1 cap1] 24)):=bel_alloc (Below.refl _ _) _
 have p0:(w.alloc (.cells #[.int .i64 s1,.slice a1 len1 cap1] 24)).cell? ⟨w.heap.size,0,none⟩=some (.int .i64 s1):=cell_of_row _ _ 0 _ _ _ hp;have p1:(w.alloc (.cells #[.int .i64 s1,.slice a1 len1 cap1] 24)).cell? ⟨w.heap.size,1,none⟩=some (.slice a1 len1 cap1):=cell_of_row _ _ 1 _ _ _ hp
 go_enter Tryz.func3,Tryz.ntmps3
 go_wp2_with (first
 | (go_at_call 4;((with_reducible refine (GK.out _).mono ?_);rintro e w1 ⟨rfl,hB⟩;replace hC:=bel2 hC hB;replace hp:=(hB.block _ (heap_lt hp)).trans hp;clear p0 p1;have p0:w1.cell? ⟨w.heap.size,0,none⟩=some (.int .i64 s1):=cell_of_row _ _ 0 _ _ _ hp;have p1:w1.cell? ⟨w.heap.size,1,none⟩=some (.slice a1 len1 cap1):=cell_of_row _ _ 1 _ _ _ hp;clear hB))
 | (go_at_call 5;((with_reducible refine (GF1.out _ hC).mono ?_);rintro e w2 ⟨rfl,hB⟩;replace hC:=bel2 hC hB;replace hp:=(hB.block _ (heap_lt hp)).trans hp;clear p0 p1;have p0:w2.cell? ⟨w.heap.size,0,none⟩=some (.int .i64 s1):=cell_of_row _ _ 0 _ _ _ hp;have p1:w2.cell? ⟨w.heap.size,1,none⟩=some (.slice a1 len1 cap1):=cell_of_row _ _ 1 _ _ _ hp;clear hB))
 | (go_at_call 6;((with_reducible refine (GB.out _ hC).mono ?_);rintro e w3 ⟨rfl,hB⟩;replace hC:=bel2 hC hB;replace hp:=(hB.block _ (heap_lt hp)).trans hp;clear p0 p1;have p0:w3.cell? ⟨w.heap.size,0,none⟩=some (.int .i64 s1):=cell_of_row _ _ 0 _ _ _ hp;have p1:w3.cell? ⟨w.heap.size,1,none⟩=some (.slice a1 len1 cap1):=cell_of_row _ _ 1 _ _ _ hp;clear hB))
 | (go_at_call 7;((with_reducible refine (GR.out s (by omega) _).mono ?_);rintro e w4 ⟨rfl,hB⟩;replace hC:=bel2 hC hB;replace hp:=(hB.block _ (heap_lt hp)).trans hp;clear p0 p1;have p0:w4.cell? ⟨w.heap.size,0,none⟩=some (.int .i64 s1):=cell_of_row _ _ 0 _ _ _ hp;have p1:w4.cell? ⟨w.heap.size,1,none⟩=some (.slice a1 len1 cap1):=cell_of_row _ _ 1 _ _ _ hp;clear hB)))
 go_ret
 exact ⟨by simp,hC⟩

set_option maxRecDepth 100000 in
set_option maxHeartbeats 8000000 in
theorem rreads_full (w:World) (s1:Int) (a1:Option Addr) (len1 cap1:Nat) (L1:List PL) (hl1:L1.length=len1) (hr1:RowV w a1 len1 10 (partCells L1)) (hg1:∀ x ∈ L1,GoodP w x) (at_:Nat) (hat:at_<65536) (y:UInt8) (s:ByteArray) (hf1:fewPs L1=true) (hz:s.size≤800) (hok:recB s1 L1=true):Calls Tryz.prog 3 #[.agg #[.int .i64 s1,.slice a1 len1 cap1],.int .u16 at_,.int .u8 y.toNat,.string s] w fun e w'=>e=.returned (.bool true)∧Below w.heap.size w w':=by
 have GK:=Lib.hid rec_known
 have GF1:=Lib.hid (fun W (hB:Below w.heap.size w W)=>fewPs_any a1 len1 cap1 L1 W hl1 (hr1.below hB) (fun x hx=>goodP_below (hg1 x hx) hB))
 rw [hf1] at GF1
 have H1:HasP w a1 len1 L1:=fewPs_has hl1 hr1 hg1 hf1
 have hlen1:∀ x ∈ L1,x.2.length=x.1.len:=fun x hx=>(H1.2.2.2 x hx).1
 have GB:=Lib.hid (fun W (hB:Below w.heap.size w W)=>(show Gives Tryz.prog 6 #[.agg #[.int .i64 s1,.slice a1 len1 cap1]] W (.tuple #[.string (recS s1 L1),.int .i64 0]) from by have:=refRecBytes_any s1 a1 len1 cap1 L1 W (H1.below hB);rwa [recE_ok hok] at this))
 have hzn:=recS_min hok
 have hzl:=(recS_len hlen1 hok).2.1
 clear H1 hlen1 hok
 generalize recS s1 L1=S at *
 have GR:=Lib.hid (fun (x:ByteArray) (hx:x.size<4611686018427387904) W=>reads_any x hx W)
 obtain ⟨m,hm⟩:∃ m,m=at_ % S.size:=⟨_,rfl⟩
 have hml:m<S.size:=by rw [hm];exact Nat.mod_lt _ (by omega)
 have hmi:(at_:Int) % (S.size:Int)=(m:Int):=by rw [hm];omega
 have hm2:(m:Int)<(S.size:Int):=by omega
 have hm0:(0:Int)≤(m:Int):=by omega
 have hSp:(0:Int)<(S.size:Int):=by omega
 have hSn:(S.size:Int)≤1962:=by omega
 have hsn:(s.size:Int)≤800:=by omega
 clear hm
 have hp:=World.alloc_heap_new w (.cells #[.int .i64 s1,.slice a1 len1 cap1] 24)
 have hC:Below w.heap.size w (w.alloc (.cells #[.int .i64 s1,.slice a1 len1 cap1] 24)):=bel_alloc (Below.refl _ _) _
 have p0:(w.alloc (.cells #[.int .i64 s1,.slice a1 len1 cap1] 24)).cell? ⟨w.heap.size,0,none⟩=some (.int .i64 s1):=cell_of_row _ _ 0 _ _ _ hp;have p1:(w.alloc (.cells #[.int .i64 s1,.slice a1 len1 cap1] 24)).cell? ⟨w.heap.size,1,none⟩=some (.slice a1 len1 cap1):=cell_of_row _ _ 1 _ _ _ hp
 go_enter Tryz.func3,Tryz.ntmps3
 go_wp2_with (first
 | (go_at_call 4;((with_reducible refine (GK.out _).mono ?_);rintro e w1 ⟨rfl,hB⟩;replace hC:=bel2 hC hB;replace hp:=(hB.block _ (heap_lt hp)).trans hp;clear p0 p1;have p0:w1.cell? ⟨w.heap.size,0,none⟩=some (.int .i64 s1):=cell_of_row _ _ 0 _ _ _ hp;have p1:w1.cell? ⟨w.heap.size,1,none⟩=some (.slice a1 len1 cap1):=cell_of_row _ _ 1 _ _ _ hp;clear hB))
 | (go_at_call 5;((with_reducible refine (GF1.out _ hC).mono ?_);rintro e w2 ⟨rfl,hB⟩;replace hC:=bel2 hC hB;replace hp:=(hB.block _ (heap_lt hp)).trans hp;clear p0 p1;have p0:w2.cell? ⟨w.heap.size,0,none⟩=some (.int .i64 s1):=cell_of_row _ _ 0 _ _ _ hp;have p1:w2.cell? ⟨w.heap.size,1,none⟩=some (.slice a1 len1 cap1):=cell_of_row _ _ 1 _ _ _ hp;clear hB))
 | (go_at_call 6;((with_reducible refine (GB.out _ hC).mono ?_);rintro e w3 ⟨rfl,hB⟩;replace hC:=bel2 hC hB;replace hp:=(hB.block _ (heap_lt hp)).trans hp;clear p0 p1;have p0:w3.cell? ⟨w.heap.size,0,none⟩=some (.int .i64 s1):=cell_of_row _ _ 0 _ _ _ hp;have p1:w3.cell? ⟨w.heap.size,1,none⟩=some (.slice a1 len1 cap1):=cell_of_row _ _ 1 _ _ _ hp;obtain ⟨cap,w4,hcap,hcv,hB4,hby⟩:=bytes_of (P:=Tryz.prog) (src:=9) (dst:=30) Tryz.underlying9 Tryz.underlying30 Tryz.underlying5 S w3;have hkl:m<S.data.toList.length:=(by simpa using hml);have hC3:=hC.size;have hC4:=bel2 hC hB4;obtain ⟨d,hd⟩:∃ d:UInt8,d=S.data.toList[m]:=⟨_,rfl⟩;have hcell:w4.cell? ⟨w3.heap.size,m,none⟩=some (.int .u8 d.toNat):=(by rw [hd];exact hby.cell _ hkl);have hfro:=hby.frozen _ hkl;have hxv:=xor_u8 d y;generalize d ^^^ y=z at *;clear hd;have hby5:=(hby.set _ hkl z);have hC5:=(hC4.setCell (p:=⟨w3.heap.size,m,none⟩) hC3 (vb z));have HY5:=Lib.hid (show BytesAt (w4.setCell ⟨w3.heap.size,m,none⟩ (.int .u8 z.toNat)) w3.heap.size (S.data.toList.set m z) from hby5);have HC5:=Lib.hid (show Below w.heap.size w (w4.setCell ⟨w3.heap.size,m,none⟩ (.int .u8 z.toNat)) from hC5);clear hby hby5 hC5 hC4 hp;clear hB)))
 go_region
 have hyl:(S.data.toList.set m z).length=S.size:=by simp
 have hcv2:=string_of (P:=Tryz.prog) (src:=30) (dst:=9) Tryz.underlying30 Tryz.underlying5 Tryz.underlying9 HY5.out.drew S.size cap hyl
 have hYz:(⟨(S.data.toList.set m z).toArray⟩:ByteArray).size=S.size:=hyl
 generalize (⟨(S.data.toList.set m z).toArray⟩:ByteArray)=Y at *
 have hC6:=HC5.out.drew
 go_wp2_with (first
  | (go_at_call 7;((with_reducible refine (GR.out Y (by omega) _).mono ?_);rintro e w6 ⟨rfl,hB6⟩;have hC7:=bel2 hC6 hB6))
  | (go_at_call 7;((with_reducible refine (GR.out (S ++ s) (by rw [ByteArray.size_append];omega) _).mono ?_);rintro e w7 ⟨rfl,hB7⟩;have hC8:=bel2 hC7 hB7))
  | (go_at_call 7;((with_reducible refine (GR.out (S.extract 0 m) (by rw [ByteArray.size_extract];omega) _).mono ?_);rintro e w8 ⟨rfl,hB8⟩;have hC9:=bel2 hC8 hB8))
  | (go_at_call 7;((with_reducible refine (GR.out s (by omega) _).mono ?_);rintro e w9 ⟨rfl,hB9⟩;have hCz:=bel2 hC9 hB9)))
 go_ret
 exact ⟨by simp,hCz⟩

theorem walk (w:World) (p1:RecC) (L1:List PL) (g1:GoodR w p1 L1) (at_:Nat) (hat:at_<65536) (b:Nat) (hb:b<256) (s:ByteArray) (hs:s.size≤maxLen):Calls Tryz.prog 3 #[p1.val,.int .u16 at_,.int .u8 b,.string s] w fun e w'=>e=.returned (.bool true)∧Below w.heap.size w w':=by
 obtain ⟨s1,a1,len1,cap1⟩:=p1
 obtain ⟨_,hl1,_,hr1,hg1⟩:=g1
 obtain ⟨y,rfl⟩:∃ y:UInt8,b=y.toNat:=⟨UInt8.ofNat b,by rw [UInt8.toNat_ofNat'];omega⟩
 cases hf1:fewPs L1
 ·exact rreads_few w s1 a1 len1 cap1 L1 hl1 hr1 hg1 at_ hat y s hf1
 by_cases hz:800<s.size
 ·exact rreads_long w s1 a1 len1 cap1 L1 hl1 hr1 hg1 at_ hat y s hf1 hz
 have hz':s.size≤800:=by omega
 cases hok:recB s1 L1
 ·exact rreads_none w s1 a1 len1 cap1 L1 hl1 hr1 hg1 at_ hat y s hf1 hz' hok
 ·exact rreads_full w s1 a1 len1 cap1 L1 hl1 hr1 hg1 at_ hat y s hf1 hz' hok

set_option maxRecDepth 100000 in
theorem lifted (os:Os) (started:os.Started) (H:Type) (enc:TypeId × Value→H) :
  ReturnsInHanded {} Tryz.checked os 3 .any (Rows.recordReadsSpec.pre6 enc Tryz.prog Tryz.f3 Rows.recordReadsRow.domain false) (Rows.recordReadsSpec.post enc Tryz.prog Tryz.f3 false true false false):=by
 refine returnsInHanded_of_change (C:=Tryz.checked) Tryz.own started (by kernel_rfl) Tryz.func3
  (ChangeSpec.witness6 (enc:=enc) (C:=Tryz.checked) false ⟨#[],#[.agg #[.int .i64 0,.slice none 0 0],.int .u16 0,.int .u8 0,.string ⟨#[]⟩],[]⟩ 8 (by kernel_rfl) (by kernel_rfl) (by kernel_rfl) (by kernel_rfl)) ?_
 intro W base args ds gs before hval hW _ _
 refine law_contract (T:=4) (n:=4) Tryz.laid Tryz.underlying4 rfl rfl ⟨rfl,fun H ds h=>by match ds,h with | [_,_,_,_],_=>rfl⟩ (of_all (by kernel_rfl)) hW ?_
 intro ps hA
 rw [Tryz.params3] at hA hval
 obtain ⟨v0,vs0,d0,ds0,p0,q0,hargs,rfl,rfl,h0,r0⟩:=trodAll_cons hA
 obtain ⟨v1,vs1,d1,ds1,p1,q1,rfl,rfl,rfl,h1,r1⟩:=trodAll_cons r0
 obtain ⟨v2,vs2,d2,ds2,p2,q2,rfl,rfl,rfl,h2,r2⟩:=trodAll_cons r1
 obtain ⟨v3,vs3,d3,ds3,p3,q3,rfl,rfl,rfl,h3,r3⟩:=trodAll_cons r2
 obtain ⟨rfl,rfl,rfl⟩:=trodAll_nil r3
 obtain rfl:args=#[v0,v1,v2,v3]:=by cases args;simp_all
 obtain ⟨p0,l0,rfl,g0⟩:=open_record (hval 0 24 v0 rfl rfl) h0
 obtain ⟨a1,rfl,rfl,rfl,w1⟩:=open_int Tryz.underlying25 (hval 1 25 v1 rfl rfl) h1
 obtain ⟨a2,rfl,rfl,rfl,w2⟩:=open_int Tryz.underlying5 (hval 2 5 v2 rfl rfl) h2
 obtain ⟨a3,rfl,rfl,rfl,w3⟩:=open_string Tryz.underlying9 (hval 3 9 v3 rfl rfl) h3
 obtain ⟨n1,rfl,b1⟩:=nat_of_u16 w1
 obtain ⟨n2,rfl,b2⟩:=nat_of_u8 w2
 exact walk W p0 l0 g0 n1 b1 n2 b2 a3 w3

theorem holds:Rows.RecordReadsSaid :=
 OpenClaim.holds_of_wide 3 Tryz.f3 rfl rfl rfl rfl rfl rfl rfl ⟨rfl,rfl,rfl,rfl,rfl⟩ rfl rfl rfl rfl rfl (by kernel_rfl) Tryz.func3 (by kernel_rfl)
  (of_decide_eq_true (by kernel_rfl)) (by unfold Func.isWrapper;first | (rw [if_pos (by decide +kernel)];kernel_rfl) | (rw [if_neg (by decide +kernel)];exact ⟨rfl,rfl⟩))
  (fun os started H enc _=>lifted os started H enc)

end Go.Proofs.YtpogklceaoiacaaGreat.recordReads
