/- What package part's Read tells, as plain mathematics. -/
import Derived.Test.YtbhhbjgdkcfagaaReadMath
import Derived.Test.YtbhhbjgdkcfagaaPartIs6
namespace Go.Proofs.Ytbhhbjgdkcfagaa
set_option linter.unusedVariables false

/-- A part as it was read, how far it has come, the error. -/
structure ReadC where
  g : Int
  k : Int
  l : List EntryC
  ht : Int
  hv : Int
  hc : Int
  i : Int
  t : Int
  m : Bool
  h : Bool
def ReadC.part (r : ReadC) (a : Option Addr) (cap : Nat) : PartC := ⟨r.g, r.k, a, r.l.length, cap, r.ht, r.hv, r.hc, r.i, r.t, r.m, r.h⟩
def zeroR : ReadC := ⟨0, 0, [], 0, 0, 0, 0, 0, false, false⟩
/-- What a KForward has. -/
def fwdM (s : ByteArray) (g : Int) (st0 : RSt) : ReadC × RSt :=
  let f := numTo s 3 st0
  let mk := f.1 % 2 == 1
  let hd := f.1 / 2 == 1
  let i := if mk then numM s f.2 else (0, f.2)
  let t := if mk then numM s i.2 else (0, i.2)
  let h := if hd then hardM s t.2 else ((0, 0, 0), t.2)
  let n := numTo s 6 h.2
  let l := entM s (idxRead s) n.1 0 n.2
  (⟨g, 6, l.1, h.1.1, h.1.2.1, h.1.2.2, i.1, t.1, mk, hd⟩, l.2)
def bodyM (s : ByteArray) (g k : Nat) (st : RSt) : ReadC × RSt :=
  if k = 1 then
    let n := numTo s 6 st
    let f := numM s n.2
    let l := entM s (idxFrom f.1) n.1 0 f.2
    (⟨g, 1, l.1, 0, 0, 0, 0, 0, false, false⟩, l.2)
  else if k = 2 then
    let h := hardM s st
    (⟨g, 2, [], h.1.1, h.1.2.1, h.1.2.2, 0, 0, false, false⟩, h.2)
  else if k = 3 ∨ k = 4 then
    let i := numM s st
    let t := numM s i.2
    (⟨g, k, [], 0, 0, 0, i.1, t.1, false, false⟩, t.2)
  else if k = 6 then fwdM s g st
  else (⟨g, k, [], 0, 0, 0, 0, 0, false, false⟩, st)
def rawM (s : ByteArray) : ReadC × RSt := bodyM s (numM s ⟨0, 0⟩).1 (numTo s 6 (numM s ⟨0, 0⟩).2).1 (numTo s 6 (numM s ⟨0, 0⟩).2).2
def errM (r : ReadC × RSt) : Nat := if r.2.e = 0 ∧ isB (r.1.part none 0) r.1.l = false then 11 else r.2.e
def readM (s : ByteArray) : ReadC × Nat × Nat := if errM (rawM s) ≠ 0 then (zeroR, 0, errM (rawM s)) else ((rawM s).1, (rawM s).2.at_, 0)

/-- Whether a part is well-formed doesn't ask where its entries lie. -/
theorem isB_addr (g k : Int) (a : Option Addr) (len cap : Nat) (ht hv hc i t : Int) (m h : Bool) (l : List EntryC) : isB ⟨g, k, a, len, cap, ht, hv, hc, i, t, m, h⟩ l = isB ⟨g, k, none, len, 0, ht, hv, hc, i, t, m, h⟩ l := by
  by_cases h1 : k = 1
  · subst h1; rfl
  by_cases h2 : k = 2
  · subst h2; rfl
  by_cases h3 : k = 3
  · subst h3; rfl
  by_cases h4 : k = 4
  · subst h4; rfl
  by_cases h5 : k = 5
  · subst h5; rfl
  by_cases h6 : k = 6
  · subst h6; cases m <;> cases h <;> rfl
  simp [isB, okB, h1, h2, h3, h4, h5, h6]

end Go.Proofs.Ytbhhbjgdkcfagaa
