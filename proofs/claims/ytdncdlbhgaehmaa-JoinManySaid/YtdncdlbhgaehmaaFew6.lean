/- Known6, Few6: in one text. -/
import Derived.Test.YtdncdlbhgaehmaaGrpDo
import Derived.Test.YtdncdlbhgaehmaaPartSame
/- What the sixth layer's laws hold by themselves: the examples. -/
namespace Go.Proofs.Ytdncdlbhgaehmaa
open Go.RowKit Go.Shelf
set_option linter.unusedVariables false
attribute [local go_sem] Oper.semAt_some wide_fn wide_round_fn

theorem alloc3 (w : World) (A B C : Array Value) (S T U : TypeId) : (((w.alloc (.cells A S)).alloc (.cells B T)).alloc (.cells C U)).heap[w.heap.size]? = some (.cells A S (0, 0)) ∧ (((w.alloc (.cells A S)).alloc (.cells B T)).alloc (.cells C U)).heap[w.heap.size + 1]? = some (.cells B T (0, 0)) ∧ (((w.alloc (.cells A S)).alloc (.cells B T)).alloc (.cells C U)).heap[w.heap.size + 1 + 1]? = some (.cells C U (0, 0)) ∧ Below w.heap.size w (((w.alloc (.cells A S)).alloc (.cells B T)).alloc (.cells C U)) := by
  have h1 := two_a w A B S T
  have h2 := two_b w A B S T
  have h3 := World.alloc_heap_new ((w.alloc (.cells A S)).alloc (.cells B T)) (.cells C U)
  rw [World.size_alloc, World.size_alloc] at h3
  have hB := bel_alloc (Below.refl _ ((w.alloc (.cells A S)).alloc (.cells B T))) (.cells C U)
  exact ⟨(hB.block _ (heap_lt h1)).trans h1, (hB.block _ (heap_lt h2)).trans h2, h3, bel2 (gp_bel _ _ _ _ _) hB⟩
theorem hasG_nil (W : World) (a : Option Addr) (id fi te ht hv hc : Int) : HasG W a ⟨id, fi, te, ht, hv, hc, []⟩ := ⟨(by decide : 0 < 1000000), RowV.nil _ _ _⟩
theorem cells10a {W : World} {b : Nat} {T : TypeId} {v0 v1 v2 v3 v4 v5 v6 v7 v8 v9 : Value} (h : W.heap[b]? = some (.cells #[v0, v1, v2, v3, v4, v5, v6, v7, v8, v9] T (0, 0))) :
    W.cell? ⟨b, 0, none⟩ = some v0 ∧ W.cell? ⟨b, 1, none⟩ = some v1 ∧ W.cell? ⟨b, 2, none⟩ = some v2 ∧ W.cell? ⟨b, 3, none⟩ = some v3 ∧ W.cell? ⟨b, 4, none⟩ = some v4 ∧ W.cell? ⟨b, 5, none⟩ = some v5 ∧ W.cell? ⟨b, 6, none⟩ = some v6 ∧ W.cell? ⟨b, 7, none⟩ = some v7 ∧ W.cell? ⟨b, 8, none⟩ = some v8 ∧ W.cell? ⟨b, 9, none⟩ = some v9 :=
  ⟨cell_of_row _ _ 0 _ _ _ h, cell_of_row _ _ 1 _ _ _ h, cell_of_row _ _ 2 _ _ _ h, cell_of_row _ _ 3 _ _ _ h, cell_of_row _ _ 4 _ _ _ h, cell_of_row _ _ 5 _ _ _ h, cell_of_row _ _ 6 _ _ _ h, cell_of_row _ _ 7 _ _ _ h, cell_of_row _ _ 8 _ _ _ h, cell_of_row _ _ 9 _ _ _ h⟩
theorem kn1 (X : Nat) : chkG ⟨7, 1, 0, 0, 0, 0, []⟩ ⟨7, 1, (some ⟨X, 0, none⟩), 2, 2, 0, 0, 0, 0, 0, false, false⟩ [⟨1, 2, ⟨#[97]⟩⟩, ⟨2, 2, ⟨#[]⟩⟩] = 0 ∧ doG ⟨7, 1, 0, 0, 0, 0, []⟩ ⟨7, 1, (some ⟨X, 0, none⟩), 2, 2, 0, 0, 0, 0, 0, false, false⟩ [⟨1, 2, ⟨#[97]⟩⟩, ⟨2, 2, ⟨#[]⟩⟩] = ⟨7, 1, 0, 0, 0, 0, [⟨1, 2, ⟨#[97]⟩⟩, ⟨2, 2, ⟨#[]⟩⟩]⟩ := ⟨by kernel_rfl, by kernel_rfl⟩
theorem kn2 (X : Nat) : chkG ⟨7, 1, 0, 0, 0, 0, []⟩ ⟨7, 1, (some ⟨X, 0, none⟩), 1, 1, 0, 0, 0, 0, 0, false, false⟩ [⟨2, 2, ⟨#[]⟩⟩] = 14 ∧ doG ⟨7, 1, 0, 0, 0, 0, []⟩ ⟨7, 1, (some ⟨X, 0, none⟩), 1, 1, 0, 0, 0, 0, 0, false, false⟩ [⟨2, 2, ⟨#[]⟩⟩] = ⟨7, 1, 0, 0, 0, 0, []⟩ := ⟨by kernel_rfl, by kernel_rfl⟩
theorem kn3 : chkG ⟨7, 1, 0, 0, 0, 0, [⟨1, 2, ⟨#[97]⟩⟩, ⟨2, 2, ⟨#[]⟩⟩]⟩ ⟨7, 3, none, 0, 0, 0, 0, 0, 1, 0, false, false⟩ [] = 0 ∧ doG ⟨7, 1, 0, 0, 0, 0, [⟨1, 2, ⟨#[97]⟩⟩, ⟨2, 2, ⟨#[]⟩⟩]⟩ ⟨7, 3, none, 0, 0, 0, 0, 0, 1, 0, false, false⟩ [] = ⟨7, 2, 2, 0, 0, 0, [⟨2, 2, ⟨#[]⟩⟩]⟩ := ⟨by kernel_rfl, by kernel_rfl⟩
theorem kn4 (X : Nat) : chkG ⟨7, 2, 2, 0, 0, 0, [⟨2, 2, ⟨#[]⟩⟩]⟩ ⟨7, 1, (some ⟨X, 0, none⟩), 2, 2, 0, 0, 0, 0, 0, false, false⟩ [⟨1, 2, ⟨#[97]⟩⟩, ⟨2, 2, ⟨#[]⟩⟩] = 15 := by kernel_rfl
theorem kn5 : termG ⟨7, 2, 2, 0, 0, 0, [⟨2, 2, ⟨#[]⟩⟩]⟩ 1 = (2, 0) ∧ termG ⟨7, 2, 2, 0, 0, 0, [⟨2, 2, ⟨#[]⟩⟩]⟩ 0 = (0, 15) ∧ entsG ⟨7, 2, 2, 0, 0, 0, [⟨2, 2, ⟨#[]⟩⟩]⟩ 2 3 = ([⟨2, 2, ⟨#[]⟩⟩], 0) := ⟨by kernel_rfl, by kernel_rfl, by kernel_rfl⟩
theorem kn6 : isG ⟨7, 1, 0, 0, 0, 0, []⟩ = true ∧ isG ⟨7, 1, 0, 0, 0, 0, [⟨1, 2, ⟨#[97]⟩⟩, ⟨2, 2, ⟨#[]⟩⟩]⟩ = true ∧ isG ⟨7, 2, 2, 0, 0, 0, [⟨2, 2, ⟨#[]⟩⟩]⟩ = true := ⟨by kernel_rfl, by kernel_rfl, by kernel_rfl⟩
theorem es1_has {W : World} {X : Nat} (h : W.heap[X]? = some (.cells #[.int .i64 1, .int .i64 2, .string ⟨#[97]⟩, .int .i64 2, .int .i64 2, .string ⟨#[]⟩] 115 (0, 0))) : HasE W ⟨7, 1, (some ⟨X, 0, none⟩), 2, 2, 0, 0, 0, 0, 0, false, false⟩ [⟨1, 2, ⟨#[97]⟩⟩, ⟨2, 2, ⟨#[]⟩⟩] :=
  ⟨rfl, (by decide : 2 < 1000000), by exact rowV_block (cs := #[.int .i64 1, .int .i64 2, .string ⟨#[97]⟩, .int .i64 2, .int .i64 2, .string ⟨#[]⟩]) (n := 2) (sz := 3) h rfl (by decide)⟩
theorem es2_has {W : World} {X : Nat} (h : W.heap[X]? = some (.cells #[.int .i64 2, .int .i64 2, .string ⟨#[]⟩] 115 (0, 0))) : HasE W ⟨7, 1, (some ⟨X, 0, none⟩), 1, 1, 0, 0, 0, 0, 0, false, false⟩ [⟨2, 2, ⟨#[]⟩⟩] :=
  ⟨rfl, (by decide : 1 < 1000000), by exact rowV_block (cs := #[.int .i64 2, .int .i64 2, .string ⟨#[]⟩]) (n := 1) (sz := 3) h rfl (by decide)⟩

end Go.Proofs.Ytdncdlbhgaehmaa

/- What is few at the sixth layer; a group that came in. -/
namespace Go.Proofs.Ytdncdlbhgaehmaa
open Go.RowKit Go.Shelf Go.ChangeShapes Go.WideShapes Go.Deep
set_option linter.unusedVariables false
open Go.ChangeMaps (open_string)
attribute [local go_sem] Oper.semAt_some wide_fn wide_round_fn

def few6B (l : List EntryC) : Bool := l.all (fun e => decide (e.d.size ≤ 60)) && decide (l.length ≤ 8)
/-- A row of parts is few. -/
def fewPs6 (L : List PL) : Bool := L.all (fun x => few6B x.2) && decide (L.length ≤ 6)
def fewGB (l : List EntryC) : Bool := l.all (fun e => decide (e.d.size ≤ 60)) && decide (l.length ≤ 30)
/-- A group that came in. -/
def GoodG (W : World) (g : GM) (a : Option Addr) : Prop := (in64 g.id ∧ in64 g.fi ∧ in64 g.te ∧ in64 g.ht ∧ in64 g.hv ∧ in64 g.hc) ∧ RowV W a g.l.length 3 (entryCells g.l) ∧ ∀ e ∈ g.l, goodEntry e
theorem GoodG.below {w W : World} {g : GM} {a : Option Addr} (h : GoodG w g a) (hB : Below w.heap.size w W) : GoodG W g a := ⟨h.1, h.2.1.below hB, h.2.2⟩
theorem GoodG.has {w : World} {g : GM} {a : Option Addr} (h : GoodG w g a) (hf : fewGB g.l = true) : HasG w a g ∧ g.l.length ≤ 30 := by
  simp only [fewGB, Bool.and_eq_true, decide_eq_true_eq] at hf
  exact ⟨⟨by omega, h.2.1⟩, hf.2⟩
theorem GoodP.has {w : World} {x : PL} (h : GoodP w x) (hf : few6B x.2 = true) : HasE w x.1 x.2 := by
  simp only [few6B, Bool.and_eq_true, decide_eq_true_eq] at hf
  exact ⟨h.2.1, by have := h.2.1; omega, h.2.2.1⟩
set_option maxRecDepth 100000 in
theorem open_group {H : Type} {enc : TypeId × Value → H} {W : World} {r : Reach} {b0 : Nat} {v : Value} {d : DataW H} {ps : List MemPlace} (hv : Value.okWide Try.prog W r b0 65 v)
    (h : DataW.Trod enc Try.prog W 0 (fun _ => true) true 65 v d ps) : ∃ (g : GM) (a : Option Addr) (cap : Nat), v = g.val a cap ∧ GoodG W g a := by
  obtain ⟨cs, rfl, hsz⟩ := okWide_struct Try.underlying65 hv
  obtain ⟨fuel, hf⟩ := h
  have h7 : cs.size = 7 := hsz.trans (show Try.prog.cellsOf 65 = 7 by kernel_rfl)
  have k1 : Try.prog.cellsOf 3 = 1 := by kernel_rfl
  have ks : Try.prog.cellsOf 37 = 1 := by kernel_rfl
  have kh : Try.prog.cellsOf 39 = 3 := by kernel_rfl
  obtain ⟨l7⟩ := cs
  simp only [Value.cells] at hf
  match l7, h7 with
  | [c0, c1, c2, c3, c4, c5, c6], _ =>
    obtain ⟨xs, n', _, _, _, hxl, hf⟩ := DataW.trod_struct Try.underlying65 hf
    match xs, hxl with
    | [y0, y1, y2, y3, y4], _ =>
      obtain ⟨z0, e0, _, w0⟩ := DataW.trod_int Try.underlying3 (trod_field hf 0 0 1 3 rfl k1)
      obtain ⟨z1, e1, _, w1⟩ := DataW.trod_int Try.underlying3 (trod_field hf 1 1 1 3 rfl k1)
      obtain ⟨z2, e2, _, w2⟩ := DataW.trod_int Try.underlying3 (trod_field hf 2 2 1 3 rfl k1)
      obtain ⟨xs2, n2, _, _, _, hxl2, hf2⟩ := DataW.trod_struct Try.underlying39 (trod_field hf 3 3 3 39 rfl kh)
      have hen := trod_field hf 4 6 1 37 rfl ks
      match xs2, hxl2 with
      | [u0, u1, u2], _ =>
        obtain ⟨z3, e3, _, w3⟩ := DataW.trod_int Try.underlying3 (trod_field hf2 0 0 1 3 rfl k1)
        obtain ⟨z4, e4, _, w4⟩ := DataW.trod_int Try.underlying3 (trod_field hf2 1 1 1 3 rfl k1)
        obtain ⟨z5, e5, _, w5⟩ := DataW.trod_int Try.underlying3 (trod_field hf2 2 2 1 3 rfl k1)
        simp at e0 e1 e2 e3 e4 e5
        subst e0 e1 e2 e3 e4 e5
        have hsl : ∃ (a : Option Addr) (len cap : Nat), c6 = .slice a len cap := by
          rcases open_slice Try.underlying37 hen with ⟨hcs, _⟩ | ⟨ad, len', cap', _, _, _, _, hcs, _⟩
          · simp at hcs; exact ⟨_, _, _, hcs⟩
          · simp at hcs; exact ⟨_, _, _, hcs⟩
        obtain ⟨a, len, cap, rfl⟩ := hsl
        obtain ⟨l, h1, h2, h3, h4⟩ := open_entries (enc := enc) (W := W) (a := a) (len := len) (cap := cap) (d := y4.1) (ps := y4.2) ⟨n', hen⟩
        subst h1
        exact ⟨⟨z0, z1, z2, z3, z4, z5, l⟩, a, cap, rfl, ⟨bounds_i64 w0, bounds_i64 w1, bounds_i64 w2, bounds_i64 w3, bounds_i64 w4, bounds_i64 w5⟩, h3, h4⟩

end Go.Proofs.Ytdncdlbhgaehmaa
