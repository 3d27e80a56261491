/- The contract of package part's putForward. -/
import Derived.Test.YtfbibpnkfmgkaaaPuts
namespace Go.Proofs.Ytfbibpnkfmgkaaa
open Go.RowKit Go.Shelf
set_option linter.unusedVariables false
attribute [local go_sem] Oper.semAt_some wide_fn wide_round_fn

theorem putL_app (l m : List Int) : putL (l ++ m) = putL l ++ putL m := by simp [putL]
def flagN (p : PartC) : Int := (if p.m then 1 else 0) + (if p.h then 2 else 0)
def fwdN (p : PartC) : List Int := [flagN p] ++ ((if p.m then [p.i, p.t] else []) ++ ((if p.h then [p.ht, p.hv, p.hc] else []) ++ [(p.len : Int)]))

end Go.Proofs.Ytfbibpnkfmgkaaa
