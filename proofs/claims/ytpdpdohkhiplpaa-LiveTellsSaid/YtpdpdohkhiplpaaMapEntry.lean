/- 'm[k]++' where the element's place is found by itself: what its operations do, in whatever order they come. -/
import Derived.Test.YtpdpdohkhiplpaaProg
import Derived.Maps.OwnOps
import Derived.Maps.Views
import Derived.WideKeyEntry
import Derived.DeepKeys4
namespace Go.Proofs.Ytpdpdohkhiplpaa
open Go.WideElems Go.ChangeMaps
open Go.Maps (Keyed)
open Go.WideMaps (KeyLaw)
set_option linter.unusedVariables false

theorem ok_world {α : Type} {a b : α} {w w' : World} (h : (Result.ok a w : Result α) = .ok b w') : w = w' := by cases h; rfl
theorem ok_value {α : Type} {a b : α} {w w' : World} (h : (Result.ok a w : Result α) = .ok b w') : a = b := by cases h; rfl
theorem entry_facts {H : Type} {P : Program} {w : World} {t k e : TypeId} {b n : Nat} {D : DataW H} (K : KeyLaw P k) (ht : P.underlying t = some (.map k e)) (he : P.underlying e = some (.int .i64)) (hz : ∀ u : World, (zeroValue e).run P u = .ok (.int .i64 0) u)
    (hown : w.ownsMap P k (plainElem P e) b n D) (hn : n < maxLen) {key : Value} {kl : Lit} (hkey : keyOf P k key = some kl) :
    ∃ (c : Int) (v0 : Value) (st : Nat) (w5 : World), (Instr.lookup t (.map (some b)) key false).run P w = .ok (.int .i64 c) w ∧ D.atKey kl (.lit (.int .i64 0)) = .lit (.int .i64 c) ∧
      (Instr.mapEntry t (.map (some b)) key).run P w = .ok (.tuple #[v0, goInt st]) w5 ∧ (Instr.lookup t (.map (some b)) key false).run P w5 = .ok (.int .i64 c) w5 ∧ w.grownBy w5 (some b) ∧
      ∀ d : Int, (Lit.int .i64 d).wf = true → ∃ w6, (Instr.entryStore t (.map (some b)) (goInt st) (.int .i64 d)).run P w5 = .ok () w6 ∧ w6.ownsMap P k (plainElem P e) b (n + 1) (D.put kl (.lit (.int .i64 d))) ∧ w.grownBy w6 (some b) := by
  have K' : Keyed P k := .of_law K
  obtain ⟨c, hl0, hat, hwc⟩ := hown.lookup_int K' ht he (hz w) hkey
  have upd : ∀ d : Int, (Lit.int .i64 d).wf = true → ∃ w', (Instr.mapUpdate t (.map (some b)) key (.int .i64 d)).run P w = .ok () w' ∧ w'.ownsMap P k (plainElem P e) b (n + 1) (D.put kl (.lit (.int .i64 d))) ∧ w.grownBy w' (some b) := fun d hd =>
    hown.update K' ht hn hkey (plainElem_int he hd)
  have hown0 := hown
  obtain ⟨es, clock, hb, F, hsz, hD⟩ := hown
  obtain ⟨v0, st, es1, clock1, hme, halt, hst⟩ := entry_then_store (R := plainElem P e) K ht hz hb F hkey
  have g5 : w.grownBy (setBlock w b (.map es1 clock1)) (some b) := ⟨rfl, rfl, rfl, by simp [setBlock], fun i _ hi => heap_setBlock_other hb _ (fun e => hi (by rw [e]))⟩
  have hb5 : (setBlock w b (.map es1 clock1)).heap[b]? = some (.map es1 clock1) := heap_setBlock_same hb _
  have look5 : (Instr.lookup t (.map (some b)) key false).run P (setBlock w b (.map es1 clock1)) = .ok (.int .i64 c) (setBlock w b (.map es1 clock1)) := by
    rcases K.find w hkey es.toList F.keys with ⟨h1, h2⟩ | ⟨j, e0, h1, h2, h3⟩
    · -- the key wasn't there: the element is laid as nought
      have hrun : (Instr.mapEntry t (.map (some b)) key).run P w = .ok (.tuple #[.int .i64 0, goInt clock]) (setBlock w b (.map (es.push ⟨key, .int .i64 0, clock⟩) (clock + 1))) := by
        simp [Instr.mapEntry, run_underlying ht, MapKept.run_getObj_map hb, K.check w false hkey, h1, hz, MapKept.run_setObj_map _ hb, Result.andThen, setBlock]
      have hup : (Instr.mapUpdate t (.map (some b)) key (.int .i64 0)).run P w = .ok () (setBlock w b (.map (es.push ⟨key, .int .i64 0, clock⟩) (clock + 1))) := by
        simp [Instr.mapUpdate, run_underlying ht, MapKept.run_getObj_map hb, K.check w false hkey, h1, MapKept.run_setObj_map _ hb, Result.andThen, setBlock]
      have e5 : setBlock w b (.map es1 clock1) = setBlock w b (.map (es.push ⟨key, .int .i64 0, clock⟩) (clock + 1)) := by
        exact (ok_world (hrun.symm.trans hme)).symm
      obtain ⟨w', hup', hown', _⟩ := upd 0 (by decide)
      have hw' := ok_world (hup.symm.trans hup')
      rw [e5, hw']
      obtain ⟨c', hl', hat', _⟩ := hown'.lookup_int K' ht he (hz w') hkey
      have hno : c = 0 := by
        rcases Maps.fit_look false K' ht (hz w) hb F hkey with ⟨hrun0, _, _⟩ | ⟨e1, y, hm1, hk1, _⟩
        · rw [hrun0] at hl0; injection hl0 with hv; injection hv with _ hv; exact hv.symm
        · first
            | exact absurd hk1 (h2 e1 hm1)
            | exact absurd hm1 (fun h => h2 e1 h hk1)
            | exact absurd hk1 (h2 e1 (List.mem_of_getElem? hm1))
      have hc' : c' = 0 := by
        rw [Maps.atKey_put_same (by rw [hD]; exact ⟨_, rfl⟩) (K'.key hkey)] at hat'
        injection hat' with h; injection h with _ h; exact h.symm
      rw [hl', hc', hno]
    · have hsame : es.modify j (fun e => { e with key := key }) = es := by
        apply Array.ext'
        rw [Array.toList_modify, ChangeMaps.modify_eq_set _ _ _ _ h2]
        have : ({ e0 with key := key } : MapEntry) = e0 := by rw [← h3]
        rw [this]
        exact set_self _ _ _ h2
      have hj : es[j]? = some e0 := by simpa using h2
      have hrun : (Instr.mapEntry t (.map (some b)) key).run P w = .ok (.tuple #[e0.val, goInt e0.born]) (setBlock w b (.map es clock)) := by
        simp [Instr.mapEntry, run_underlying ht, MapKept.run_getObj_map hb, K.check w false hkey, h1, hj, h3, K.stays w hkey, hsame, MapKept.run_setObj_map _ hb, Result.andThen, setBlock]
      have e5 : setBlock w b (.map es1 clock1) = setBlock w b (.map es clock) := by
        exact (ok_world (hrun.symm.trans hme)).symm
      have hown5 : (setBlock w b (.map es clock)).ownsMap P k (plainElem P e) b n D := ⟨es, clock, heap_setBlock_same hb _, F, hsz, hD⟩
      rw [e5]
      obtain ⟨c', hl', hat', _⟩ := hown5.lookup_int K' ht he (hz _) hkey
      have h : c = c' := by simpa using hat.symm.trans hat'
      rw [hl', h]
  refine ⟨c, v0, st, _, hl0, hat, hme, look5, g5, fun d hd => ?_⟩
  obtain ⟨es', clock', hes, hup⟩ := hst (setBlock w b (.map es1 clock1)) (.int .i64 d) hb5
  obtain ⟨w', hup', hown', _⟩ := upd d hd
  have hw' := ok_world (hup.symm.trans hup')
  obtain ⟨es2, clock2, hb2, F2, hs2, hD2⟩ := hw' ▸ hown'
  rw [heap_setBlock_same hb] at hb2
  cases hb2
  exact ⟨_, hes, ⟨es', clock', heap_setBlock_same hb5 _, F2, hs2, hD2⟩, ⟨rfl, rfl, rfl, by simp [setBlock], fun i hi hne => (heap_setBlock_other hb5 _ (fun e => hne (by rw [e]))).trans (g5.block i hi hne)⟩⟩

end Go.Proofs.Ytpdpdohkhiplpaa
