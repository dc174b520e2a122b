import Derived.Test.YtodpkdajbnceoaaGreatDoorPart20
import Derived.Test.YtodpkdajbnceoaaGreatDoorCards
import Derived.ProofKit
import Derived.OpenShut
import Derived.Deep.DeepHandedRow
import Derived.Lib.LaidTab
import Derived.LaidHandle
import Derived.LaidMore
import Derived.ChangeSame
import Derived.ChangeVars
import Derived.JoinedOf
import Derived.RowKit
import Derived.LaidLaws
import Derived.Stop.Joined
import Derived.SevenTiedAt
set_option linter.unusedVariables false
set_option linter.unusedSimpArgs false
namespace Go.Proofs.YtodpkdajbnceoaaGreatDoor
open Go.ChangeShapes Go.WideShapes Go.ChangeAt Go.RowKit

/-! The row of Reads, over a contract of term.Form. -/

/-- an array of strings as a row lists it -/
def strData {H : Type} (l : List (List UInt8)) : DataW H := .agg (l.map fun s => .lit (.string s))

theorem cells_of_strs {H : Type} {enc : TypeId × Value → H} {P : Program} {w : World} {base : Nat} {sp : Nat → Bool} {held : Bool} {fuel : Nat} {t e : TypeId} {n : Nat} {cs : List Value} {l : List (List UInt8)} {p : List MemPlace}
    (ht : P.underlying t = some (.array n e)) (he : P.underlying e = some .string) (hce : P.cellsOf e = 1) (hct : P.cellsOf t = n)
    (h : DataW.trod enc P w base sp held fuel t cs = some (strData l, p)) : cs = l.map fun s => Value.string (B s) := by
  cases fuel with
  | zero => simp [DataW.trod] at h
  | succ fuel =>
    simp only [DataW.trod, ht, hce, hct, Nat.mul_one] at h
    split at h
    · rename_i hl
      obtain ⟨xs, hm, hx⟩ := Option.map_eq_some_iff.1 h
      have hxs : xs.map (·.1) = l.map fun s => (DataW.lit (.string s) : DataW H) := by
        have := congrArg Prod.fst hx
        simpa [strData] using this
      have hxl : xs.length = n := by simpa using Lib.mapM_length hm
      have hzl : l.length = n := by
        have := congrArg List.length hxs
        simp at this
        omega
      apply List.ext_getElem?
      intro i
      by_cases hi : i < n
      · obtain ⟨b, hb, hf⟩ := Lib.mapM_at hm i i (by simp [hi])
        obtain ⟨z, hc, rfl, _⟩ := DataW.trod_string he hf
        have h1 : cs[i]? = some (.string z) := by
          have := congrArg (·[0]?) hc
          simpa [List.getElem?_take, List.getElem?_drop] using this
        have h2 : (xs.map (·.1))[i]? = some (DataW.lit (.string z.data.toList) : DataW H) := by simp [hb]
        rw [hxs] at h2
        simp only [List.getElem?_map, Option.map_eq_some_iff, DataW.lit.injEq, Lit.string.injEq] at h2
        obtain ⟨z', hz', hzz⟩ := h2
        rw [h1]
        simp [hz', hzz, B_data]
      · rw [List.getElem?_eq_none (by omega), List.getElem?_eq_none (by simp; omega)]
    · cases h

theorem Tryz.ownK : ownKnob Tryz.prog.godebug = none := by kernel_rfl
theorem Tryz.gSigns : Tryz.prog.globalNamed "horn/syntax.signs" = some 1 := by kernel_rfl
theorem Tryz.gSignsT : (Tryz.prog.globals[1]?).map (·.type) = some 351 := by kernel_rfl
theorem Tryz.gErrT : Tryz.prog.globalNamed "errors.errorType" = some 0 := by kernel_rfl
theorem Tryz.gPow : Tryz.prog.globalNamed "internal/strconv.uint64pow10" = some 2 := by kernel_rfl
theorem Tryz.cellsStr : Tryz.prog.cellsOf 9 = 1 := by kernel_rfl
theorem Tryz.cellsSigns : Tryz.prog.cellsOf 351 = 23 := by kernel_rfl
theorem Tryz.rtT : (Tryz.prog.cutTypes.find? (·.1 == "internal/reflectlite.rtype")).map (·.2) = some 313 := by kernel_rfl
theorem Tryz.errRow : ((List.range 623).filter fun t => Tryz.prog.rowNamed t [101, 114, 114, 111, 114]) = [90] := by kernel_rfl
theorem Tryz.ntypes : Tryz.prog.types.size = 623 := by kernel_rfl

theorem laid_signs {W : World} {ps : List MemPlace} (h : DataW.LaidVars Tryz.prog W [("horn/syntax.signs", strData signL)] ps) : SignsIn W := by
  obtain ⟨g', t', cs, fuel, p, q, hg', ht', hvar, hd, _, _⟩ := h
  obtain rfl := Option.some.inj (Tryz.gSigns.symm.trans hg')
  obtain rfl := Option.some.inj (Tryz.gSignsT.symm.trans ht')
  have hcs := cells_of_strs Tryz.underlyingSigns Tryz.underlying9 Tryz.cellsStr Tryz.cellsSigns hd
  intro j v hv
  have h1 := World.var?_cell Tryz.gSigns hvar j
  have h2 : cs = signCells := by rw [signCells, ← hcs]
  rw [Nat.zero_add, h1, h2]
  simpa using hv

theorem laid_handle {W : World} {d : DataW Unit} (hd : d = Rows.laid_errors_errorType) (h : handlesMet Tryz.prog [("errors.errorType", d)] W) : ErrT W := by
  have h2 := h _ (List.mem_singleton.2 rfl)
  subst hd
  have hn : (Rows.laid_errors_errorType : DataW Unit).funcsIn? = none := by kernel_rfl
  simp only [hn] at h2
  obtain ⟨name, u, ty, e1, e2, e3, e4, e5⟩ := h2
  have en : name = [101, 114, 114, 111, 114] := (Option.some.inj e1).symm
  subst en
  obtain rfl := Option.some.inj (Tryz.rtT.symm.trans e2)
  have hm : ty ∈ (List.range 623).filter fun t => Tryz.prog.rowNamed t [101, 114, 114, 111, 114] := List.mem_filter.2 ⟨List.mem_range.2 (by rw [← Tryz.ntypes]; exact e3), e4⟩
  rw [Tryz.errRow] at hm
  obtain rfl := List.mem_singleton.1 hm
  have hh : typeHandle Tryz.prog 90 = .pointer (some ⟨10, 90, none⟩) := by kernel_rfl
  rw [hh] at e5
  have h9 := World.var?_cell Tryz.gErrT e5 0
  unfold ErrT
  rw [h9]
  rfl

abbrev readsLaid : List (String × DataW Unit) := Rows.readsRow.laid

theorem var_lt {P : Program} {w : World} {n : String} {g : Nat} {cs : Array Value} (hg : P.globalNamed n = some g) (h : w.var? P n = some cs) : g < w.heap.size := by
  simp only [World.var?, hg, Option.bind_some] at h
  split at h
  · rename_i h1; exact (Array.getElem?_eq_some_iff.1 h1).1
  · cases h

theorem Tryz.gLast : Tryz.prog.globalNamed "math/bits.deBruijn64tab" = some 5 := by kernel_rfl

/-- What the row's list gives. -/
theorem reads_laid {W : World} (h : laidMetH Tryz.prog Rows.readsRow.laid W) : SignsIn W ∧ ErrT W ∧ Lib.TabIs Tryz.prog W "internal/strconv.uint64pow10" .u64 Lib.pow10Tab ∧ 5 + 1 ≤ W.heap.size := by
  have h' : laidMet Tryz.prog [("horn/syntax.signs", Rows.laid_horn_syntax_signs), ("internal/strconv.uint64pow10", Rows.laid_internal_strconv_uint64pow10), ("math/bits.deBruijn32tab", Rows.laid_math_bits_deBruijn32tab), ("math/bits.deBruijn64tab", Rows.laid_math_bits_deBruijn64tab)] W ∧ handlesMet Tryz.prog [("errors.errorType", Rows.laid_errors_errorType)] W := h
  obtain ⟨⟨ps, ⟨g0, t0, cs0, f0, p0, q0, hg0, ht0, hv0, hd0, ⟨g1, t1, cs1, f1, p1, q1, hg1, ht1, hv1, hd1, ⟨g2, t2, cs2, f2, p2, q2, hg2, ht2, hv2, hd2, ⟨g3, t3, cs3, f3, p3, q3, hg3, ht3, hv3, hd3, _, _⟩, _⟩, _⟩, _⟩, _⟩, hh⟩ := h'
  refine ⟨laid_signs (ps := _) ⟨g0, t0, cs0, f0, p0, [], hg0, ht0, hv0, hd0, rfl, rfl⟩, laid_handle rfl hh, ?_, by have := var_lt Tryz.gLast hv3; omega⟩
  obtain rfl := Option.some.inj (Tryz.gPow.symm.trans hg1)
  obtain rfl := Option.some.inj ((show (Tryz.prog.globals[2]?).map (·.type) = some 462 by kernel_rfl).symm.trans ht1)
  unfold Lib.TabIs
  rw [hv1, ← Lib.cells_of_tab (k := .u64) (zs := Lib.pow10Tab) (show Tryz.prog.underlying 462 = some (.array 20 419) by kernel_rfl) (show Tryz.prog.underlying 419 = some (.int .u64) by kernel_rfl) (by kernel_rfl) (by kernel_rfl) hd1]

end Go.Proofs.YtodpkdajbnceoaaGreatDoor
