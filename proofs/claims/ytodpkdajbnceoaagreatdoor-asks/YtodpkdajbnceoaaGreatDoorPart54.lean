import Derived.ProofKit
import Derived.OpenShut
import Derived.Deep.DeepHandedRow
import Derived.Lib.LaidTab
import Derived.ChangeSame
import Derived.ChangeVars
import Derived.RowKit
import Derived.Stop.Joined
import Derived.Test.YtodpkdajbnceoaaGreatDoorPart53
import Derived.Test.YtodpkdajbnceoaaGreatDoorPart42
import Derived.Test.YtodpkdajbnceoaaGreatDoorPart50
import Derived.Test.YtodpkdajbnceoaaGreatDoorPart47
set_option linter.all false
set_option maxRecDepth 100000
namespace Go.Proofs.YtodpkdajbnceoaaGreatDoor
open Go.ChangeShapes Go.WideShapes Go.ChangeAt Go.RowKit
def strData {H : Type} (l : List (List UInt8)) : DataW H := .agg (l.map fun s => .lit (.string s))
theorem cells_of_strs {H : Type} {enc : TypeId × Value → H} {P : Program} {w : World} {base : Nat} {sp : Nat → Bool} {held : Bool} {fuel : Nat} {t e : TypeId} {n : Nat} {cs : List Value} {l : List (List UInt8)} {p : List MemPlace}
    (ht : P.underlying t = some (.array n e)) (he : P.underlying e = some .string) (hce : P.cellsOf e = 1) (hct : P.cellsOf t = n)
    (h : DataW.trod enc P w base sp held fuel t cs = some (strData l, p)) : cs = l.map fun s => Value.string (B s) := by
  cases fuel with
  | zero => simp [DataW.trod] at h
  | succ fuel =>
    simp only [DataW.trod, ht, hce, hct, Nat.mul_one] at h
    split at h
    · rename_i hl
      obtain ⟨xs, hm, hx⟩ := Option.map_eq_some_iff.1 h
      have hxs : xs.map (·.1) = l.map fun s => (DataW.lit (.string s) : DataW H) := by
        have := congrArg Prod.fst hx
        simpa [strData] using this
      have hxl : xs.length = n := by simpa using Lib.mapM_length hm
      have hzl : l.length = n := by
        have := congrArg List.length hxs
        simp at this
        omega
      apply List.ext_getElem?
      intro i
      by_cases hi : i < n
      · obtain ⟨b, hb, hf⟩ := Lib.mapM_at hm i i (by simp [hi])
        obtain ⟨z, hc, rfl, _⟩ := DataW.trod_string he hf
        have h1 : cs[i]? = some (.string z) := by
          have := congrArg (·[0]?) hc
          simpa [List.getElem?_take, List.getElem?_drop] using this
        have h2 : (xs.map (·.1))[i]? = some (DataW.lit (.string z.data.toList) : DataW H) := by simp [hb]
        rw [hxs] at h2
        simp only [List.getElem?_map, Option.map_eq_some_iff, DataW.lit.injEq, Lit.string.injEq] at h2
        obtain ⟨z', hz', hzz⟩ := h2
        rw [h1]
        simp [hz', hzz, B_data]
      · rw [List.getElem?_eq_none (by omega), List.getElem?_eq_none (by simp; omega)]
    · cases h
theorem Tryz.ownK : ownKnob Tryz.prog.godebug = none := by kernel_rfl
theorem Tryz.gSigns : Tryz.prog.globalNamed "horn/syntax.signs" = some 1 := by kernel_rfl
theorem Tryz.gSignsT : (Tryz.prog.globals[1]?).map (·.type) = some 351 := by kernel_rfl
theorem Tryz.gErrT : Tryz.prog.globalNamed "errors.errorType" = some 0 := by kernel_rfl
theorem Tryz.cellsStr : Tryz.prog.cellsOf 9 = 1 := by kernel_rfl
theorem Tryz.cellsSigns : Tryz.prog.cellsOf 351 = 23 := by kernel_rfl
theorem Tryz.rtT : (Tryz.prog.cutTypes.find? (·.1 == "internal/reflectlite.rtype")).map (·.2) = some 313 := by kernel_rfl
theorem Tryz.errRow : ((List.range 623).filter fun t => Tryz.prog.rowNamed t [101, 114, 114, 111, 114]) = [90] := by kernel_rfl
theorem Tryz.ntypes : Tryz.prog.types.size = 623 := by kernel_rfl
theorem laid_signs {W : World} {ps : List MemPlace} (h : DataW.LaidVars Tryz.prog W [("horn/syntax.signs", strData signL)] ps) : SignsIn W := by
  obtain ⟨g', t', cs, fuel, p, q, hg', ht', hvar, hd, _, _⟩ := h
  obtain rfl := Option.some.inj (Tryz.gSigns.symm.trans hg')
  obtain rfl := Option.some.inj (Tryz.gSignsT.symm.trans ht')
  have hcs := cells_of_strs Tryz.underlyingSigns Tryz.underlying9 Tryz.cellsStr Tryz.cellsSigns hd
  intro j v hv
  have h1 := World.var?_cell Tryz.gSigns hvar j
  have h2 : cs = signCells := by rw [signCells, ← hcs]
  rw [Nat.zero_add, h1, h2]
  simpa using hv
theorem laid_handle {W : World} {d : DataW Unit} (hd : d = Rows.laid_errors_errorType) (h : handlesMet Tryz.prog [("errors.errorType", d)] W) : ErrT W := by
  have h2 := h _ (List.mem_singleton.2 rfl)
  subst hd
  have hn : (Rows.laid_errors_errorType : DataW Unit).funcsIn? = none := by kernel_rfl
  simp only [hn] at h2
  obtain ⟨name, u, ty, e1, e2, e3, e4, e5⟩ := h2
  have en : name = [101, 114, 114, 111, 114] := (Option.some.inj e1).symm
  subst en
  obtain rfl := Option.some.inj (Tryz.rtT.symm.trans e2)
  have hm : ty ∈ (List.range 623).filter fun t => Tryz.prog.rowNamed t [101, 114, 114, 111, 114] := List.mem_filter.2 ⟨List.mem_range.2 (by rw [← Tryz.ntypes]; exact e3), e4⟩
  rw [Tryz.errRow] at hm
  obtain rfl := List.mem_singleton.1 hm
  have hh : typeHandle Tryz.prog 90 = .pointer (some ⟨10, 90, none⟩) := by kernel_rfl
  rw [hh] at e5
  have h9 := World.var?_cell Tryz.gErrT e5 0
  unfold ErrT
  rw [h9]
  rfl
theorem var_lt {P : Program} {w : World} {n : String} {g : Nat} {cs : Array Value} (hg : P.globalNamed n = some g) (h : w.var? P n = some cs) : g < w.heap.size := by
  simp only [World.var?, hg, Option.bind_some] at h
  split at h
  · rename_i h1; exact (Array.getElem?_eq_some_iff.1 h1).1
  · cases h
end Go.Proofs.YtodpkdajbnceoaaGreatDoor
namespace Go.Proofs.YtodpkdajbnceoaaGreatDoor
open Go.ChangeShapes Go.WideShapes Go.ChangeAt Go.RowKit
open Go.ChangeMaps (open_string shut_string)
theorem asks_laid {W : World} (h : laidMetH Tryz.prog Rows.asksRow.laid W) : SignsIn W ∧ ErrT W ∧ 1 < W.heap.size := by
  have h' : laidMet Tryz.prog [("horn/syntax.signs", Rows.laid_horn_syntax_signs), ("internal/strconv.uint64pow10", Rows.laid_internal_strconv_uint64pow10), ("math/bits.deBruijn32tab", Rows.laid_math_bits_deBruijn32tab), ("math/bits.deBruijn64tab", Rows.laid_math_bits_deBruijn64tab), ("strconv.ErrSyntax", Rows.laid_strconv_ErrSyntax), ("strconv.ErrRange", Rows.laid_strconv_ErrRange), ("unicode/utf8.first", Rows.laid_unicode_utf8_first), ("unicode/utf8.acceptRanges", Rows.laid_unicode_utf8_acceptRanges)] W ∧ handlesMet Tryz.prog [("errors.errorType", Rows.laid_errors_errorType)] W := h
  obtain ⟨⟨ps, ⟨g0, t0, cs0, f0, p0, q0, hg0, ht0, hv0, hd0, _⟩, _⟩, hh⟩ := h'
  exact ⟨laid_signs (ps := _) ⟨g0, t0, cs0, f0, p0, [], hg0, ht0, hv0, hd0, rfl, rfl⟩, laid_handle rfl hh, var_lt (by have e := Tryz.gSigns; exact e) hv0⟩
theorem asks_lifted (os : Os) (started : os.Started) (H : Type) (enc : TypeId × Value → H) :
    ReturnsInHanded {} Tryz.checked os 5 .any (fun w args => (Rows.asksSpec.pre enc Tryz.prog Tryz.f5 [] false w args ∧ laidMetH Tryz.prog Rows.asksRow.laid w) ∧ sizedMet enc Tryz.prog Tryz.f5 (OpenSpec.ofChange Rows.asksSpec) false w args)
      (Rows.asksSpec.post enc Tryz.prog Tryz.f5 false true false false) := by
  refine returnsInHanded_of_change_and (C := Tryz.checked) (X := fun w _ => laidMetH Tryz.prog Rows.asksRow.laid w) (fun _ _ _ hh h => h.of_heap hh) Tryz.ownK started (by kernel_rfl) Tryz.func5
    (ChangeSpec.witness_shaped (enc := enc) (C := Tryz.checked) (os := os) (X := fun w _ => laidMetH Tryz.prog Rows.asksRow.laid w) false (doorA os) #[.string ByteArray.empty] 8 (doorA_os os) (doorA_shaped os) (by kernel_rfl) (by kernel_rfl) (by kernel_rfl) (doorA_met os _)) ?_
  intro W base args ds gs before hval0 hW _ _ hL _
  have hval : ∀ (j : Nat) t v, Tryz.f5.params[j]? = some t → args[j]? = some v → Value.okWide Tryz.prog W .any base t v := hval0
  have hW' := hW
  obtain ⟨p, q, hA0, hV, rfl, hfz, hnd⟩ := hW
  have hA : DataW.TrodAll enc Tryz.prog W 0 (fun _ => true) true Tryz.f5.params.toList args.toList ds p := hA0
  rw [Tryz.params5] at hA hval
  obtain ⟨v0, d0, rfl, rfl, h0⟩ := trodAll_one hA
  obtain ⟨rfl, rfl⟩ := trodVars_none hV
  obtain ⟨s, rfl, rfl, rfl, hs⟩ := open_string Tryz.underlying9 (hval 0 9 v0 rfl rfl) h0
  clear hA0 hval0
  simp only [List.append_nil] at hW'
  obtain ⟨hsg, hE, hng⟩ := asks_laid hL
  have hm : s.size ≤ 9223372036854775807 := by unfold maxLen at hs; omega
  have hEB : ∀ w1, Below W.heap.size W w1 → ErrT w1 := fun w1 hB => (hB.cell (p := ⟨0, 0, none⟩) (Nat.lt_of_le_of_lt (by decide) hng)).trans hE
  refine (asks_any s W hm (fun w1 hB => plainLoadA_c w1 (hsg.below hB hng) (Nat.lt_of_lt_of_le hng hB.size)) (fun h w1 p hB hP => plainAsk_c s w1 p h hP (hsg.below hB hng) (hEB w1 hB) (Nat.lt_of_lt_of_le hng hB.size))).mono fun e W' ⟨hB, he⟩ => ?_
  subst he
  have e1 : Rows.asksSpec.fn H ([.lit (.string s.data.toList)] ++ []) = { results := [.lit (.bool true)], args := [.lit (.string s.data.toList)] } := by simp [Rows.asksSpec]
  refine ⟨_, rfl, _, _, _, [], [], [], hW', ?_, ?_, ?_, hB.frame _, fun h => by cases h⟩
  · rw [e1]; exact trodAll_mk1 (shut_bool Tryz.underlying4 true)
  · rw [e1]; exact trodAll_mk1 (shut_string Tryz.underlying9 hs)
  · rw [e1]; rfl
theorem asks_holds : Rows.AsksSaid :=
  OpenClaim.holds_of_wide 5 Tryz.f5 rfl rfl rfl rfl rfl rfl rfl ⟨rfl, rfl, rfl, rfl, rfl⟩ rfl rfl rfl rfl rfl jA_f Tryz.func5 jA_all jA_i jA_w
    (fun os started H enc _ => asks_lifted os started H enc)
theorem asks_plain (f : FuncId) (fn : Func) (hf : Tryz.pinned.checked.prog.funcNamed "horn/hornlaw.Asks" = some f) (hfn : Tryz.pinned.checked.prog.funcs[f]? = some fn) :
    true = Tryz.pinned.checked.prog.looks [] ∧ ∀ (j : Nat) t, fn.params[j]? = some t → Tryz.pinned.checked.prog.wantsStandIn t = false := by
  obtain rfl : f = 5 := Option.some.inj ((show Tryz.prog.funcNamed "horn/hornlaw.Asks" = some 5 by kernel_rfl).symm.trans hf) |>.symm
  obtain rfl : fn = Tryz.f5 := (Option.some.inj (Tryz.func5.symm.trans hfn)).symm
  refine ⟨by kernel_rfl, fun j t ht => ?_⟩
  rw [Tryz.params5] at ht
  obtain rfl : t = 9 := by simpa using Array.mem_of_getElem? ht
  exact (show Tryz.prog.wantsStandIn 9 = false by kernel_rfl)
theorem asks_card_holds : Rows.AsksCardSaid :=
  Claim7.holds_tied_plain_at .later [] _ _ Rows.asksCard.stood.harness Rows.asksCard.stood.looks asks_holds (fun _ h => by cases h) jA_t (fun _ h => by cases h) asks_row_tied rfl ⟨rfl, rfl⟩ jA_m jA_h asks_plain jA_g
#print axioms asks_card_holds
end Go.Proofs.YtodpkdajbnceoaaGreatDoor
