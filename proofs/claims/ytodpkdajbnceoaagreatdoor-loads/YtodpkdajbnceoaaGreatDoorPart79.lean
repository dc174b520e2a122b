import Derived.Test.YtodpkdajbnceoaaGreatDoorPart78
import Derived.Test.YtodpkdajbnceoaaGreatDoorPart77
import Derived.Test.YtodpkdajbnceoaaGreatDoorPart76
import Derived.Test.YtodpkdajbnceoaaGreatDoorPart65
import Derived.Test.YtodpkdajbnceoaaGreatDoorPart70
set_option linter.unusedVariables false
set_option linter.unusedSimpArgs false
namespace Go.Proofs.YtodpkdajbnceoaaGreatDoor
open Go.ChangeShapes Go.WideShapes Go.ChangeAt Go.RowKit
open Go.ChangeMaps (open_string shut_string)

/-! The row and the card of Loads. -/

theorem loads_laid {W : World} (h : laidMetH Tryz.prog Rows.loadsRow.laid W) : SignsIn W ∧ ErrT W ∧ 1 < W.heap.size := by
  have h' : laidMet Tryz.prog [("horn/syntax.signs", Rows.laid_horn_syntax_signs)] W ∧ handlesMet Tryz.prog [("errors.errorType", Rows.laid_errors_errorType)] W := h
  obtain ⟨⟨ps, h3, _⟩, hh⟩ := h'
  refine ⟨laid_signs h3, laid_handle rfl hh, ?_⟩
  obtain ⟨g0, t0, cs0, f0, p0, q0, hg0, ht0, hv0, hd0, _⟩ := h3
  exact var_lt Tryz.gSigns hv0

set_option maxRecDepth 100000 in
theorem loads_lifted (os : Os) (started : os.Started) (H : Type) (enc : TypeId × Value → H) :
    ReturnsInHanded {} Tryz.checked os 4 .any (fun w args => (Rows.loadsSpec.pre enc Tryz.prog Tryz.f4 [] false w args ∧ laidMetH Tryz.prog Rows.loadsRow.laid w) ∧ sizedMet enc Tryz.prog Tryz.f4 (OpenSpec.ofChange Rows.loadsSpec) false w args)
      (Rows.loadsSpec.post enc Tryz.prog Tryz.f4 false true false false) := by
  refine returnsInHanded_of_change_and (C := Tryz.checked) (X := fun w _ => laidMetH Tryz.prog Rows.loadsRow.laid w) (fun _ _ _ hh h => h.of_heap hh) Tryz.ownK started (by kernel_rfl) Tryz.func4
    (ChangeSpec.witness_shaped (enc := enc) (C := Tryz.checked) (os := os) (X := fun w _ => laidMetH Tryz.prog Rows.loadsRow.laid w) false (World.doorLaid Tryz.prog 400 os) #[.string ByteArray.empty] 8 rfl (door_shaped os) (by kernel_rfl) (by kernel_rfl) (by kernel_rfl) (doorL_met os _)) ?_
  intro W base args ds gs before hval0 hW _ _ hL _
  have hval : ∀ (j : Nat) t v, Tryz.f4.params[j]? = some t → args[j]? = some v → Value.okWide Tryz.prog W .any base t v := hval0
  have hW' := hW
  obtain ⟨p, q, hA0, hV, rfl, hfz, hnd⟩ := hW
  have hA : DataW.TrodAll enc Tryz.prog W 0 (fun _ => true) true Tryz.f4.params.toList args.toList ds p := hA0
  rw [Tryz.params4] at hA hval
  obtain ⟨v0, d0, rfl, rfl, h0⟩ := trodAll_one hA
  obtain ⟨rfl, rfl⟩ := trodVars_none hV
  obtain ⟨s, rfl, rfl, rfl, hs⟩ := open_string Tryz.underlying9 (hval 0 9 v0 rfl rfl) h0
  clear hA0 hval0
  simp only [List.append_nil] at hW'
  obtain ⟨hsg, hE, hng⟩ := loads_laid hL
  have hm : s.size ≤ 9223372036854775807 := by unfold maxLen at hs; omega
  refine (loads_any s W hm (fun h w1 hB => plainLoad_c s w1 h (hsg.below hB hng) ((hB.cell (p := ⟨0, 0, none⟩) (Nat.lt_of_le_of_lt (by decide) hng)).trans hE) (Nat.lt_of_lt_of_le hng hB.size))).mono fun e W' ⟨hB, he⟩ => ?_
  subst he
  have e1 : Rows.loadsSpec.fn H ([.lit (.string s.data.toList)] ++ []) = { results := [.lit (.bool true)], args := [.lit (.string s.data.toList)] } := by simp [Rows.loadsSpec]
  refine ⟨_, rfl, _, _, _, [], [], [], hW', ?_, ?_, ?_, hB.frame _, fun h => by cases h⟩
  · rw [e1]; exact trodAll_mk1 (shut_bool Tryz.underlying4 true)
  · rw [e1]; exact trodAll_mk1 (shut_string Tryz.underlying9 hs)
  · rw [e1]; rfl

end Go.Proofs.YtodpkdajbnceoaaGreatDoor

namespace Go.Proofs.YtodpkdajbnceoaaGreatDoor
open Go.ChangeShapes Go.WideShapes Go.ChangeAt Go.RowKit
open Go.ChangeMaps (open_string shut_string)

theorem loads_holds : Rows.LoadsSaid :=
  OpenClaim.holds_of_wide 4 Tryz.f4 rfl rfl rfl rfl rfl rfl rfl ⟨rfl, rfl, rfl, rfl, rfl⟩ rfl rfl rfl rfl rfl jL_f Tryz.func4 jL_all jL_i jL_w
    (fun os started H enc _ => loads_lifted os started H enc)

end Go.Proofs.YtodpkdajbnceoaaGreatDoor
