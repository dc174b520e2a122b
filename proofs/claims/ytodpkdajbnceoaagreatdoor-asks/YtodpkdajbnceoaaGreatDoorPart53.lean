import Derived.Test.YtodpkdajbnceoaaGreatDoorPart52
set_option linter.all false
namespace Go.Proofs.YtodpkdajbnceoaaGreatDoor
open Go
theorem doorA_s (os : Os) : ((doorA os).forCall (fun _ _ => 0) ⟨#[], #[.string ByteArray.empty], []⟩).variablesZipB Tryz.prog = true := by kernel_rfl
theorem doorA_t (os : Os) : (((doorA os).forCall (fun _ _ => 0) ⟨#[], #[.string ByteArray.empty], []⟩).heap.toList.drop Tryz.prog.globals.size).take ((begin Tryz.prog (fun _ _ => 0) default).world.heap.size - Tryz.prog.globals.size) = (begin Tryz.prog (fun _ _ => 0) default).world.heap.toList.drop Tryz.prog.globals.size := by kernel_rfl
theorem doorA_laid (os : Os) (args : Array Value) : laidMet Tryz.prog asksData (doorC os args) := by
  have e1 : (asksData.filter fun x => (asksData.map (·.1)).contains x.1) = asksData := List.filter_eq_self.2 fun x hx => List.contains_iff_mem.2 (List.mem_map.2 ⟨x, hx, rfl⟩)
  have e2 : (asksData.filter fun x => !(asksData.map (·.1)).contains x.1) = [] := List.filter_eq_nil_iff.2 fun x hx => by rw [List.contains_iff_mem.2 (List.mem_map.2 ⟨x, hx, rfl⟩)]; simp
  have h : laidMet Tryz.prog asksData (doorA os) := laidMet_layVars (w0 := door0 os) (asksData.map (·.1)) [] (by rw [e1]; rfl) (by rw [e1]; exact doorA_f os) (by rw [e1]; exact doorA_i os) (by rw [e2]; exact LaidIn.none)
  exact h.of_heap (by simp [doorC, World.memory, World.forCall, Input.heap])
theorem doorA_met (os : Os) (args : Array Value) : laidMetH Tryz.prog Rows.asksRow.laid ((doorA os).forCall (fun _ _ => 0) ⟨#[], args, []⟩).memory :=
  laidMetH_of_parts3 (fuel := 8) (doorA_laid os args) (doorA_h os args) (doorA_u os args)
theorem doorA_shaped (os : Os) : ((doorA os).forCall (fun _ _ => 0) ⟨#[], #[.string ByteArray.empty], []⟩).Shaped Tryz.checked.prog := World.shaped_of_ZipB (doorA_s os) (doorA_t os)
theorem doorA_os (os : Os) : (doorA os).os = os := (World.layVars_os _ _ _).trans rfl
end Go.Proofs.YtodpkdajbnceoaaGreatDoor
