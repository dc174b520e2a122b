import Derived.Test.YtodpkdajbnceoaaGreatDoorPart21
import Derived.Shelf.Abstract
import Derived.Lib.SliceRun
set_option linter.unusedVariables false
set_option linter.unusedSimpArgs false
namespace Go.Proofs.YtodpkdajbnceoaaGreatDoor
open Go.RowKit Go.Shelf

/-! How close a term's sign binds; cells of lists. -/

def strOf : Ex → Int
  | .cmp n args => if args.length = 2 then ssS n else 3
  | _ => 3

/-- a name with arguments, as it lies -/
def CompAt (w : World) (g : Nat) (n : ByteArray) (ga k cap : Nat) : Prop := w.heap[g]? = some (.cells #[.string n, .slice (some ⟨ga, 0, none⟩) k cap, .slice none 0 0, .map none] 399 (0, 0))

theorem ints_nil (w : World) (a : Option Addr) (n c n' c' : Nat) : (binOp .eql 65 (.slice a n c) (.slice none n' c')).run Tryz.prog w = .ok (.bool a.isNone) w := Lib.run_eql_slice_nil w _ _ a n c n' c' Tryz.underlyingInts

theorem CompAt.cells {w : World} {g ga k cap : Nat} {n : ByteArray} (h : CompAt w g n ga k cap) : w.cell? ⟨g, 0, none⟩ = some (.string n) ∧ w.cell? ⟨g, 1, none⟩ = some (.slice (some ⟨ga, 0, none⟩) k cap) ∧ w.cell? ⟨g, 2, none⟩ = some (.slice none 0 0) ∧ g < w.heap.size :=
  ⟨by rw [cell_of_block h]; rfl, by rw [cell_of_block h]; rfl, by rw [cell_of_block h]; rfl, (Array.getElem?_eq_some_iff.1 h).1⟩

set_option maxRecDepth 100000 in
set_option maxHeartbeats 400000 in
theorem compArity_c {w : World} {g ga k cap : Nat} {n : ByteArray} (h : CompAt w g n ga k cap) :
    Calls Tryz.prog 280 #[ptrV g] w fun e w' => e = .returned (.int .i64 k) ∧ w' = w := by
  obtain ⟨c0, c1, c2, hlt⟩ := h.cells
  have qn := ints_nil
  clear h
  unfold ptrV
  go_enter Tryz.func280, Tryz.ntmps280
  go_wp2
  go_ret
  exact ⟨rfl, rfl⟩

set_option maxRecDepth 100000 in
set_option maxHeartbeats 400000 in
theorem arg_c {w : World} {g ga k cap j : Nat} {n : ByteArray} {t : TypeId} {v : Value} (h : CompAt w g n ga k cap) (hj : j < k) (hd : w.cell? ⟨ga, j, none⟩ = some (.iface t v)) (hga : ga < w.heap.size) :
    Calls Tryz.prog 281 #[ptrV g, .int .i64 j] w fun e w' => e = .returned (.iface t v) ∧ w' = w := by
  obtain ⟨c0, c1, c2, hlt⟩ := h.cells
  have qn := ints_nil
  clear h
  unfold ptrV
  go_enter Tryz.func281, Tryz.ntmps281
  go_wp2
  go_ret
  exact ⟨rfl, rfl⟩

set_option maxRecDepth 100000 in
set_option maxHeartbeats 400000 in
theorem isCell_c {w : World} {g ga k cap : Nat} {n : ByteArray} (h : CompAt w g n ga k cap) (hk : k ≤ maxLen) :
    Calls Tryz.prog 227 #[ptrV g] w fun e w' => e = .returned (.bool (decide (n = B [46] ∧ k = 2))) ∧ w' = w := by
  have HA := hide (compArity_c h)
  obtain ⟨c0, c1, c2, hlt⟩ := h.cells
  have hs := strb n [46]
  unfold maxLen at hk
  clear h
  unfold ptrV at *
  by_cases hn : n = B [46]
  · have hb : (n.toList == [46]) = true := hs.1 hn
    have HN := hide hn
    clear hn hs
    go_enter Tryz.func227, Tryz.ntmps227
    go_wp2_with (go_at_call 280; refine HA.out.mono ?_; rintro e w1 ⟨rfl, rfl⟩)
    go_ret
    refine ⟨congrArg (fun b => Ending.returned (Value.bool b)) ?_, rfl⟩
    rw [Bool.eq_iff_iff]
    simp [HN.out]
    omega
  · have hb : (n.toList == [46]) = false := by
      have := (not_congr hs).1 hn
      simpa using this
    have HN := hide hn
    clear hn hs
    go_enter Tryz.func227, Tryz.ntmps227
    go_wp2_with fail
    go_ret
    refine ⟨congrArg (fun b => Ending.returned (Value.bool b)) ?_, rfl⟩
    simp [HN.out]

set_option maxRecDepth 100000 in
set_option maxHeartbeats 400000 in
theorem compStrength_c {w : World} {g ga k cap : Nat} {n : ByteArray} (h : CompAt w g n ga k cap) (hk : k ≤ maxLen) :
    Calls Tryz.prog 283 #[ptrV g] w fun e w' => e = .returned (.int .i64 (if k = 2 then ssS n else 3)) ∧ w' = w := by
  have HA := hide (compArity_c h)
  obtain ⟨c0, c1, c2, hlt⟩ := h.cells
  have HS := hide (signStrength_c n w)
  unfold maxLen at hk
  clear h
  unfold ptrV at *
  by_cases hk2 : k = 2
  · subst hk2
    go_enter Tryz.func283, Tryz.ntmps283
    go_wp2_with (first | (go_at_call 280; refine HA.out.mono ?_; rintro e w1 ⟨rfl, rfl⟩) | (go_at_call 224; refine HS.out.mono ?_; rintro e w1 ⟨rfl, rfl⟩))
    go_ret
    exact ⟨rfl, rfl⟩
  · rw [if_neg hk2]
    go_enter Tryz.func283, Tryz.ntmps283
    go_wp2_with (first | (go_at_call 280; refine HA.out.mono ?_; rintro e w1 ⟨rfl, rfl⟩))
    go_ret
    exact ⟨rfl, rfl⟩

theorem Tryz.mStrA (n : ByteArray) (w : World) : (Go.method 723 338 (.string n) "Strength").run Tryz.prog w = .ok (475, .string n) w := by kernel_rfl
theorem Tryz.mStrN (v : Int) (w : World) : (Go.method 723 339 (.int .i64 v) "Strength").run Tryz.prog w = .ok (476, .int .i64 v) w := by kernel_rfl
theorem Tryz.mStrV (b : Nat) (w : World) : (Go.method 723 267 (ptrV b) "Strength").run Tryz.prog w = .ok (463, ptrV b) w := by kernel_rfl
theorem Tryz.mStrC (b : Nat) (w : World) : (Go.method 723 342 (ptrV b) "Strength").run Tryz.prog w = .ok (283, ptrV b) w := by kernel_rfl

/-- the method that a term's value answers with -/
structure StrM (w : World) (x : Ex) (u : Value) (t : TypeId) (v : Value) (f : FuncId) : Prop where
  u : u = .iface t v
  m : ∀ w', (Go.method 723 t v "Strength").run Tryz.prog w' = .ok (f, v) w'
  e : Enters Tryz.prog f
  c : ∀ w', TKeeps (fun _ => True) w w' → Calls Tryz.prog f #[v] w' fun e w'' => e = .returned (.int .i64 (strOf x)) ∧ w'' = w'

set_option maxRecDepth 100000 in
set_option maxHeartbeats 400000 in
theorem TRep.str {w : World} {Ok : Nat → Prop} {vbs : List Nat} {x : Ex} {u : Value} (h : TRep w Ok vbs x u) : ∃ t v f, StrM w x u t v f := by
  cases h with
  | atom n =>
    refine ⟨_, _, 475, rfl, Tryz.mStrA n, enters_of Tryz.func475 (by kernel_rfl) rfl, fun w' _ => ?_⟩
    go_enter Tryz.func475, Tryz.ntmps475
    go_wp2
    go_ret
    exact ⟨rfl, rfl⟩
  | num v =>
    refine ⟨_, _, 476, rfl, Tryz.mStrN v, enters_of Tryz.func476 (by kernel_rfl) rfl, fun w' _ => ?_⟩
    go_enter Tryz.func476, Tryz.ntmps476
    go_wp2
    go_ret
    exact ⟨rfl, rfl⟩
  | var k b hk =>
    refine ⟨_, _, 463, rfl, Tryz.mStrV b, enters_of Tryz.func463 (by kernel_rfl) rfl, fun w' _ => ?_⟩
    unfold ptrV
    go_enter Tryz.func463, Tryz.ntmps463
    go_wp2
    go_ret
    exact ⟨rfl, rfl⟩
  | cmp n args g ga cap cur us hg ho ha hc hm hs hu hr =>
    refine ⟨_, _, 283, rfl, Tryz.mStrC g, enters_of Tryz.func283 (by kernel_rfl) rfl, fun w' hk => ?_⟩
    exact compStrength_c (hk g _ _ (.inl rfl) hg) (Nat.le_trans hc hm)

set_option maxRecDepth 100000 in
set_option maxHeartbeats 400000 in
theorem isOperation_c {w : World} {Ok : Nat → Prop} {vbs : List Nat} {x : Ex} {u : Value} (h : TRep w Ok vbs x u) :
    Calls Tryz.prog 229 #[u] w fun e w' => e = .returned (.bool (decide (strOf x < 3))) ∧ w' = w := by
  obtain ⟨t, v, f, hM⟩ := h.str
  have hm := hM.m
  have he : ∀ args w, (callFunc f args).run Tryz.prog w = .ok (.enter f args) w := hM.e
  have HC := hide (hM.c w (fun _ _ _ _ h => h))
  have hu := hM.u
  clear hM h
  subst hu
  go_enter Tryz.func229, Tryz.ntmps229
  go_wp2_with (go_at_fn f; refine HC.out.mono ?_; rintro e w1 ⟨rfl, rfl⟩)
  go_ret
  exact ⟨rfl, rfl⟩

end Go.Proofs.YtodpkdajbnceoaaGreatDoor

namespace Go.Proofs.YtodpkdajbnceoaaGreatDoor
open Go.RowKit Go.Shelf

/-! What kind of term it is. -/

theorem Tryz.taAA (v : Value) (w : World) : (Instr.typeAssert (.iface 338 v) 185 338 true).run Tryz.prog w = .ok (.tuple #[v, .bool true]) w := by kernel_rfl
theorem Tryz.taAN (v : Value) (w : World) : (Instr.typeAssert (.iface 338 v) 185 339 true).run Tryz.prog w = .ok (.tuple #[.int .i64 0, .bool false]) w := by kernel_rfl
theorem Tryz.taAV (v : Value) (w : World) : (Instr.typeAssert (.iface 338 v) 185 267 true).run Tryz.prog w = .ok (.tuple #[.pointer none, .bool false]) w := by kernel_rfl
theorem Tryz.taAC (v : Value) (w : World) : (Instr.typeAssert (.iface 338 v) 185 342 true).run Tryz.prog w = .ok (.tuple #[.pointer none, .bool false]) w := by kernel_rfl
theorem Tryz.taNA (v : Value) (w : World) : (Instr.typeAssert (.iface 339 v) 185 338 true).run Tryz.prog w = .ok (.tuple #[.string ByteArray.empty, .bool false]) w := by kernel_rfl
theorem Tryz.taNN (v : Value) (w : World) : (Instr.typeAssert (.iface 339 v) 185 339 true).run Tryz.prog w = .ok (.tuple #[v, .bool true]) w := by kernel_rfl
theorem Tryz.taNV (v : Value) (w : World) : (Instr.typeAssert (.iface 339 v) 185 267 true).run Tryz.prog w = .ok (.tuple #[.pointer none, .bool false]) w := by kernel_rfl
theorem Tryz.taNC (v : Value) (w : World) : (Instr.typeAssert (.iface 339 v) 185 342 true).run Tryz.prog w = .ok (.tuple #[.pointer none, .bool false]) w := by kernel_rfl
theorem Tryz.taVA (v : Value) (w : World) : (Instr.typeAssert (.iface 267 v) 185 338 true).run Tryz.prog w = .ok (.tuple #[.string ByteArray.empty, .bool false]) w := by kernel_rfl
theorem Tryz.taVN (v : Value) (w : World) : (Instr.typeAssert (.iface 267 v) 185 339 true).run Tryz.prog w = .ok (.tuple #[.int .i64 0, .bool false]) w := by kernel_rfl
theorem Tryz.taVV (v : Value) (w : World) : (Instr.typeAssert (.iface 267 v) 185 267 true).run Tryz.prog w = .ok (.tuple #[v, .bool true]) w := by kernel_rfl
theorem Tryz.taVC (v : Value) (w : World) : (Instr.typeAssert (.iface 267 v) 185 342 true).run Tryz.prog w = .ok (.tuple #[.pointer none, .bool false]) w := by kernel_rfl
theorem Tryz.taCA (v : Value) (w : World) : (Instr.typeAssert (.iface 342 v) 185 338 true).run Tryz.prog w = .ok (.tuple #[.string ByteArray.empty, .bool false]) w := by kernel_rfl
theorem Tryz.taCN (v : Value) (w : World) : (Instr.typeAssert (.iface 342 v) 185 339 true).run Tryz.prog w = .ok (.tuple #[.int .i64 0, .bool false]) w := by kernel_rfl
theorem Tryz.taCV (v : Value) (w : World) : (Instr.typeAssert (.iface 342 v) 185 267 true).run Tryz.prog w = .ok (.tuple #[.pointer none, .bool false]) w := by kernel_rfl
theorem Tryz.taCC (v : Value) (w : World) : (Instr.typeAssert (.iface 342 v) 185 342 true).run Tryz.prog w = .ok (.tuple #[v, .bool true]) w := by kernel_rfl

end Go.Proofs.YtodpkdajbnceoaaGreatDoor

namespace Go.Proofs.YtodpkdajbnceoaaGreatDoor
open Go.RowKit Go.Shelf

/-! What a term is by now: those that were read have no values. -/

def NoCell (r : Ex) : Prop := ∀ a b, r ≠ cellEx a b

theorem Tryz.eqNil (w : World) : (binOp .eql 185 .nilIface .nilIface).run Tryz.prog w = .ok (.bool true) w := by kernel_rfl

set_option maxRecDepth 100000 in
set_option maxHeartbeats 1000000 in
theorem resolve_c {w : World} {Ok : Nat → Prop} {vbs : List Nat} {x : Ex} {u : Value} (h : TRep w Ok vbs x u) (hv : VarBlks w vbs) :
    Calls Tryz.prog 182 #[u] w fun e w' => e = .returned u ∧ w' = w := by
  have tAV := Tryz.taAV
  have tNV := Tryz.taNV
  have tVV := Tryz.taVV
  have tCV := Tryz.taCV
  have qe := Tryz.eqNil
  cases h with
  | atom n =>
    go_enter Tryz.func182, Tryz.ntmps182
    go_wp2_with fail
    go_loop [0] (fun v => v = .iface 338 (.string n)) (fun _ => 0)
    case atStart => rfl
    case round =>
      subst hrel
      go_wp2_with fail
      go_ret
      exact ⟨rfl, rfl⟩
  | num v =>
    go_enter Tryz.func182, Tryz.ntmps182
    go_wp2_with fail
    go_loop [0] (fun u => u = .iface 339 (.int .i64 v)) (fun _ => 0)
    case atStart => rfl
    case round =>
      subst hrel
      go_wp2_with fail
      go_ret
      exact ⟨rfl, rfl⟩
  | var k b hk =>
    obtain ⟨n, j, hb⟩ := hv b (List.mem_of_getElem? hk)
    have c2 : w.cell? ⟨b, 2, none⟩ = some .nilIface := by rw [cell_of_block hb]; rfl
    have hlt : b < w.heap.size := (Array.getElem?_eq_some_iff.1 hb).1
    clear hb hv hk
    unfold ptrV
    go_enter Tryz.func182, Tryz.ntmps182
    go_wp2_with fail
    go_loop [0] (fun u => u = .iface 267 (.pointer (some ⟨b, 0, none⟩))) (fun _ => 0)
    case atStart => rfl
    case round =>
      subst hrel
      go_wp2_with fail
      go_ret
      exact ⟨rfl, rfl⟩
  | cmp n args g ga cap cur us hg ho ha hc hm hs hu hr hl =>
    clear hg ho ha hc hm hs hu hr hl
    unfold ptrV
    go_enter Tryz.func182, Tryz.ntmps182
    go_wp2_with fail
    go_loop [0] (fun u => u = .iface 342 (.pointer (some ⟨g, 0, none⟩))) (fun _ => 0)
    case atStart => rfl
    case round =>
      subst hrel
      go_wp2_with fail
      go_ret
      exact ⟨rfl, rfl⟩

end Go.Proofs.YtodpkdajbnceoaaGreatDoor
