import Derived.Test.YtodpkdajbnceoaaGreatDoorPart33
import Derived.Lib.Builder
import Derived.Lib.AppendStr
import Derived.Lib.UnsafeStr
import Derived.Laws.Externs
import Derived.MapKept
import Derived.WideLaws
import Derived.Lib.SliceRun
import Derived.Test.YtodpkdajbnceoaaGreatDoorPart12
set_option linter.all false
set_option maxHeartbeats 4000000
set_option maxRecDepth 100000
namespace Go.Proofs.YtodpkdajbnceoaaGreatDoor
open Go.RowKit Go.Shelf
def strOf : Ex → Int
  | .cmp n args => if args.length = 2 then ssS n else 3
  | _ => 3
def CompAt (w : World) (g : Nat) (n : ByteArray) (ga k cap : Nat) : Prop := w.heap[g]? = some (.cells #[.string n, .slice (some ⟨ga, 0, none⟩) k cap, .slice none 0 0, .map none] 399 (0, 0))
theorem ints_nil (w : World) (a : Option Addr) (n c n' c' : Nat) : (binOp .eql 65 (.slice a n c) (.slice none n' c')).run Tryz.prog w = .ok (.bool a.isNone) w := Lib.run_eql_slice_nil w _ _ a n c n' c' Tryz.underlyingInts
theorem CompAt.cells {w : World} {g ga k cap : Nat} {n : ByteArray} (h : CompAt w g n ga k cap) : w.cell? ⟨g, 0, none⟩ = some (.string n) ∧ w.cell? ⟨g, 1, none⟩ = some (.slice (some ⟨ga, 0, none⟩) k cap) ∧ w.cell? ⟨g, 2, none⟩ = some (.slice none 0 0) ∧ g < w.heap.size :=
  ⟨by rw [cell_of_block h]; rfl, by rw [cell_of_block h]; rfl, by rw [cell_of_block h]; rfl, (Array.getElem?_eq_some_iff.1 h).1⟩
theorem compArity_c {w : World} {g ga k cap : Nat} {n : ByteArray} (h : CompAt w g n ga k cap) :
    Calls Tryz.prog 280 #[ptrV g] w fun e w' => e = .returned (.int .i64 k) ∧ w' = w := by
  obtain ⟨c0, c1, c2, hlt⟩ := h.cells
  have qn := ints_nil
  clear h
  unfold ptrV
  go_enter Tryz.func280, Tryz.ntmps280
  go_wp2
  go_ret
  exact ⟨rfl, rfl⟩
theorem isCell_c {w : World} {g ga k cap : Nat} {n : ByteArray} (h : CompAt w g n ga k cap) (hk : k ≤ maxLen) :
    Calls Tryz.prog 227 #[ptrV g] w fun e w' => e = .returned (.bool (decide (n = B [46] ∧ k = 2))) ∧ w' = w := by
  have HA := hide (compArity_c h)
  obtain ⟨c0, c1, c2, hlt⟩ := h.cells
  have hs := strb n [46]
  unfold maxLen at hk
  clear h
  unfold ptrV at *
  by_cases hn : n = B [46]
  · have hb : (n.toList == [46]) = true := hs.1 hn
    have HN := hide hn
    clear hn hs
    go_enter Tryz.func227, Tryz.ntmps227
    go_wp2_with (go_at_call 280; refine HA.out.mono ?_; rintro e w1 ⟨rfl, rfl⟩)
    go_ret
    refine ⟨congrArg (fun b => Ending.returned (Value.bool b)) ?_, rfl⟩
    rw [Bool.eq_iff_iff]
    simp [HN.out]
    omega
  · have hb : (n.toList == [46]) = false := by
      have := (not_congr hs).1 hn
      simpa using this
    have HN := hide hn
    clear hn hs
    go_enter Tryz.func227, Tryz.ntmps227
    go_wp2_with fail
    go_ret
    refine ⟨congrArg (fun b => Ending.returned (Value.bool b)) ?_, rfl⟩
    simp [HN.out]
theorem compStrength_c {w : World} {g ga k cap : Nat} {n : ByteArray} (h : CompAt w g n ga k cap) (hk : k ≤ maxLen) :
    Calls Tryz.prog 283 #[ptrV g] w fun e w' => e = .returned (.int .i64 (if k = 2 then ssS n else 3)) ∧ w' = w := by
  have HA := hide (compArity_c h)
  obtain ⟨c0, c1, c2, hlt⟩ := h.cells
  have HS := hide (signStrength_c n w)
  unfold maxLen at hk
  clear h
  unfold ptrV at *
  by_cases hk2 : k = 2
  · subst hk2
    go_enter Tryz.func283, Tryz.ntmps283
    go_wp2_with (first | (go_at_call 280; refine HA.out.mono ?_; rintro e w1 ⟨rfl, rfl⟩) | (go_at_call 224; refine HS.out.mono ?_; rintro e w1 ⟨rfl, rfl⟩))
    go_ret
    exact ⟨rfl, rfl⟩
  · rw [if_neg hk2]
    go_enter Tryz.func283, Tryz.ntmps283
    go_wp2_with (first | (go_at_call 280; refine HA.out.mono ?_; rintro e w1 ⟨rfl, rfl⟩))
    go_ret
    exact ⟨rfl, rfl⟩
theorem Tryz.mStrA (n : ByteArray) (w : World) : (Go.method 723 338 (.string n) "Strength").run Tryz.prog w = .ok (475, .string n) w := by kernel_rfl
theorem Tryz.mStrN (v : Int) (w : World) : (Go.method 723 339 (.int .i64 v) "Strength").run Tryz.prog w = .ok (476, .int .i64 v) w := by kernel_rfl
theorem Tryz.mStrV (b : Nat) (w : World) : (Go.method 723 267 (ptrV b) "Strength").run Tryz.prog w = .ok (463, ptrV b) w := by kernel_rfl
theorem Tryz.mStrC (b : Nat) (w : World) : (Go.method 723 342 (ptrV b) "Strength").run Tryz.prog w = .ok (283, ptrV b) w := by kernel_rfl
structure StrM (w : World) (x : Ex) (u : Value) (t : TypeId) (v : Value) (f : FuncId) : Prop where
  u : u = .iface t v
  m : ∀ w', (Go.method 723 t v "Strength").run Tryz.prog w' = .ok (f, v) w'
  e : Enters Tryz.prog f
  c : ∀ w', TKeeps (fun _ => True) w w' → Calls Tryz.prog f #[v] w' fun e w'' => e = .returned (.int .i64 (strOf x)) ∧ w'' = w'
theorem TRep.str {w : World} {Ok : Nat → Prop} {vbs : List Nat} {x : Ex} {u : Value} (h : TRep w Ok vbs x u) : ∃ t v f, StrM w x u t v f := by
  cases h with
  | atom n =>
    refine ⟨_, _, 475, rfl, Tryz.mStrA n, enters_of Tryz.func475 (by kernel_rfl) rfl, fun w' _ => ?_⟩
    go_enter Tryz.func475, Tryz.ntmps475
    go_wp2
    go_ret
    exact ⟨rfl, rfl⟩
  | num v =>
    refine ⟨_, _, 476, rfl, Tryz.mStrN v, enters_of Tryz.func476 (by kernel_rfl) rfl, fun w' _ => ?_⟩
    go_enter Tryz.func476, Tryz.ntmps476
    go_wp2
    go_ret
    exact ⟨rfl, rfl⟩
  | var k b hk =>
    refine ⟨_, _, 463, rfl, Tryz.mStrV b, enters_of Tryz.func463 (by kernel_rfl) rfl, fun w' _ => ?_⟩
    unfold ptrV
    go_enter Tryz.func463, Tryz.ntmps463
    go_wp2
    go_ret
    exact ⟨rfl, rfl⟩
  | cmp n args g ga cap cur us hg ho ha hc hm hs hu hr =>
    refine ⟨_, _, 283, rfl, Tryz.mStrC g, enters_of Tryz.func283 (by kernel_rfl) rfl, fun w' hk => ?_⟩
    exact compStrength_c (hk g _ _ (.inl rfl) hg) (Nat.le_trans hc hm)
theorem isOperation_c {w : World} {Ok : Nat → Prop} {vbs : List Nat} {x : Ex} {u : Value} (h : TRep w Ok vbs x u) :
    Calls Tryz.prog 229 #[u] w fun e w' => e = .returned (.bool (decide (strOf x < 3))) ∧ w' = w := by
  obtain ⟨t, v, f, hM⟩ := h.str
  have hm := hM.m
  have he : ∀ args w, (callFunc f args).run Tryz.prog w = .ok (.enter f args) w := hM.e
  have HC := hide (hM.c w (fun _ _ _ _ h => h))
  have hu := hM.u
  clear hM h
  subst hu
  go_enter Tryz.func229, Tryz.ntmps229
  go_wp2_with (go_at_fn f; refine HC.out.mono ?_; rintro e w1 ⟨rfl, rfl⟩)
  go_ret
  exact ⟨rfl, rfl⟩
theorem Tryz.taAA (v : Value) (w : World) : (Instr.typeAssert (.iface 338 v) 185 338 true).run Tryz.prog w = .ok (.tuple #[v, .bool true]) w := by kernel_rfl
theorem Tryz.taNA (v : Value) (w : World) : (Instr.typeAssert (.iface 339 v) 185 338 true).run Tryz.prog w = .ok (.tuple #[.string ByteArray.empty, .bool false]) w := by kernel_rfl
theorem Tryz.taNC (v : Value) (w : World) : (Instr.typeAssert (.iface 339 v) 185 342 true).run Tryz.prog w = .ok (.tuple #[.pointer none, .bool false]) w := by kernel_rfl
theorem Tryz.taVA (v : Value) (w : World) : (Instr.typeAssert (.iface 267 v) 185 338 true).run Tryz.prog w = .ok (.tuple #[.string ByteArray.empty, .bool false]) w := by kernel_rfl
theorem Tryz.taVC (v : Value) (w : World) : (Instr.typeAssert (.iface 267 v) 185 342 true).run Tryz.prog w = .ok (.tuple #[.pointer none, .bool false]) w := by kernel_rfl
theorem Tryz.taCA (v : Value) (w : World) : (Instr.typeAssert (.iface 342 v) 185 338 true).run Tryz.prog w = .ok (.tuple #[.string ByteArray.empty, .bool false]) w := by kernel_rfl
theorem Tryz.taCC (v : Value) (w : World) : (Instr.typeAssert (.iface 342 v) 185 342 true).run Tryz.prog w = .ok (.tuple #[v, .bool true]) w := by kernel_rfl
def isSignL (l : List UInt8) : Bool := l == [61] || l == [92, 61] || l == [61, 61] || l == [60] || l == [62] || l == [61, 60] || l == [62, 61] || l == [61, 58, 61]
theorem two_sign (l : List UInt8) : (isSignL l || l == [105, 115]) = (testsL l == 2) := by
  unfold isSignL testsL
  by_cases h0 : (l == [116, 114, 117, 101] || l == [102, 97, 105, 108]) = true
  · rw [if_pos h0]
    simp only [Bool.or_eq_true, beq_iff_eq] at h0
    rcases h0 with rfl | rfl <;> decide
  · rw [if_neg h0]
    by_cases h1 : (l == [118, 97, 114] || l == [110, 111, 110, 118, 97, 114] || l == [97, 116, 111, 109] || l == [105, 110, 116, 101, 103, 101, 114]) = true
    · rw [if_pos h1]
      simp only [Bool.or_eq_true, beq_iff_eq] at h1
      rcases h1 with ((rfl | rfl) | rfl) | rfl <;> decide
    · rw [if_neg h1]
      split
      · rename_i h2
        simp only [Bool.or_eq_true, beq_iff_eq] at h2
        rcases h2 with (((((((rfl | rfl) | rfl) | rfl) | rfl) | rfl) | rfl) | rfl) | rfl <;> decide
      · rename_i h2
        simp only [Bool.or_eq_true, beq_iff_eq, not_or] at h2
        simp [h2]
theorem isSign_c (n : ByteArray) (w : World) : Calls Tryz.prog 335 #[.string n] w fun e w' => e = .returned (.bool (isSignL n.toList)) ∧ w' = w := by
  obtain ⟨v, hv⟩ : ∃ v, isSignL n.toList = v := ⟨_, rfl⟩
  have HV := hide hv
  rw [hv]
  clear hv
  go_enter Tryz.func335, Tryz.ntmps335
  go_wp2_with fail
  all_goals
    go_ret
    have hv := HV.out
    unfold isSignL at hv
    simp [*] at hv
    first
    | (subst hv; exact ⟨rfl, rfl⟩)
    | (exfalso; clear hv HV; simp_all; done)
theorem tests_lo (l : List UInt8) (h0 : (l == [116, 114, 117, 101] || l == [102, 97, 105, 108]) = false) (h1 : (l == [118, 97, 114] || l == [110, 111, 110, 118, 97, 114] || l == [97, 116, 111, 109] || l == [105, 110, 116, 101, 103, 101, 114]) = false) : testsL l = 2 ∨ testsL l = -1 := by
  unfold testsL
  rw [if_neg (by simp [h0]), if_neg (by rw [h1]; simp)]
  split
  · exact .inl rfl
  · exact .inr rfl
def arV (n : ByteArray) : Value := .tuple #[.int .i64 (if 0 ≤ testsN n then testsN n else 2), .bool (decide (0 ≤ testsN n))]
theorem ar_last {n : ByteArray} (sg : Bool) (h0 : (n.toList == [116, 114, 117, 101] || n.toList == [102, 97, 105, 108]) = false) (h1 : (n.toList == [118, 97, 114] || n.toList == [110, 111, 110, 118, 97, 114] || n.toList == [97, 116, 111, 109] || n.toList == [105, 110, 116, 101, 103, 101, 114]) = false)
    (h2 : (n.toList == [105, 115]) = false) (h : (sg || n.toList == [105, 115]) = (testsL n.toList == 2)) : arV n = .tuple #[.int .i64 2, .bool sg] := by
  rw [h2, Bool.or_false] at h
  unfold arV testsN
  rcases tests_lo n.toList h0 h1 with e | e
  · rw [e] at h ⊢; rw [h]; rfl
  · rw [e] at h ⊢; rw [h]; rfl
theorem arity_c (n : ByteArray) (w : World) : Calls Tryz.prog 285 #[.string n] w fun e w' => e = .returned (arV n) ∧ w' = w := by
  have HS := hide (isSign_c n w)
  have h2 := two_sign n.toList
  obtain ⟨sg, hsg⟩ : ∃ v, isSignL n.toList = v := ⟨_, rfl⟩
  rw [hsg] at HS h2
  have H2 := hide h2
  clear hsg h2
  obtain ⟨v, hv⟩ : ∃ v, arV n = v := ⟨_, rfl⟩
  have HV := hide hv
  rw [hv]
  clear hv
  go_enter Tryz.func285, Tryz.ntmps285
  go_wp2_with (go_at_call 335; refine HS.out.mono ?_; rintro e w1 ⟨rfl, rfl⟩)
  all_goals
    go_ret2
    refine ⟨?_, rfl⟩
    rw [← HV.out]
    first
    | (have e : testsN n = 0 := by simp [testsN, testsL, *]
       rw [arV, e]; rfl)
    | (have e : testsN n = 1 := by simp [testsN, testsL, *]
       rw [arV, e]; rfl)
    | (have e : testsN n = 2 := by simp [testsN, testsL, *]
       rw [arV, e]; rfl)
    | (exfalso; clear HV H2 HS; simp_all; done)
    | (rw [ar_last (n := n) sg (by simp [*]) (by simp [*]) (by assumption) H2.out]; rfl)
def TopOk : Ex → Prop
  | .atom n => n.toList ≠ [46]
  | .cmp n l => ((n.toList = [43] ∨ n.toList = [45] ∨ n.toList = [42] ∨ n.toList = [47, 47] ∨ n.toList = [46]) → l.length = 2) ∧ n.toList ≠ [91, 93]
  | _ => True
def PartTop (part : St → R Ex) : Prop := ∀ st x st', part st = .ok (x, st') → TopOk x
theorem name_top {t : Tok} (h : TT t) (hk : t.k = 97) : t.t.toList ≠ [43] ∧ t.t.toList ≠ [45] ∧ t.t.toList ≠ [42] ∧ t.t.toList ≠ [47, 47] ∧ t.t.toList ≠ [46] ∧ t.t.toList ≠ [91, 93] := by
  have hc := h.a hk
  have e : t.t.data.toList = t.t.toList := (go_bytes_toList _).symm
  rw [e] at hc
  refine ⟨?_, ?_, ?_, ?_, ?_, ?_⟩ <;> (intro q; rw [q] at hc; revert hc; decide)
theorem op_top {t : Tok} {x y : Ex} (h : isAdd t = true ∨ isMul t = true) : TopOk (.cmp t.t [x, y]) := by
  refine ⟨fun _ => rfl, ?_⟩
  rw [isAdd_eq, isMul_eq] at h
  intro q
  rw [q] at h
  simp at h
theorem ops_top {toks : List Tok} {part : St → R Ex} {isOp : Tok → Bool} (ho : ∀ t, isOp t = true → isAdd t = true ∨ isMul t = true) :
    ∀ (f : Nat) (x : Ex) (st : St) (y : Ex) (st' : St), TopOk x → opsLoop toks part isOp f x st = .ok (y, st') → TopOk y
  | 0, x, st, y, st', h, e => by rw [opsLoop] at e; cases e; exact h
  | f + 1, x, st, y, st', h, e => by
    rw [opsLoop] at e
    split at e
    · rename_i hop
      split at e
      · cases e
      · exact ops_top ho f _ _ _ _ (op_top (ho _ hop)) e
    · cases e; exact h
theorem product_top {toks : List Tok} {prim : St → R Ex} (hp : PartTop prim) : PartTop (productOf toks prim) := by
  intro st x st' e
  unfold productOf at e
  split at e
  · cases e
  · rename_i y st1 hy
    exact ops_top (fun t h => .inr h) _ _ _ _ _ (hp _ _ _ hy) e
theorem expr_top {toks : List Tok} {prim : St → R Ex} (hp : PartTop prim) : PartTop (exprOf toks prim) := by
  intro st x st' e
  unfold exprOf at e
  split at e
  · cases e
  · rename_i y st1 hy
    exact ops_top (fun t h => .inl h) _ _ _ _ _ (product_top hp _ _ _ hy) e
theorem cell_top (a b : Ex) : TopOk (cellEx a b) := ⟨fun _ => rfl, by rw [B_toList]; decide⟩
theorem must_top {toks : List Tok} {s : List UInt8} {x : Ex} {st : St} {y : Ex} {st' : St} (h : TopOk x) (e : mustT toks s x st = .ok (y, st')) : TopOk y := by
  unfold mustT at e
  split at e
  · cases e; exact h
  · cases e
theorem list_top {toks : List Tok} {ex : St → R Ex} : PartTop (listOf toks ex) := by
  intro st x st' e
  unfold listOf at e
  split at e
  · cases e; show (B [91, 93]).toList ≠ [46]; rw [B_toList]; decide
  · split at e
    · cases e
    · rename_i l st1 hl
      have h0 := (rowOf_len _ _ _ _ _ hl).2 (by omega)
      obtain ⟨a, l', rfl⟩ : ∃ a l', l = a :: l' := by
        cases l with
        | nil => simp at h0
        | cons a l' => exact ⟨a, l', rfl⟩
      split at e
      · split at e
        · cases e
        · exact must_top (cell_top _ _) e
      · exact must_top (cell_top _ _) e
theorem bare_top {toks : List Tok} (ht : TTs toks) {ex : St → R Ex} (hp : PartTop ex) : PartTop (bareOf toks ex) := by
  intro st x st' e
  unfold bareOf at e
  dsimp only at e
  split at e
  · cases e; trivial
  · split at e
    · unfold varOf at e
      split at e
      · cases e; trivial
      · split at e
        · cases e
        · cases e; trivial
    · split at e
      · rename_i hk
        obtain ⟨n1, n2, n3, n4, n5, n6⟩ := name_top (ht st.1) hk
        split at e
        · split at e
          · cases e
          · exact must_top (x := .cmp _ _) ⟨fun q => by rcases q with q | q | q | q | q <;> contradiction, n6⟩ e
        · cases e; exact n5
      · split at e
        · split at e
          · cases e; trivial
          · cases e
        · split at e
          · split at e
            · cases e
            · rename_i y st1 hy
              exact must_top (hp _ _ _ hy) e
          · split at e
            · exact list_top _ _ _ e
            · cases e
theorem prim_top {toks : List Tok} (ht : TTs toks) : ∀ k, PartTop (primS toks k)
  | 0 => fun st x st' e => by cases e
  | k + 1 => bare_top ht (expr_top (prim_top ht k))
theorem exprS_top {toks : List Tok} (ht : TTs toks) (k : Nat) : PartTop (exprS toks k) := expr_top (prim_top ht k)
theorem bad_cmp {n : ByteArray} {l : List Ex} (h : TopOk (.cmp n l)) : badEx (.cmp n l) = (decide (n = B [46] ∧ l.length = 2) || decide (strOf (.cmp n l) < 3)) := by
  obtain ⟨h1, h2⟩ := h
  have h2' : (n.toList == [91, 93]) = false := by simpa using h2
  have ss := ssS_eq n
  have s46 := strb n [46]
  simp only [badEx, opEx, exName, strOf, h2', Bool.or_false]
  by_cases hl : l.length = 2
  · simp only [hl, if_true, and_true, s46, ss]
    by_cases a1 : n.toList = [43]
    · simp [a1]
    · by_cases a2 : n.toList = [45]
      · simp [a2]
      · by_cases a3 : n.toList = [42]
        · simp [a3]
        · by_cases a4 : n.toList = [47, 47]
          · simp [a4]
          · by_cases a5 : n.toList = [109, 111, 100]
            · simp [a5]
            · have c1 : (n.toList == [43]) = false := by simpa using a1
              have c2 : (n.toList == [45]) = false := by simpa using a2
              have c3 : (n.toList == [42]) = false := by simpa using a3
              have c4 : (n.toList == [47, 47]) = false := by simpa using a4
              have c5 : (n.toList == [109, 111, 100]) = false := by simpa using a5
              rw [c1, c2, c3, c4, c5]
              simp
              rw [Bool.eq_iff_iff]
              simp
  · have b1 : n.toList ≠ [43] := fun q => hl (h1 (.inl q))
    have b2 : n.toList ≠ [45] := fun q => hl (h1 (.inr (.inl q)))
    have b3 : n.toList ≠ [42] := fun q => hl (h1 (.inr (.inr (.inl q))))
    have b4 : n.toList ≠ [47, 47] := fun q => hl (h1 (.inr (.inr (.inr (.inl q)))))
    have b5 : n.toList ≠ [46] := fun q => hl (h1 (.inr (.inr (.inr (.inr q)))))
    simp [hl, b1, b2, b3, b4, b5]
theorem box2c {w : World} {b : Nat} {x0 x1 : Value} {T : TypeId} (h : w.heap[b]? = some (.cells #[x0, x1] T (0, 0))) :
    w.cell? ⟨b, 0, none⟩ = some x0 ∧ w.cell? ⟨b, 1, none⟩ = some x1 ∧ ∀ j, w.frozen? ⟨b, j, none⟩ = false :=
  ⟨by rw [cell_of_block h]; rfl, by rw [cell_of_block h]; rfl, fun j => by simp [World.frozen?, h]⟩
theorem box4c {w : World} {b : Nat} {x0 x1 x2 x3 : Value} {T : TypeId} (h : w.heap[b]? = some (.cells #[x0, x1, x2, x3] T (0, 0))) :
    w.cell? ⟨b, 0, none⟩ = some x0 ∧ w.cell? ⟨b, 1, none⟩ = some x1 ∧ ∀ j, w.frozen? ⟨b, j, none⟩ = false :=
  ⟨by rw [cell_of_block h]; rfl, by rw [cell_of_block h]; rfl, fun j => by simp [World.frozen?, h]⟩
def CallPost (x : Ex) (w : World) (e : Ending) (w' : World) : Prop :=
  Below w.heap.size w w' ∧ ∃ a c, e = .returned (.tuple #[.agg #[.string (exName x), .slice a (exArgs x).length c], .bool (!badEx x)])
end Go.Proofs.YtodpkdajbnceoaaGreatDoor
namespace Go.Proofs.YtodpkdajbnceoaaGreatDoor
open Go.RowKit
def GPost (toks : List Tok) (bp : Nat) (lv vv : Value) (d : Int) (vbs : List Nat) (w : World) (r : R Bd) (e : Ending) (w' : World) : Prop :=
  match r with
  | .error (er, a) => RFault er a bp lv vv d w e w'
  | .ok (_, st) => ∃ (t : TypeId) (v vv' : Value) (vbs' : List Nat), e = .returned (.iface t v) ∧ RIn w' bp toks lv vv' st.1 d st.2 vbs' ∧ vbs <+: vbs' ∧ Fr bp vv vv' w w'
def GReads (fn : Nat) (toks : List Tok) (d : Int) (r : St → R Bd) : Prop :=
  ∀ (w : World) (bp : Nat) (lv vv : Value) (st : St) (vbs : List Nat), RIn w bp toks lv vv st.1 d st.2 vbs →
    Calls Tryz.prog fn #[ptrV bp] w fun e w' => GPost toks bp lv vv d vbs w (r st) e w'
def Mono (r : St → R Bd) : Prop := ∀ st x st', r st = .ok (x, st') → st.1 ≤ st'.1
theorem Tryz.infoGoal : (Tryz.prog.info? 225).map (fun i => (i.zero, i.size, i.bytes)) = some (some .nilIface, 1, 16) := by kernel_rfl
theorem Tryz.underlyingAll : Tryz.prog.underlying 405 = some (.slice 225) := by kernel_rfl
structure GRowOn (toks : List Tok) (lit : St → R Bd) (total : R (List Bd)) (bp : Nat) (lv vv : Value) (d : Int) (vbs : List Nat) (w0 : World) (v : Value) (w : World) (acc : List Bd) (us : List Value) (st1 : St) (vv1 : Value) (vbs1 : List Nat) (f : Nat) : Prop where
  own : w.ownsRow w0.heap.size 225 1 v acc.length us
  ifs : ∀ u ∈ us, ∃ t x, u = .iface t x
  rin : RIn w bp toks lv vv1 st1.1 d st1.2 vbs1
  pre : vbs <+: vbs1
  fr : Fr bp vv vv1 w0 w
  fuel : toks.length - st1.1 < f
  eq : rowG toks lit f acc st1 = total
  small : acc.length ≤ st1.1
  old : ∀ b, (b = bp ∨ lv.ownBlock = some b ∨ vv.ownBlock = some b ∨ b ∈ vbs) → b < w0.heap.size
section
variable {w : World} {bp : Nat} {toks : List Tok} {lv vv : Value} {i : Nat} {d : Int} {vars : List ByteArray} {vbs : List Nat}
theorem RIn.no_goal (h : RIn w bp toks lv vv i d vars vbs) {g : Nat} {cs : Array Value} (hg : w.heap[g]? = some (.cells cs 225 (0, 0))) : ¬ (g = bp ∨ lv.ownBlock = some g ∨ vv.ownBlock = some g ∨ g ∈ vbs) := by
  rintro (rfl | e | e | e)
  · rw [h.cells] at hg; injection hg with hg; injection hg with _ hg; cases hg
  · rcases h.l.2 with ⟨hl, _⟩ | ⟨g', cap, cur, rfl, _, r2, _⟩
    · rw [hl] at e; cases e
    · cases e; rw [r2] at hg; injection hg with hg; injection hg with _ hg; cases hg
  · rcases h.vrow.2 with ⟨hl, _⟩ | ⟨g', cap, cur, rfl, _, r2, _⟩
    · rw [hl] at e; cases e
    · cases e; rw [r2] at hg; injection hg with hg; injection hg with _ hg; cases hg
  · obtain ⟨k, hk, rfl⟩ := List.getElem_of_mem e
    obtain ⟨n, _, hn⟩ := h.vblk k _ (List.getElem?_eq_getElem hk)
    rw [hn] at hg; injection hg with hg; injection hg with _ hg; cases hg
theorem own_blkG {n m : Nat} {v : Value} {us : List Value} (h : w.ownsRow n 225 1 v m us) {b : Nat} (hb : v.ownBlock = some b) : n ≤ b ∧ ∃ cs, w.heap[b]? = some (.cells cs 225 (0, 0)) := by
  rcases h.2 with ⟨hl, _⟩ | ⟨g, cap, cur, rfl, r1, r2, _⟩
  · rw [hl] at hb; cases hb
  · cases hb; exact ⟨r1, cur, r2⟩
theorem own_goal {w' : World} {n m : Nat} {v vv' : Value} {us : List Value} (hR : RIn w bp toks lv vv i d vars vbs) (h : w.ownsRow n 225 1 v m us) (hf : Fr bp vv vv' w w') : w'.ownsRow n 225 1 v m us := by
  refine ownsRow_keep h fun b e => ?_
  obtain ⟨_, cs, hcs⟩ := own_blkG h e
  have hno := hR.no_goal hcs
  exact hf.block b (Array.getElem?_eq_some_iff.1 hcs).1 (fun q => hno (.inl q)) (fun q => hno (.inr (.inr (.inl q))))
theorem goal_grow {w0 w2 : World} {v : Value} {o : Obj} {us : List Value} {m : Nat} (h : RIn w bp toks lv vv i d vars vbs) (hown : w.ownsRow w0.heap.size 225 1 v m us)
    (hg : (w.alloc o).grownBy w2 v.ownBlock) (hw : w0.heap.size ≤ w.heap.size) :
    RIn w2 bp toks lv vv i d vars vbs ∧ (∀ vv0, Fr bp vv0 vv w0 w → Fr bp vv0 vv w0 w2) := by
  have hkeep : ∀ b, b < w.heap.size → v.ownBlock ≠ some b → w2.heap[b]? = w.heap[b]? := fun b hb hv => by
    rw [hg.block b (by simp; omega) (fun e => hv e.symm), Below.heap_alloc _ _ _ hb]
  have hnv : ∀ b, (b = bp ∨ lv.ownBlock = some b ∨ vv.ownBlock = some b ∨ b ∈ vbs) → v.ownBlock ≠ some b := fun b e hv => by
    obtain ⟨_, cs, hcs⟩ := own_blkG hown hv
    exact h.no_goal hcs e
  refine ⟨h.keep fun b e => hkeep b (h.blt b e) (hnv b e), fun vv0 hf => ?_⟩
  refine ⟨hg.os.trans hf.os, hg.tape.trans hf.tape, hg.output.trans hf.output, by have := hg.size; simp at this; omega, fun b hb1 h1 h2 => ?_, hf.vnew⟩
  rw [hkeep b (by omega) (fun e => by have := (own_blkG hown e).1; omega)]
  exact hf.block b hb1 h1 h2
end
theorem goal_first {w : World} {base n cap : Nat} {ao : Option Addr} {us : List Value} (h : w.ownsRow base 225 1 (.slice ao n cap) n us) (hi : ∀ u ∈ us, ∃ t x, u = .iface t x) (hk : 0 < n) :
    ∃ g t x, ao = some ⟨g, 0, none⟩ ∧ g < w.heap.size ∧ w.cell? ⟨g, 0, none⟩ = some (.iface t x) := by
  rcases h.2 with ⟨_, h0⟩ | ⟨g, cap', cur, hv, _, hg, hcap, hmx, hsz, htk⟩
  · omega
  · cases hv
    have hl : us.length = n := by have := h.1; omega
    obtain ⟨u, us', rfl⟩ : ∃ u us', us = u :: us' := by
      cases us with
      | nil => simp at hl; omega
      | cons u us' => exact ⟨u, us', rfl⟩
    obtain ⟨t, x, rfl⟩ := hi u (by simp)
    exact ⟨g, t, x, rfl, (Array.getElem?_eq_some_iff.1 hg).1, rowCell hg htk rfl⟩
theorem goals_c {toks : List Tok} {d : Int} (hg : GoodToks toks) (ht : TTs toks) {lit : St → R Bd} (hm : Mono lit) (HP : GReads 242 toks d lit) : GReads 200 toks d (rowBd toks lit) := by
  intro w bp lv vv st vbs h
  have HP' := hide HP
  obtain ⟨i0, hi, hz0, hz1, hz2⟩ := info_parts Tryz.infoGoal
  obtain ⟨total, htot⟩ : ∃ total, total = rowG toks lit (toks.length + 1) [] st := ⟨_, rfl⟩
  have HRB : Hid (rowBd toks lit st = rowEnd total) := by unfold Hid rowBd; rw [htot]
  rw [HRB.out]
  have HTOT := hide htot.symm
  clear htot
  have hsm := hg.small
  have hbp := h.lt_size
  unfold ptrV
  go_enter Tryz.func200, Tryz.ntmps200
  go_wp2
  refine wp_scope_lab 0 (fun a w1 => ∃ (v : Value) (acc : List Bd) (us : List Value) (st1 : St) (vv1 : Value) (vbs1 : List Nat) (f : Nat) (u4 u5 u6 u7 u8 u9 u10 : Value), a = { tmps := #[.pointer (some ⟨bp, 0, none⟩), undef, .nilIface, v, u4, u5, u6, u7, u8, u9, u10, undef, undef, undef, undef, undef, undef, undef, undef], defers := [] } ∧ GRowOn toks lit total bp lv vv d vbs w v w1 acc us st1 vv1 vbs1 f)
    (fun _ w1 => toks.length - posOf w1 bp) ?hf ?_ ?pass
  case hf => rfl
  · go_wp2
    exact ⟨.slice none 0 0, [], [], st, vv, vbs, toks.length + 1, _, _, _, _, _, _, _, rfl, World.ownsRow_nil _ _ _ _, by simp, h, List.prefix_refl _, Fr.refl _ _ _, by omega, HTOT.out, by simp, h.blt⟩
  case pass =>
    rintro a w1 ⟨v, acc, us, st1, vv1, vbs1, f, u4, u5, u6, u7, u8, u9, u10, rfl, hO⟩
    have hR1 := hO.rin
    have hlt1 := hR1.lt
    have hsml := hO.small
    obtain ⟨f, rfl⟩ : ∃ g, f = g + 1 := ⟨f - 1, by have := hO.fuel; omega⟩
    have HO := hide hO
    have HEQ := hide hO.eq
    have hw01 := hO.fr.size
    have hfu := hO.fuel
    clear hO
    cases hpt : lit st1 with
    | error p =>
      obtain ⟨er, a⟩ := p
      have HE : Hid (total = .error (er, a)) := by
        have h9 := HEQ.out
        rw [rowG, hpt] at h9
        exact h9.symm
      have HCe : Hid (Calls Tryz.prog 242 #[.pointer (some ⟨bp, 0, none⟩)] w1 fun e w' => RFault er a bp lv vv1 d w1 e w') := (HP'.out w1 bp lv vv1 st1 vbs1 hR1).mono fun e w' h => by rw [hpt] at h; exact h
      clear hpt HP'
      go_wp2_with (first | (go_at_call 242; refine HCe.out.mono ?_; rintro e w3 hF; have hF' := hF; obtain ⟨g, vv', i', h1, rfl, h3⟩ := hF))
      refine ⟨rfl, ?_⟩
      rw [HE.out]
      exact hF'.after HO.out.fr
    | ok p =>
      obtain ⟨y, st2⟩ := p
      have hmo := hm _ _ _ hpt
      have HCe : Hid (Calls Tryz.prog 242 #[.pointer (some ⟨bp, 0, none⟩)] w1 fun e w' => ∃ (t : TypeId) (v vv' : Value) (vbs' : List Nat), e = .returned (.iface t v) ∧ RIn w' bp toks lv vv' st2.1 d st2.2 vbs' ∧ vbs1 <+: vbs' ∧ Fr bp vv1 vv' w1 w') := (HP'.out w1 bp lv vv1 st1 vbs1 hR1).mono fun e w' h => by rw [hpt] at h; exact h
      have HEQ2 : Hid ((if isT (tk toks st2.1) [44] then rowG toks lit f (acc ++ [y]) (st2.1 + 1, st2.2) else .ok (acc ++ [y], st2)) = total) := by
        have h9 := HEQ.out
        rw [rowG, hpt] at h9
        exact h9
      clear hpt HP' HEQ
      have hal : acc.length ≤ 2001 := by omega
      go_wp2_with (first | (go_at_call 242; refine HCe.out.mono ?_; rintro e w3 ⟨tu2, vu2, vv3, vbs3, rfl, q2, q3, q4⟩; have hown3 := own_goal HO.out.rin HO.out.own q4; have hw3 := q4.size) | (at_builtin; refine wpList_append_own2 rfl _ _ 405 rfl w.heap.size 225 i0 .nilIface 1 16 Tryz.underlyingAll hi hz0 hz1 hz2 rfl (by decide) v _ _ rfl (hown3.alloc _) _ 1 1 [.iface tu2 vu2] rfl rfl ?c1 ?c2 ?c3 ?c4 ?c5 ?_))
      case c1 => exact cell_one_new _ _ _
      case c2 => intro u hu; simp at hu; subst hu; rfl
      case c3 => unfold maxLen; omega
      case c4 => omega
      case c5 => simp; omega
      intro v' w4 ho hgr hnw
      obtain ⟨k1, k3⟩ := goal_grow (w0 := w) q2 hown3 hgr (by omega)
      have hfrB := k3 vv (HO.out.fr.trans q4)
      obtain ⟨ao, cp, hvf⟩ := row_form ho
      have HT := hide (takes_c k1 hg ht (B [44]))
      have hst : stepI toks st2.1 = if (tk toks st2.1).k = 101 then st2.1 else st2.1 + 1 := rfl
      have htt := ht st2.1
      have hisT := htt.isT (s := [44]) (by unfold SignLike; decide)
      have hifs : ∀ u ∈ us ++ [.iface tu2 vu2], ∃ t x, u = .iface t x := fun u hu => by
        rcases List.mem_append.1 hu with hu | hu
        · exact HO.out.ifs u hu
        · simp at hu; exact ⟨_, _, hu⟩
      unfold ptrV at HT
      rw [hisT] at HEQ2
      clear hisT hown3 hgr hnw k3
      subst hvf
      by_cases hq : (tk toks st2.1).t = B [44]
      · rw [decide_eq_true hq] at HEQ2 HT
        rw [if_pos rfl] at HEQ2
        rw [if_pos hq, hst, if_neg (fun e => by have := htt.e e; rw [this] at hq; exact absurd hq (by decide))] at HT
        clear hq hst htt
        go_wp2_with (first | (go_at_call 201; refine HT.out.mono ?_; rintro e w5 ⟨rfl, m1, m2⟩))
        go_step3
        have hR5 := m1
        refine ⟨rfl, ⟨_, acc ++ [y], _, (st2.1 + 1, st2.2), vv3, vbs3, f, _, _, _, _, _, _, _, rfl, ⟨own_goal k1 (by simpa using ho) m2, hifs, m1, HO.out.pre.trans q3, hfrB.trans m2, by simp only; omega, HEQ2.out, by simp; omega, HO.out.old⟩⟩, ?_⟩
        rw [posOf_eq hR5, posOf_eq hR1]
        omega
      · rw [decide_eq_false hq] at HEQ2 HT
        rw [if_neg (by simp)] at HEQ2
        rw [if_neg hq] at HT
        clear hq hst htt
        have hlen : (acc ++ [y]).length = acc.length + 1 := by simp
        by_cases h1 : acc.length + 1 = 1
        · go_wp2_with (first | (go_at_call 201; refine HT.out.mono ?_; rintro e w5 ⟨rfl, m1, m2⟩; obtain ⟨g, t1, x1, hao, hgl, hcl⟩ := goal_first (own_goal k1 ho m2) hifs (by omega); subst hao))
          try simp only [Exit.jump]
          go_ret
          rw [← HEQ2.out]
          exact ⟨_, _, vv3, vbs3, rfl, m1, HO.out.pre.trans q3, hfrB.trans m2⟩
        · go_wp2_with (first | (go_at_call 201; refine HT.out.mono ?_; rintro e w5 ⟨rfl, m1, m2⟩))
          try simp only [Exit.jump]
          go_ret
          rw [← HEQ2.out]
          exact ⟨_, _, vv3, vbs3, rfl, m1, HO.out.pre.trans q3, hfrB.trans m2⟩
section
variable {w w1 w2 : World} {bp : Nat} {toks : List Tok} {lv vv : Value} {i : Nat} {d : Int} {vars : List ByteArray} {vbs : List Nat}
theorem GPost.okI {w' : World} {r : R Bd} {x : Bd} {st : St} {t : TypeId} {v vv' : Value} {vbs' : List Nat} (hr : r = .ok (x, st)) (h2 : RIn w' bp toks lv vv' st.1 d st.2 vbs') (h3 : vbs <+: vbs') (h4 : Fr bp vv vv' w w') :
    GPost toks bp lv vv d vbs w r (.returned (.iface t v)) w' := by subst hr; exact ⟨t, v, vv', vbs', rfl, h2, h3, h4⟩
theorem GPost.errI {w' : World} {r : R Bd} {er : Int} {a : Nat} {e : Ending} (hr : r = .error (er, a)) (h : RFault er a bp lv vv d w e w') : GPost toks bp lv vv d vbs w r e w' := by subst hr; exact h
theorem GPost.up_ok {Bx : Nat} {vv' : Value} {x : Bd} {t : TypeId} {v : Value} {st : St} {vbs' : List Nat} {r : R Bd} (hD : Deeper w w1 bp Bx vv) (hr : r = .ok (x, st)) (h2 : RIn w2 bp toks lv vv' st.1 (d + 1) st.2 vbs') (h3 : vbs <+: vbs') (h4 : Fr bp vv vv' w1 w2) :
    w2.cell? ⟨Bx, 0, none⟩ = some (ptrV bp) ∧ w2.cell? ⟨bp, 2, none⟩ = some (.int .i64 (d + 1)) ∧ w2.frozen? ⟨bp, 2, none⟩ = false ∧
      GPost toks bp lv vv d vbs w r (.returned (.iface t v)) (w2.setCell ⟨bp, 2, none⟩ (.int .i64 d)) := by
  have hF : Fr bp vv' vv' w2 (w2.setCell ⟨bp, 2, none⟩ (.int .i64 d)) := (Fr.refl _ _ _).setBp _ _
  exact ⟨hD.at h4, h2.c2, h2.fz 2, .okI hr (h2.setD d) h3 ((hD.fr.trans h4).trans hF)⟩
end
section
variable {w : World} {bp : Nat} {toks : List Tok} {lv vv : Value} {i : Nat} {d : Int} {vars : List ByteArray} {vbs : List Nat}
theorem RIn.no_T (h : RIn w bp toks lv vv i d vars vbs) {g : Nat} {cs : Array Value} {T : TypeId} (hg : w.heap[g]? = some (.cells cs T (0, 0))) (h1 : T ≠ 295) (h2 : T ≠ 298) (h3 : T ≠ 267) (h4 : T ≠ 269) : ¬ (g = bp ∨ lv.ownBlock = some g ∨ vv.ownBlock = some g ∨ g ∈ vbs) := by
  rintro (rfl | e | e | e)
  · rw [h.cells] at hg; injection hg with hg; injection hg with _ hg; exact h1 hg.symm
  · rcases h.l.2 with ⟨hl, _⟩ | ⟨g', cap, cur, rfl, _, r2, _⟩
    · rw [hl] at e; cases e
    · cases e; rw [r2] at hg; injection hg with hg; injection hg with _ hg; exact h2 hg.symm
  · rcases h.vrow.2 with ⟨hl, _⟩ | ⟨g', cap, cur, rfl, _, r2, _⟩
    · rw [hl] at e; cases e
    · cases e; rw [r2] at hg; injection hg with hg; injection hg with _ hg; exact h3 hg.symm
  · obtain ⟨k, hk, rfl⟩ := List.getElem_of_mem e
    obtain ⟨n, _, hn⟩ := h.vblk k _ (List.getElem?_eq_getElem hk)
    rw [hn] at hg; injection hg with hg; injection hg with _ hg; exact h4 hg.symm
theorem RIn.setT (h : RIn w bp toks lv vv i d vars vbs) {g j : Nat} {cs : Array Value} {T : TypeId} {u : Value} (hg : w.heap[g]? = some (.cells cs T (0, 0))) (h1 : T ≠ 295) (h2 : T ≠ 298) (h3 : T ≠ 267) (h4 : T ≠ 269) : RIn (w.setCell ⟨g, j, none⟩ u) bp toks lv vv i d vars vbs :=
  h.keep fun b e => Below.heap_setCell _ _ _ _ fun q => h.no_T hg h1 h2 h3 h4 (by rw [show b = g from q] at e; exact e)
theorem RIn.kept (h : RIn w bp toks lv vv i d vars vbs) {o : Obj} {vv' : Value} {W : World} (hF : Fr bp vv vv' (w.alloc o) W) : W.heap[w.heap.size]? = some o := by
  rw [hF.block _ (by simp) (fun e => by have := h.lt_size; omega) (fun e => by have := h.blt _ (.inr (.inr (.inl e))); omega)]
  exact heap_alloc_new _ _
end
theorem TTs.is {toks : List Tok} (ht : TTs toks) (i : Nat) {s : List UInt8} (hs : SignLike s) : isT (tk toks i) s = decide ((tk toks i).t = B s) := (ht i).isT hs
theorem step_is {toks : List Tok} (ht : TTs toks) {i : Nat} {s : List UInt8} (hs : s ≠ []) (h : (tk toks i).t = B s) : stepI toks i = i + 1 := by
  unfold stepI
  rw [if_neg (fun e => ?_)]
  have := (ht i).e e
  rw [this] at h
  exact hs (by have := congrArg ByteArray.toList h; rw [B_toList, go_bytes_toList] at this; rw [← this]; rfl)
theorem takes_y {w : World} {bp : Nat} {toks : List Tok} {lv vv : Value} {i : Nat} {d : Int} {vars : List ByteArray} {vbs : List Nat} (h : RIn w bp toks lv vv i d vars vbs) (hg : GoodToks toks) (ht : TTs toks) {s : List UInt8} (hs : s ≠ []) (hq : (tk toks i).t = B s) :
    Calls Tryz.prog 201 #[ptrV bp, .string (B s)] w fun e w' => e = .returned (.bool true) ∧ RIn w' bp toks lv vv (i + 1) d vars vbs ∧ Fr bp vv vv w w' := by
  have := takes_c h hg ht (B s)
  rw [if_pos hq, decide_eq_true hq, step_is ht hs hq] at this
  exact this
theorem takes_n {w : World} {bp : Nat} {toks : List Tok} {lv vv : Value} {i : Nat} {d : Int} {vars : List ByteArray} {vbs : List Nat} (h : RIn w bp toks lv vv i d vars vbs) (hg : GoodToks toks) (ht : TTs toks) {s : List UInt8} (hq : (tk toks i).t ≠ B s) :
    Calls Tryz.prog 201 #[ptrV bp, .string (B s)] w fun e w' => e = .returned (.bool false) ∧ RIn w' bp toks lv vv i d vars vbs ∧ Fr bp vv vv w w' := by
  have := takes_c h hg ht (B s)
  rw [if_neg hq, decide_eq_false hq] at this
  exact this
def GErr (fn : Nat) (bp : Nat) (lv vv : Value) (d : Int) (er : Int) (a : Nat) (w : World) : Prop := Calls Tryz.prog fn #[.pointer (some ⟨bp, 0, none⟩)] w fun e w' => RFault er a bp lv vv d w e w'
def GOk (fn : Nat) (toks : List Tok) (bp : Nat) (lv vv : Value) (d : Int) (vbs : List Nat) (st : St) (w : World) : Prop := Calls Tryz.prog fn #[.pointer (some ⟨bp, 0, none⟩)] w fun e w' => ∃ (t : TypeId) (v vv' : Value) (vbs' : List Nat), e = .returned (.iface t v) ∧ RIn w' bp toks lv vv' st.1 d st.2 vbs' ∧ vbs <+: vbs' ∧ Fr bp vv vv' w w'
theorem GReads.err {fn : Nat} {toks : List Tok} {d : Int} {r : St → R Bd} (h : GReads fn toks d r) {er : Int} {a : Nat} {st : St} (hr : r st = .error (er, a)) {w : World} {bp : Nat} {lv vv : Value} {vbs : List Nat} (hR : RIn w bp toks lv vv st.1 d st.2 vbs) : GErr fn bp lv vv d er a w :=
  (h w bp lv vv st vbs hR).mono fun e w' hp => by rw [hr] at hp; exact hp
theorem GReads.ok {fn : Nat} {toks : List Tok} {d : Int} {r : St → R Bd} (h : GReads fn toks d r) {x : Bd} {st st' : St} (hr : r st = .ok (x, st')) {w : World} {bp : Nat} {lv vv : Value} {vbs : List Nat} (hR : RIn w bp toks lv vv st.1 d st.2 vbs) : GOk fn toks bp lv vv d vbs st' w :=
  (h w bp lv vv st vbs hR).mono fun e w' hp => by rw [hr] at hp; exact hp
theorem body_c {toks : List Tok} {d : Int} (hg : GoodToks toks) (ht : TTs toks) {lit rest : St → R Bd} (HP : GReads 200 toks d (rowBd toks lit)) (HQ : GReads 202 toks d rest) : GReads 158 toks d (bodyOf toks lit rest) := by
  intro w bp lv vv st vbs h
  have HP' := hide HP
  have HQ' := hide HQ
  obtain ⟨total, htot⟩ : ∃ total, total = bodyOf toks lit rest st := ⟨_, rfl⟩
  rw [← htot]
  have HT := hide htot.symm
  clear htot HP HQ
  cases hr : rowBd toks lit st with
  | error p =>
    obtain ⟨er, a⟩ := p
    have HR : Hid (total = .error (er, a)) := by rw [Hid, ← HT.out]; unfold bodyOf; rw [hr]
    have H1 := hide (HP'.out.err hr h)
    clear hr HP'
    unfold ptrV
    go_enter Tryz.func158, Tryz.ntmps158
    go_wp2_with (go_at_call 200; refine H1.out.mono ?_; rintro e w3 hF; have hF' := hF; obtain ⟨g, vv', i', h1, rfl, h3⟩ := hF)
    exact ⟨rfl, .errI HR.out hF'⟩
  | ok p =>
    obtain ⟨a, s1⟩ := p
    have H1 := hide (HP'.out.ok hr h)
    have hi1 := ht.is s1.1 (s := [45, 62]) (by unfold SignLike; decide)
    have hi2 := ht.is s1.1 (s := [59]) (by unfold SignLike; decide)
    have hb : bodyOf toks lit rest st = if decide ((tk toks s1.1).t = B [45, 62]) then thenOf toks rest a (rowBd toks lit (s1.1 + 1, s1.2)) else if decide ((tk toks s1.1).t = B [59]) then orOf a (rest (s1.1 + 1, s1.2)) else .ok (a, s1) := by
      unfold bodyOf; rw [hr, ← hi1, ← hi2]
    rw [HT.out] at hb
    clear hr HT hi1 hi2
    by_cases hq : (tk toks s1.1).t = B [59]
    · have hne : ¬ (tk toks s1.1).t = B [45, 62] := fun e => by rw [hq] at e; exact absurd e (by decide)
      rw [decide_eq_false hne, decide_eq_true hq, if_neg (by simp), if_pos rfl] at hb
      have HTk := hide (fun (w' : World) (vv' : Value) (vbs' : List Nat) (h' : RIn w' bp toks lv vv' s1.1 d s1.2 vbs') => takes_y h' hg ht (s := [59]) (by simp) hq)
      unfold ptrV at *
      clear hne hq
      cases hr2 : rest (s1.1 + 1, s1.2) with
      | error p =>
        obtain ⟨er, a2⟩ := p
        have HR : Hid (total = .error (er, a2)) := by rw [Hid, hb, hr2]; rfl
        have H2 := hide (fun (w' : World) (vv' : Value) (vbs' : List Nat) (h' : RIn w' bp toks lv vv' (s1.1 + 1) d s1.2 vbs') => HQ'.out.err hr2 h')
        clear hr2 hb HQ' HP'
        go_enter Tryz.func158, Tryz.ntmps158
        go_wp2_with (first | (go_at_call 200; refine H1.out.mono ?_; rintro e w3 ⟨t3, v3, vv3, vbs3, rfl, r3, p3, f3⟩) | (go_at_call 201; refine (HTk.out _ _ _ r3).mono ?_; rintro e w4 ⟨rfl, r4, f4⟩) | (go_at_call 202; refine (H2.out _ _ _ r4).mono ?_; rintro e w5 hF; have hF' := hF; obtain ⟨g, vv', i', h1, rfl, h3⟩ := hF))
        exact ⟨rfl, .errI HR.out (hF'.after (f3.trans f4))⟩
      | ok p =>
        obtain ⟨b, s2⟩ := p
        have HR : Hid (total = .ok (.mk 59 ByteArray.empty [] [a, b], s2)) := by rw [Hid, hb, hr2]; rfl
        have H2 := hide (fun (w' : World) (vv' : Value) (vbs' : List Nat) (h' : RIn w' bp toks lv vv' (s1.1 + 1) d s1.2 vbs') => HQ'.out.ok hr2 h')
        clear hr2 hb HQ' HP'
        go_enter Tryz.func158, Tryz.ntmps158
        go_wp2_with (first | (go_at_call 200; refine H1.out.mono ?_; rintro e w3 ⟨t3, v3, vv3, vbs3, rfl, r3, p3, f3⟩) | (go_at_call 201; refine (HTk.out _ _ _ r3).mono ?_; rintro e w4 ⟨rfl, r4, f4⟩) | (go_at_call 202; refine (H2.out _ _ _ r4).mono ?_; rintro e w5 ⟨t5, v5, vv5, vbs5, rfl, r5, p5, f5⟩))
        go_ret
        exact .okI HR.out r5 (p3.trans p5) ((f3.trans f4).trans f5)
    · rw [decide_eq_false hq, if_neg (c := false = true) (by simp)] at hb
      have HTk := hide (fun (w' : World) (vv' : Value) (vbs' : List Nat) (h' : RIn w' bp toks lv vv' s1.1 d s1.2 vbs') => takes_n h' hg ht (s := [59]) hq)
      unfold ptrV at *
      clear hq
      by_cases hq2 : (tk toks s1.1).t = B [45, 62]
      · rw [decide_eq_true hq2, if_pos rfl] at hb
        have HTk2 := hide (fun (w' : World) (vv' : Value) (vbs' : List Nat) (h' : RIn w' bp toks lv vv' s1.1 d s1.2 vbs') => takes_y h' hg ht (s := [45, 62]) (by simp) hq2)
        clear hq2
        cases hr2 : rowBd toks lit (s1.1 + 1, s1.2) with
        | error p =>
          obtain ⟨er, a2⟩ := p
          have HR : Hid (total = .error (er, a2)) := by rw [Hid, hb, hr2]; rfl
          have H2 := hide (fun (w' : World) (vv' : Value) (vbs' : List Nat) (h' : RIn w' bp toks lv vv' (s1.1 + 1) d s1.2 vbs') => HP'.out.err hr2 h')
          clear hr2 hb HQ' HP'
          unfold ptrV at *
          go_enter Tryz.func158, Tryz.ntmps158
          go_wp2_with fail
          refine H1.out.mono ?_
          rintro e w3 ⟨t3, v3, vv3, vbs3, rfl, r3, p3, f3⟩
          go_wp2_with fail
          refine (HTk.out _ _ _ r3).mono ?_
          rintro e w4 ⟨rfl, r4, f4⟩
          go_wp2_with fail
          refine (HTk2.out _ _ _ r4).mono ?_
          rintro e w5 ⟨rfl, r5, f5⟩
          go_wp2_with fail
          refine (H2.out _ _ _ r5).mono ?_
          rintro e w6 hF
          have hF' := hF
          obtain ⟨g, vv', i', h1, rfl, h3⟩ := hF
          exact ⟨rfl, .errI HR.out (hF'.after ((f3.trans f4).trans f5))⟩
        | ok p =>
          obtain ⟨b, s2⟩ := p
          have hi3 := ht.is s2.1 (s := [59]) (by unfold SignLike; decide)
          have H2 := hide (fun (w' : World) (vv' : Value) (vbs' : List Nat) (h' : RIn w' bp toks lv vv' (s1.1 + 1) d s1.2 vbs') => HP'.out.ok hr2 h')
          have hb2 : total = if decide ((tk toks s2.1).t = B [59]) then (match rest (s2.1 + 1, s2.2) with | .error e => .error e | .ok (c, s3) => .ok (.mk 63 ByteArray.empty [] [a, b, c], s3)) else .ok (.mk 63 ByteArray.empty [] [a, b, failB], s2) := by
            rw [hb, hr2, ← hi3]; unfold thenOf; dsimp only
            cases rest (s2.1 + 1, s2.2) <;> rfl
          clear hr2 hb hi3 HP'
          by_cases hq3 : (tk toks s2.1).t = B [59]
          · have HTk3 := hide (fun (w' : World) (vv' : Value) (vbs' : List Nat) (h' : RIn w' bp toks lv vv' s2.1 d s2.2 vbs') => takes_y h' hg ht (s := [59]) (by simp) hq3)
            rw [decide_eq_true hq3, if_pos rfl] at hb2
            clear hq3
            cases hr3 : rest (s2.1 + 1, s2.2) with
            | error p =>
              obtain ⟨er, a3⟩ := p
              have HR : Hid (total = .error (er, a3)) := by rw [Hid, hb2, hr3]
              have H3 := hide (fun (w' : World) (vv' : Value) (vbs' : List Nat) (h' : RIn w' bp toks lv vv' (s2.1 + 1) d s2.2 vbs') => HQ'.out.err hr3 h')
              clear hr3 hb2 HQ'
              unfold ptrV at *
              go_enter Tryz.func158, Tryz.ntmps158
              go_wp2_with fail
              refine H1.out.mono ?_
              rintro e w3 ⟨t3, v3, vv3, vbs3, rfl, r3, p3, f3⟩
              go_wp2_with fail
              refine (HTk.out _ _ _ r3).mono ?_
              rintro e w4 ⟨rfl, r4, f4⟩
              go_wp2_with fail
              refine (HTk2.out _ _ _ r4).mono ?_
              rintro e w5 ⟨rfl, r5, f5⟩
              go_wp2_with fail
              refine (H2.out _ _ _ r5).mono ?_
              rintro e w6 ⟨t6, v6, vv6, vbs6, rfl, r6, p6, f6⟩
              have r6a := r6.alloc (.cells #[.iface t3 v3, .iface t6 v6, .iface 223 (.agg #[.string (B [102, 97, 105, 108]), .slice none 0 0])] 355)
              go_wp2_with fail
              refine (HTk3.out _ _ _ r6a).mono ?_
              rintro e w7 ⟨rfl, r7, f7⟩
              go_wp2_with fail
              refine (H3.out _ _ _ r7).mono ?_
              rintro e w8 hF
              have hF' := hF
              obtain ⟨g, vv', i', h1, rfl, h3⟩ := hF
              exact ⟨rfl, .errI HR.out (hF'.after (((((f3.trans f4).trans f5).trans f6).alloc _).trans f7))⟩
            | ok p =>
              obtain ⟨c, s3⟩ := p
              have HR : Hid (total = .ok (.mk 63 ByteArray.empty [] [a, b, c], s3)) := by rw [Hid, hb2, hr3]
              have H3 := hide (fun (w' : World) (vv' : Value) (vbs' : List Nat) (h' : RIn w' bp toks lv vv' (s2.1 + 1) d s2.2 vbs') => HQ'.out.ok hr3 h')
              clear hr3 hb2 HQ'
              unfold ptrV at *
              go_enter Tryz.func158, Tryz.ntmps158
              go_wp2_with fail
              refine H1.out.mono ?_
              rintro e w3 ⟨t3, v3, vv3, vbs3, rfl, r3, p3, f3⟩
              go_wp2_with fail
              refine (HTk.out _ _ _ r3).mono ?_
              rintro e w4 ⟨rfl, r4, f4⟩
              go_wp2_with fail
              refine (HTk2.out _ _ _ r4).mono ?_
              rintro e w5 ⟨rfl, r5, f5⟩
              go_wp2_with fail
              refine (H2.out _ _ _ r5).mono ?_
              rintro e w6 ⟨t6, v6, vv6, vbs6, rfl, r6, p6, f6⟩
              have r6a := r6.alloc (.cells #[.iface t3 v3, .iface t6 v6, .iface 223 (.agg #[.string (B [102, 97, 105, 108]), .slice none 0 0])] 355)
              go_wp2_with fail
              refine (HTk3.out _ _ _ r6a).mono ?_
              rintro e w7 ⟨rfl, r7, f7⟩
              go_wp2_with fail
              refine (H3.out _ _ _ r7).mono ?_
              rintro e w8 ⟨t8, v8, vv8, vbs8, rfl, r8, p8, f8⟩
              have hbx := r6.kept (f7.trans f8)
              obtain ⟨c0, c1, c2, cf⟩ := box3b hbx
              have hzb : w6.heap.size < w8.heap.size := (Array.getElem?_eq_some_iff.1 hbx).1
              have r9 := r8.setT (j := 2) (u := .iface t8 v8) hbx (by decide) (by decide) (by decide) (by decide)
              have hf6 := (((f3.trans f4).trans f5).trans f6)
              have hw6 := hf6.size
              have f9 := (((hf6.alloc _).trans f7).trans f8).setNew (p := ⟨w6.heap.size, 2, none⟩) hw6 (.iface t8 v8)
              go_wp2_with fail
              go_ret
              exact .okI HR.out r9 ((p3.trans p6).trans p8) f9
          · have HTk3 := hide (fun (w' : World) (vv' : Value) (vbs' : List Nat) (h' : RIn w' bp toks lv vv' s2.1 d s2.2 vbs') => takes_n h' hg ht (s := [59]) hq3)
            rw [decide_eq_false hq3, if_neg (by simp)] at hb2
            have HR := hide hb2
            clear hq3 hb2 HQ'
            unfold ptrV at *
            go_enter Tryz.func158, Tryz.ntmps158
            go_wp2_with fail
            refine H1.out.mono ?_
            rintro e w3 ⟨t3, v3, vv3, vbs3, rfl, r3, p3, f3⟩
            go_wp2_with fail
            refine (HTk.out _ _ _ r3).mono ?_
            rintro e w4 ⟨rfl, r4, f4⟩
            go_wp2_with fail
            refine (HTk2.out _ _ _ r4).mono ?_
            rintro e w5 ⟨rfl, r5, f5⟩
            go_wp2_with fail
            refine (H2.out _ _ _ r5).mono ?_
            rintro e w6 ⟨t6, v6, vv6, vbs6, rfl, r6, p6, f6⟩
            have r6a := r6.alloc (.cells #[.iface t3 v3, .iface t6 v6, .iface 223 (.agg #[.string (B [102, 97, 105, 108]), .slice none 0 0])] 355)
            go_wp2_with fail
            refine (HTk3.out _ _ _ r6a).mono ?_
            rintro e w7 ⟨rfl, r7, f7⟩
            have hbx := r6.kept f7
            obtain ⟨c0, c1, c2, cf⟩ := box3b hbx
            have hzb : w6.heap.size < w7.heap.size := (Array.getElem?_eq_some_iff.1 hbx).1
            go_wp2_with fail
            go_ret
            exact .okI HR.out r7 (p3.trans p6) (((((f3.trans f4).trans f5).trans f6).alloc _).trans f7)
      · rw [decide_eq_false hq2, if_neg (by simp)] at hb
        have HTk2 := hide (fun (w' : World) (vv' : Value) (vbs' : List Nat) (h' : RIn w' bp toks lv vv' s1.1 d s1.2 vbs') => takes_n h' hg ht (s := [45, 62]) hq2)
        have HR := hide hb
        clear hq2 hb HP' HQ'
        unfold ptrV at *
        go_enter Tryz.func158, Tryz.ntmps158
        go_wp2_with (first | (go_at_call 200; refine H1.out.mono ?_; rintro e w3 ⟨t3, v3, vv3, vbs3, rfl, r3, p3, f3⟩) | (go_at_call 201; refine (HTk.out _ _ _ r3).mono ?_; rintro e w4 ⟨rfl, r4, f4⟩; clear r3) | (go_at_call 201; refine (HTk2.out _ _ _ r4).mono ?_; rintro e w5 ⟨rfl, r5, f5⟩))
        go_ret
        exact .okI HR.out r5 p3 ((f3.trans f4).trans f5)
end Go.Proofs.YtodpkdajbnceoaaGreatDoor
