import Derived.Test.YtodpkdajbnceoaaGreatDoorPart21
import Derived.WideKeyRuns
set_option linter.unusedVariables false
set_option linter.unusedSimpArgs false
namespace Go.Proofs.YtodpkdajbnceoaaGreatDoor
open Go.RowKit

/-! The table of a program's clauses. -/

def pk (n : ByteArray) (k : Int) : Value := .agg #[.string n, .int .i64 k]

theorem Tryz.predStruct : Tryz.prog.underlying 220 = some (.struct (Tryz.prog.fieldsOf 220)) := by kernel_rfl
theorem Tryz.predFields : (Tryz.prog.fieldsOf 220).toList.map (fun f : Field => (f.name, f.type, f.offset)) = [("Name", 9, 0), ("Arity", 3, 1)] := by kernel_rfl
theorem Tryz.predHeld : Tryz.prog.stoodInHeld 220 = false := by kernel_rfl
theorem Tryz.underlyingProg : Tryz.prog.underlying 159 = some (.map 220 189) := by kernel_rfl
theorem Tryz.plainStr : Tryz.prog.plainKey 9 = true := by kernel_rfl
theorem Tryz.plainInt : Tryz.prog.plainKey 3 = true := by kernel_rfl

theorem pk_check (e : Bool) (n : ByteArray) (k : Int) (w : World) : (Instr.checkKey e 10000 220 (pk n k)).run Tryz.prog w = .ok () w := by kernel_rfl

theorem fields2 {l : List Field} {t0 t1 : TypeId} (hf : l.map (fun f : Field => (f.name, f.type, f.offset)) = [("Name", t0, 0), ("Arity", t1, 1)]) : ∃ f0 f1 : Field, l = [f0, f1] ∧ (f0.name = "Name" ∧ f0.type = t0 ∧ f0.offset = 0) ∧ f1.name = "Arity" ∧ f1.type = t1 ∧ f1.offset = 1 := by
  match l, hf with
  | [], hf => simp at hf
  | [_], hf => simp at hf
  | _ :: _ :: _ :: _, hf => simp at hf
  | [f0, f1], hf =>
    simp only [List.map_cons, List.map_nil, List.cons.injEq, Prod.mk.injEq, and_true] at hf
    exact ⟨f0, f1, rfl, hf.1, hf.2⟩

theorem pk_eq (n m : ByteArray) (k j : Int) (w : World) : (Op.equal 220 (pk n k) (pk m j)).run Tryz.prog w = .ok (decide (n = m ∧ k = j)) w := by
  obtain ⟨f0, f1, hl, ⟨a1, a2, a3⟩, b1, b2, b3⟩ := fields2 Tryz.predFields
  have p0 : ∀ s : ByteArray, ∀ z : Int, (part 9 #[.string s, .int .i64 z] 0).run Tryz.prog w = .ok (.string s) w := fun s z => run_part_plain w Tryz.plainStr rfl
  have p1 : ∀ s : ByteArray, ∀ z : Int, (part 3 #[.string s, .int .i64 z] 1).run Tryz.prog w = .ok (.int .i64 z) w := fun s z => run_part_plain w Tryz.plainInt rfl
  have e0 : ∀ d : Nat, (Op.equalIn (d + 1) 9 (.string n) (.string m)).run Tryz.prog w = .ok (n == m) w := fun d => by simp [Op.equalIn, run_underlying Tryz.underlying9]
  have e1 : ∀ d : Nat, (Op.equalIn (d + 1) 3 (.int .i64 k) (.int .i64 j)).run Tryz.prog w = .ok (k == j) w := fun d => by simp [Op.equalIn, run_underlying Tryz.underlying3]
  have hb : (n == m) = decide (n = m) := by rw [Bool.eq_iff_iff, decide_eq_true_iff]; exact MapKept.bytes_beq n m
  have h : ∀ d : Nat, (Op.equalIn (d + 2) 220 (pk n k) (pk m j)).run Tryz.prog w = .ok (decide (n = m ∧ k = j)) w := fun d => by
    unfold pk
    rw [run_equalIn_struct w (d + 1) _ _ _ Tryz.predStruct Tryz.predHeld, hl]
    have q0 : ¬ ("Name" : String) = "_" := by decide
    have q1 : ¬ ("Arity" : String) = "_" := by decide
    simp only [Op.eqFields, a1, a2, a3, b1, b2, b3, ne_eq, q0, q1, not_false_eq_true, if_true, Sem.run_bind, p0, p1, e0, e1, Result.andThen_ok, hb]
    by_cases h1 : n = m
    · rw [decide_eq_true h1]
      simp only [Bool.not_true, Bool.false_eq_true, if_false, Sem.run_bind, p1, e1, Result.andThen_ok]
      by_cases h2 : k = j
      · simp [h1, h2]
      · simp [h2]
    · simp [h1]
  exact h 9998

end Go.Proofs.YtodpkdajbnceoaaGreatDoor

namespace Go.Proofs.YtodpkdajbnceoaaGreatDoor
open Go.RowKit

/-! Entries of the table. -/

/-- an entry: a predicate's name and number of arguments, the slice that has its clauses, and their cells -/
structure TE where
  n : ByteArray
  k : Nat
  v : Value
  cs : List (List Value)

def entsP : Nat → List TE → List MapEntry
  | _, [] => []
  | i, e :: l => { key := pk e.n e.k, val := e.v, born := i } :: entsP (i + 1) l

def idxP (n : ByteArray) (k : Nat) : List TE → Option Nat
  | [] => none
  | e :: l => if e.n = n ∧ e.k = k then some 0 else (idxP n k l).map (· + 1)

theorem entsP_len : ∀ (i : Nat) (l : List TE), (entsP i l).length = l.length
  | _, [] => rfl
  | i, _ :: l => by simp [entsP, entsP_len (i + 1) l]

theorem entsP_get : ∀ (i : Nat) (l : List TE) (q : Nat) (e : TE), l[q]? = some e → (entsP i l)[q]? = some { key := pk e.n e.k, val := e.v, born := i + q }
  | i, [], q, e, h => by simp at h
  | i, a :: l, 0, e, h => by simp at h; subst h; rfl
  | i, a :: l, q + 1, e, h => by
    rw [entsP, List.getElem?_cons_succ, entsP_get (i + 1) l q e (by simpa using h), show i + 1 + q = i + (q + 1) by omega]

theorem entsP_snoc (e : TE) : ∀ (i : Nat) (l : List TE), entsP i (l ++ [e]) = entsP i l ++ [{ key := pk e.n e.k, val := e.v, born := i + l.length }]
  | i, [] => by simp [entsP]
  | i, a :: l => by
    have e1 : i + 1 + l.length = i + (a :: l).length := by simp; omega
    rw [List.cons_append, entsP, entsP_snoc e (i + 1) l, entsP, e1]
    rfl

theorem entsP_set : ∀ (i : Nat) (l : List TE) (q : Nat) (e : TE) (v : Value) (cs : List (List Value)), l[q]? = some e → entsP i (l.set q { e with v := v, cs := cs }) = (entsP i l).modify q fun x => { x with val := v }
  | i, [], q, e, v, cs, h => by simp at h
  | i, a :: l, 0, e, v, cs, h => by simp at h; subst h; rfl
  | i, a :: l, q + 1, e, v, cs, h => by
    rw [List.set_cons_succ, entsP, entsP_set (i + 1) l q e v cs (by simpa using h), entsP]
    rfl

theorem idxP_some {n : ByteArray} {k : Nat} : ∀ {l : List TE} {q : Nat}, idxP n k l = some q → ∃ e, l[q]? = some e ∧ e.n = n ∧ e.k = k
  | [], q, h => by simp [idxP] at h
  | a :: l, q, h => by
    rw [idxP] at h
    split at h
    · rename_i hq
      injection h with h; subst h
      exact ⟨a, rfl, hq.1, hq.2⟩
    · obtain ⟨j, hj, rfl⟩ := Option.map_eq_some_iff.1 h
      obtain ⟨e, h1, h2⟩ := idxP_some hj
      exact ⟨e, by simpa using h1, h2⟩

theorem findAskP (n : ByteArray) (k : Nat) (w : World) : ∀ (l : List TE) (i j : Nat), (Instr.findAsking 220 (pk n k) (entsP i l) j).run Tryz.prog w = .ok ((idxP n k l).bind fun q => (l[q]?).map fun e => (j + q, e.v)) w
  | [], i, j => by simp [entsP, Instr.findAsking, idxP]
  | a :: l, i, j => by
    rw [entsP, Instr.findAsking]
    simp only [Sem.run_bind, pk_eq, Result.andThen_ok, idxP]
    by_cases h : a.n = n ∧ a.k = k
    · rw [if_pos h, if_pos (by simp [h.1, h.2])]
      simp
    · rw [if_neg h, if_neg (by
        simp only [decide_eq_true_eq]
        rintro ⟨h1, h2⟩
        exact h ⟨h1.symm, by omega⟩), findAskP n k w l (i + 1) (j + 1)]
      congr 1
      cases idxP n k l with
      | none => rfl
      | some q =>
        simp only [Option.bind_some, Option.map_some, List.getElem?_cons_succ]
        cases l[q]? with
        | none => rfl
        | some e => simp; omega

theorem findP (n : ByteArray) (k : Nat) (w : World) (l : List TE) : (Instr.findKey 220 (pk n k) (entsP 0 l)).run Tryz.prog w = .ok ((idxP n k l).bind fun q => (l[q]?).map fun e => (q, e.v)) w := by
  rw [run_findKey_eq w (by rw [Tryz.predStruct]) (pk n k) (entsP 0 l), findAskP n k w l 0 0]
  simp

theorem Tryz.zeroCls (w : World) : (zeroValue 189).run Tryz.prog w = .ok (.slice none 0 0) w := by kernel_rfl

theorem stays_pk (n : ByteArray) (k : Int) (w : World) : (Instr.keyThatStays (pk n k) (pk n k)).run Tryz.prog w = .ok (pk n k) w := by
  have h : Instr.sameBits 10000 (pk n k) (pk n k) = true := by
    unfold pk
    have hb : (n == n) = true := (MapKept.bytes_beq n n).2 rfl
    simp [Instr.sameBits, hb]
  simp [Instr.keyThatStays, h]

/-- the map's block is set -/
def setM (w : World) (mb : Nat) (l : List TE) : World := { w with heap := w.heap.setIfInBounds mb (.map (entsP 0 l).toArray l.length) }

theorem setM_at {w : World} {mb : Nat} {o : Obj} (h : w.heap[mb]? = some o) (l : List TE) : (setM w mb l).heap[mb]? = some (.map (entsP 0 l).toArray l.length) := by
  unfold setM
  simp only [Array.getElem?_setIfInBounds]
  rw [if_pos trivial, if_pos (Array.getElem?_eq_some_iff.1 h).1]
theorem setM_other (w : World) (mb : Nat) (l : List TE) {b : Nat} (hb : b ≠ mb) : (setM w mb l).heap[b]? = w.heap[b]? := by
  unfold setM
  simp only [Array.getElem?_setIfInBounds]
  rw [if_neg (fun e => hb e.symm)]
theorem setM_self {w : World} {mb : Nat} {l : List TE} (h : w.heap[mb]? = some (.map (entsP 0 l).toArray l.length)) : setM w mb l = w := by
  obtain ⟨h1, h2⟩ := Array.getElem?_eq_some_iff.1 h
  have : w.heap.setIfInBounds mb (.map (entsP 0 l).toArray l.length) = w.heap := by
    apply Array.ext
    · simp
    · intro i hi hj
      by_cases q : mb = i
      · subst q; simp [h2]
      · rw [Array.getElem_setIfInBounds_ne (by omega) q]
  unfold setM
  rw [this]

theorem entry_old {w : World} {mb : Nat} {l : List TE} {n : ByteArray} {k q : Nat} {e : TE} (h : w.heap[mb]? = some (.map (entsP 0 l).toArray l.length)) (hq : idxP n k l = some q) (he : l[q]? = some e) :
    (Instr.mapEntry 159 (.map (some mb)) (pk n k)).run Tryz.prog w = .ok (.tuple #[e.v, .int .i64 q]) w := by
  obtain ⟨e', h1, h2, h3⟩ := idxP_some hq
  have h1 := Option.some.inj (he.symm.trans h1)
  subst h1
  have hf := findP n k w l
  rw [hq, Option.bind_some, he, Option.map_some] at hf
  have hg : (entsP 0 l)[q]? = some { key := pk n k, val := e.v, born := q } := by
    have := entsP_get 0 l q e he
    rw [h2, h3, Nat.zero_add] at this
    exact this
  have hg' : (entsP 0 l).toArray[q]? = some { key := pk n k, val := e.v, born := q } := by simpa using hg
  have hsame : (entsP 0 l).toArray.modify q (fun e => { e with key := pk n k }) = (entsP 0 l).toArray := by
    apply Array.ext'
    rw [Array.toList_modify]
    apply List.ext_getElem?
    intro i
    rw [List.getElem?_modify]
    by_cases hi : q = i
    · subst hi; simp [hg]
    · simp [hi]
  simp only [Instr.mapEntry, Sem.run_bind, run_underlying Tryz.underlyingProg, Result.andThen_ok, MapKept.run_getObj_map h, pk_check, hf, hg', Option.map_some, Option.getD_some, stays_pk, hsame, MapKept.run_setObj_map _ h, Sem.run_pure]
  have := setM_self h
  unfold setM at this
  rw [this]
  rfl

theorem entry_new {w : World} {mb : Nat} {l : List TE} {n : ByteArray} {k : Nat} (h : w.heap[mb]? = some (.map (entsP 0 l).toArray l.length)) (hq : idxP n k l = none) :
    (Instr.mapEntry 159 (.map (some mb)) (pk n k)).run Tryz.prog w = .ok (.tuple #[.slice none 0 0, .int .i64 l.length]) (setM w mb (l ++ [⟨n, k, .slice none 0 0, []⟩])) := by
  have hf := findP n k w l
  rw [hq, Option.bind_none] at hf
  simp only [Instr.mapEntry, Sem.run_bind, run_underlying Tryz.underlyingProg, Result.andThen_ok, MapKept.run_getObj_map h, pk_check, hf, Tryz.zeroCls, MapKept.run_setObj_map _ h, Sem.run_pure]
  unfold setM
  rw [entsP_snoc]
  simp [goInt]

theorem store_entry {w : World} {mb q : Nat} {l : List TE} {e : TE} (h : w.heap[mb]? = some (.map (entsP 0 l).toArray l.length)) (he : l[q]? = some e) (v : Value) (cs : List (List Value)) :
    (Instr.entryStore 159 (.map (some mb)) (.int .i64 q) v).run Tryz.prog w = .ok () (setM w mb (l.set q { e with v := v, cs := cs })) := by
  have hidx : (entsP 0 l).toArray.findIdx? (fun e => ((e.born : Nat) : Int) == ((q : Nat) : Int)) = some q := by
    have hql : q < (entsP 0 l).length := by rw [entsP_len]; exact (List.getElem?_eq_some_iff.1 he).1
    rw [List.findIdx?_toArray, List.findIdx?_eq_some_iff_getElem]
    refine ⟨hql, ?_, fun j hj => ?_⟩
    · have := entsP_get 0 l q e he
      rw [List.getElem?_eq_getElem hql] at this
      injection this with this
      rw [this]; simp
    · have hjl : j < l.length := by rw [entsP_len] at hql; omega
      have := entsP_get 0 l j l[j] (List.getElem?_eq_getElem hjl)
      rw [List.getElem?_eq_getElem (by rw [entsP_len]; exact hjl)] at this
      injection this with this
      rw [this]
      simp; omega
  simp only [Instr.entryStore, Sem.run_bind, Result.andThen_ok, MapKept.run_getObj_map h, asInt, asIntOf, hidx, MapKept.run_setObj_map _ h, Sem.run_pure]
  unfold setM
  rw [entsP_set 0 l q e v cs he]
  simp

end Go.Proofs.YtodpkdajbnceoaaGreatDoor
