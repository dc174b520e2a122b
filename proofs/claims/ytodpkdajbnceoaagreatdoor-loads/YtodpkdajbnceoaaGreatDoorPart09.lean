import Derived.Test.YtodpkdajbnceoaaGreatDoorPart08
set_option linter.unusedVariables false
set_option linter.unusedSimpArgs false
namespace Go.Proofs.YtodpkdajbnceoaaGreatDoor
open Go.RowKit

/-! The one form of a term. -/

def varOut (k : Nat) (s : List Nat) : List UInt8 × List Nat :=
  match s.idxOf? k with
  | some i => (95 :: decN (i + 1), s)
  | none => (95 :: decN (s.length + 1), s ++ [k])

def opOut (n : ByteArray) : List UInt8 := if n = B [109, 111, 100] then [32, 109, 111, 100, 32] else n.data.toList

mutual
def outS : Ex → Int → List Nat → List UInt8 × List Nat
  | .atom n, _, s => (n.data.toList, s)
  | .num v, _, s => (decS v, s)
  | .var k, _, s => varOut k s
  | .cmp n [a, b], least, s =>
    if 0 < powS n 2 then
      let r := outS a (powS n 2) s
      let q := outS b (powS n 2 + 1) r.2
      (if powS n 2 < least then 40 :: (r.1 ++ opOut n ++ q.1 ++ [41]) else r.1 ++ opOut n ++ q.1, q.2)
    else if n = B [46] then
      let r := outS a 0 s
      let q := restS b r.2
      (91 :: (r.1 ++ q.1), q.2)
    else
      let r := outS a 0 s
      let q := outS b 0 r.2
      (n.data.toList ++ [40] ++ r.1 ++ [44] ++ q.1 ++ [41], q.2)
  | .cmp n args, _, s => (n.data.toList ++ [40] ++ (rowS args true s).1 ++ [41], (rowS args true s).2)
termination_by x => (szE x, 0)
decreasing_by all_goals (rw [Prod.lex_def]; simp only [szE, szL]; omega)
/-- behind an element of a list -/
def restS : Ex → List Nat → List UInt8 × List Nat
  | .cmp n [a, b], s =>
    if n = B [46] then
      let r := outS a 0 s
      let q := restS b r.2
      (44 :: (r.1 ++ q.1), q.2)
    else
      let q := outS (.cmp n [a, b]) 0 s
      (124 :: (q.1 ++ [93]), q.2)
  | .atom n, s => if n = B [91, 93] then ([93], s) else (124 :: (n.data.toList ++ [93]), s)
  | x, s => (124 :: ((outS x 0 s).1 ++ [93]), (outS x 0 s).2)
termination_by x => (szE x, 1)
decreasing_by all_goals (rw [Prod.lex_def]; first | (simp only [szE, szL]; omega) | (right; exact ⟨rfl, Nat.zero_lt_one⟩))
def rowS : List Ex → Bool → List Nat → List UInt8 × List Nat
  | [], _, s => ([], s)
  | x :: l, first, s =>
    let r := outS x 0 s
    let q := rowS l false r.2
    ((if first then [] else [44]) ++ r.1 ++ q.1, q.2)
termination_by l => (szL l, 2)
decreasing_by
  · rw [Prod.lex_def]; simp only [szL]; omega
  · rw [Prod.lex_def]; have := szE_pos x; simp only [szL]; omega
end

end Go.Proofs.YtodpkdajbnceoaaGreatDoor

namespace Go.Proofs.YtodpkdajbnceoaaGreatDoor
open Go.RowKit

/-! What the table holds of a term; how long its one form is. -/

mutual
def Has (vl : List Nat) (T : List Nd) : Ex → Nat → Prop
  | .atom n, t => T[t]? = some ⟨97, n, 0, []⟩
  | .num v, t => T[t]? = some ⟨110, ByteArray.empty, v, []⟩
  | .var k, t => vl[k]? = some t ∧ T[t]? = some varNd
  | .cmp n args, t => ∃ idx, T[t]? = some ⟨99, n, 0, idx⟩ ∧ HasL vl T args idx
def HasL (vl : List Nat) (T : List Nd) : List Ex → List Nat → Prop
  | [], idx => idx = []
  | x :: l, idx => ∃ i r, idx = i :: r ∧ Has vl T x i ∧ HasL vl T l r
end

mutual
theorem Has.mono (vl : List Nat) {T R : List Nd} : ∀ {x : Ex} {t : Nat}, Has vl T x t → Has vl (T ++ R) x t
  | .atom n, t, h => by
    have h' : T[t]? = some ⟨97, n, 0, []⟩ := h
    show (T ++ R)[t]? = _
    rw [List.getElem?_append_left (List.getElem?_eq_some_iff.1 h').1]; exact h'
  | .num v, t, h => by
    have h' : T[t]? = some ⟨110, ByteArray.empty, v, []⟩ := h
    show (T ++ R)[t]? = _
    rw [List.getElem?_append_left (List.getElem?_eq_some_iff.1 h').1]; exact h'
  | .var k, t, h => by
    have h' : vl[k]? = some t ∧ T[t]? = some varNd := h
    exact ⟨h'.1, by rw [List.getElem?_append_left (List.getElem?_eq_some_iff.1 h'.2).1]; exact h'.2⟩
  | .cmp n args, t, h => by
    obtain ⟨idx, h1, h2⟩ : ∃ idx, T[t]? = some ⟨99, n, 0, idx⟩ ∧ HasL vl T args idx := h
    exact ⟨idx, by rw [List.getElem?_append_left (List.getElem?_eq_some_iff.1 h1).1]; exact h1, HasL.mono vl h2⟩
theorem HasL.mono (vl : List Nat) {T R : List Nd} : ∀ {l : List Ex} {idx : List Nat}, HasL vl T l idx → HasL vl (T ++ R) l idx
  | [], idx, h => h
  | x :: l, idx, h => by
    obtain ⟨i, r, e, h1, h2⟩ : ∃ i r, idx = i :: r ∧ Has vl T x i ∧ HasL vl T l r := h
    exact ⟨i, r, e, Has.mono vl h1, HasL.mono vl h2⟩
end

mutual
theorem madeS_app (vl : List Nat) : ∀ (x : Ex) (T : List Nd), ∃ R, (madeS vl x T).2 = T ++ R
  | .atom n, T => ⟨[⟨97, n, 0, []⟩], by simp [madeS]⟩
  | .num v, T => ⟨[⟨110, ByteArray.empty, v, []⟩], by simp [madeS]⟩
  | .var k, T => ⟨[], by simp [madeS]⟩
  | .cmp n args, T => by
    obtain ⟨R, h⟩ := madeL_app vl args T
    exact ⟨R ++ [⟨99, n, 0, (madeL vl args T).1⟩], by simp [madeS, h]⟩
theorem madeL_app (vl : List Nat) : ∀ (l : List Ex) (T : List Nd), ∃ R, (madeL vl l T).2 = T ++ R
  | [], T => ⟨[], by simp [madeL]⟩
  | x :: l, T => by
    obtain ⟨R, h⟩ := madeS_app vl x T
    obtain ⟨R', h'⟩ := madeL_app vl l (madeS vl x T).2
    exact ⟨R ++ R', by simp only [madeL]; rw [h', h, List.append_assoc]⟩
end

/-- the variables lie in the table -/
def VarsIn (vl : List Nat) (T : List Nd) : Prop := ∀ k (h : k < vl.length), T[vl[k]]? = some varNd

theorem VarsIn.mono {vl : List Nat} {T R : List Nd} (h : VarsIn vl T) : VarsIn vl (T ++ R) := fun k hk => by
  rw [List.getElem?_append_left (List.getElem?_eq_some_iff.1 (h k hk)).1]; exact h k hk

mutual
theorem has_made (vl : List Nat) : ∀ (x : Ex) (T : List Nd), VarsIn vl T → varsIn vl.length x → Has vl (madeS vl x T).2 x (madeS vl x T).1
  | .atom n, T, _, _ => by simp [madeS, Has]
  | .num v, T, _, _ => by simp [madeS, Has]
  | .var k, T, hv, h => by
    have hk : k < vl.length := h
    have e1 : (madeS vl (.var k) T).1 = vl[k] := by simp [madeS, hk]
    have e2 : (madeS vl (.var k) T).2 = T := by simp [madeS]
    rw [e1, e2]
    exact ⟨by simp [hk], hv k hk⟩
  | .cmp n args, T, hv, h => by
    have hL := hasL_made vl args T hv h
    exact ⟨(madeL vl args T).1, by simp [madeS], by simp only [madeS]; exact HasL.mono vl hL⟩
theorem hasL_made (vl : List Nat) : ∀ (l : List Ex) (T : List Nd), VarsIn vl T → varsInL vl.length l → HasL vl (madeL vl l T).2 l (madeL vl l T).1
  | [], T, _, _ => by simp [madeL, HasL]
  | x :: l, T, hv, h => by
    have h1 := has_made vl x T hv h.1
    obtain ⟨R, e⟩ := madeS_app vl x T
    have h2 := hasL_made vl l (madeS vl x T).2 (by rw [e]; exact hv.mono) h.2
    obtain ⟨R', e'⟩ := madeL_app vl l (madeS vl x T).2
    refine ⟨(madeS vl x T).1, (madeL vl l (madeS vl x T).2).1, by simp [madeL], ?_, by simpa [madeL] using h2⟩
    simp only [madeL]
    rw [e']
    exact Has.mono vl h1
end

/-! How long: names are short, numbers have their digits. -/

mutual
def short : Ex → Prop
  | .atom n => n.size ≤ 2000
  | .num v => -9223372036854775808 < v ∧ v < 9223372036854775808
  | .var _ => True
  | .cmp n args => n.size ≤ 2000 ∧ shortL args
def shortL : List Ex → Prop
  | [] => True
  | x :: l => short x ∧ shortL l
end

theorem decS_len (v : Int) (h1 : -9223372036854775808 < v) (h2 : v < 9223372036854775808) : (decS v).length ≤ 20 := by
  unfold decS
  have := decN_len 19 v.natAbs (by omega)
  split <;> simp <;> omega

theorem varOut_len (k : Nat) (s : List Nat) (h : s.length ≤ 100000) : (varOut k s).1.length ≤ 20 := by
  unfold varOut
  split
  · rename_i i hi
    have hil : i < s.length := by
      have := List.idxOf?_eq_some_iff.1 hi
      exact this.1
    have := decN_len 18 (i + 1) (by omega)
    simp; omega
  · have := decN_len 18 (s.length + 1) (by omega)
    simp; omega

theorem opOut_len (n : ByteArray) (h : n.size ≤ 2000) : (opOut n).length ≤ 2000 := by
  unfold opOut
  split
  · simp
  · simpa using h

/-- the bounds of one term -/
def LenOk (x : Ex) : Prop := ∀ (least : Int) (s : List Nat), s.length + szE x ≤ 100000 → (outS x least s).1.length + 50 ≤ 2100 * szE x ∧ (outS x least s).2.length ≤ s.length + szE x
def RestOk (x : Ex) : Prop := ∀ (s : List Nat), s.length + szE x ≤ 100000 → (restS x s).1.length + 48 ≤ 2100 * szE x ∧ (restS x s).2.length ≤ s.length + szE x

theorem row_len : ∀ (l : List Ex), (∀ x ∈ l, LenOk x) → ∀ (first : Bool) (s : List Nat), s.length + szL l ≤ 100000 → (rowS l first s).1.length ≤ 2100 * szL l ∧ (rowS l first s).2.length ≤ s.length + szL l
  | [], _, first, s, h => by rw [rowS]; simp
  | x :: l, hx, first, s, h => by
    simp only [szL] at h
    have h1 := hx x (by simp) 0 s (by omega)
    have h2 := row_len l (fun y hy => hx y (by simp [hy])) false (outS x 0 s).2 (by omega)
    rw [rowS]
    simp only [szL, List.length_append]
    have : (if first = true then ([] : List UInt8) else [44]).length ≤ 1 := by split <;> simp
    omega

theorem shortL_get (l : List Ex) (h : shortL l) : ∀ k (hk : k < l.length), short l[k] := by
  induction l with
  | nil => intro k hk; simp at hk
  | cons x l ih => intro k hk; cases k with
    | zero => exact h.1
    | succ k => exact ih h.2 k (by simpa using hk)

theorem rest_other {x : Ex} (hx : LenOk x) (s : List Nat) (h : s.length + szE x ≤ 100000) : (124 :: ((outS x 0 s).1 ++ [93])).length + 48 ≤ 2100 * szE x ∧ (outS x 0 s).2.length ≤ s.length + szE x := by
  have := hx 0 s h
  simp; omega

theorem len_ok : ∀ (m : Nat) (x : Ex), szE x ≤ m → short x → LenOk x ∧ RestOk x
  | 0, x, h, _ => by have := szE_pos x; omega
  | m + 1, .atom n, h, hs => by
    have hn : n.size ≤ 2000 := hs
    have h1 : LenOk (.atom n) := fun least s _ => by rw [outS]; simp [szE]; omega
    refine ⟨h1, fun s hl => ?_⟩
    rw [restS]
    split
    · simp [szE]
    · simp [szE]; omega
  | m + 1, .num v, h, hs => by
    have hv := decS_len v hs.1 hs.2
    have h1 : LenOk (.num v) := fun least s _ => by rw [outS]; simp [szE]; omega
    exact ⟨h1, fun s hl => by rw [restS]; exact rest_other h1 s hl; all_goals simp⟩
  | m + 1, .var k, h, hs => by
    have h1 : LenOk (.var k) := fun least s hl => by
      rw [outS]
      have := varOut_len k s (by omega)
      refine ⟨by simp [szE]; omega, ?_⟩
      unfold varOut; split <;> simp [szE]
    exact ⟨h1, fun s hl => by rw [restS]; exact rest_other h1 s hl; all_goals simp⟩
  | m + 1, .cmp n args, h, hs => by
    have hn : n.size ≤ 2000 := hs.1
    have hall : ∀ x ∈ args, LenOk x ∧ RestOk x := fun x hx => by
      obtain ⟨j, hj, rfl⟩ := List.getElem_of_mem hx
      exact len_ok m _ (by have := sizeOf_get args n j hj; omega) (shortL_get args hs.2 j hj)
    by_cases h2 : ∃ a b, args = [a, b]
    · obtain ⟨a, b, rfl⟩ := h2
      have ha := hall a (by simp)
      have hb := hall b (by simp)
      have hop := opOut_len n hn
      have hsz : szE (.cmp n [a, b]) = 1 + szE a + szE b := by simp [szE, szL]; omega
      have h1 : LenOk (.cmp n [a, b]) := fun least s hl => by
        rw [hsz] at hl ⊢
        rw [outS]
        split
        · have q1 := ha.1 (powS n 2) s (by omega)
          have q2 := hb.1 (powS n 2 + 1) (outS a (powS n 2) s).2 (by omega)
          dsimp only
          refine ⟨?_, by omega⟩
          split <;> simp <;> omega
        · split
          · have q1 := ha.1 0 s (by omega)
            have q2 := hb.2 (outS a 0 s).2 (by omega)
            dsimp only
            refine ⟨by simp; omega, by omega⟩
          · have q1 := ha.1 0 s (by omega)
            have q2 := hb.1 0 (outS a 0 s).2 (by omega)
            dsimp only
            refine ⟨by simp; omega, by omega⟩
      refine ⟨h1, fun s hl => ?_⟩
      rw [restS]
      split
      · rw [hsz] at hl ⊢
        have q1 := ha.1 0 s (by omega)
        have q2 := hb.2 (outS a 0 s).2 (by omega)
        dsimp only
        exact ⟨by simp; omega, by omega⟩
      · exact rest_other h1 s hl
    · have hsz : szE (.cmp n args) = 1 + szL args := by simp [szE]
      have h1 : LenOk (.cmp n args) := fun least s hl => by
        rw [hsz] at hl ⊢
        rw [outS]
        · have q := row_len args (fun x hx => (hall x hx).1) true s (by omega)
          simp; omega
        · intro a b e; exact h2 ⟨a, b, e⟩
      refine ⟨h1, fun s hl => ?_⟩
      rw [restS]
      · exact rest_other h1 s hl
      · intro a b c e; injection e with _ e; exact h2 ⟨b, c, e⟩
      · intro a e; cases e

end Go.Proofs.YtodpkdajbnceoaaGreatDoor

namespace Go.Proofs.YtodpkdajbnceoaaGreatDoor
open Go.RowKit

theorem pow_eq (n : ByteArray) (m : Nat) : powS n m = if m ≠ 2 then 0 else if (n.toList == [43]) = true ∨ (n.toList == [45]) = true then 1 else if (n.toList == [42]) = true ∨ (n.toList == [47, 47]) = true ∨ (n.toList == [109, 111, 100]) = true then 2 else 0 := by
  unfold powS
  simp only [← B_beq, decide_eq_true_eq]

set_option maxRecDepth 100000 in
set_option maxHeartbeats 1000000 in
theorem power_any {w : World} {wb hb : Nat} {V : _root_.Fin 6 → Value} {T : List Nd} {avs : List Value} {cost most : Int} {sv : Value} {seen : List Nat} (h : WIn w wb hb V T avs cost most sv seen) (t : Nat) (ht : t < T.length) (_hsm : T.length ≤ 100000)
    (hk : T[t].k = 99) (hm : T[t].ags.length ≤ 100000) :
    Calls Tryz.prog 100 #[.pointer (some ⟨wb, 0, none⟩), .int .i64 t] w fun e w' => e = .returned (.int .i64 (powS T[t].nm T[t].ags.length)) ∧ w' = w := by
  obtain ⟨g0, p0, g1, p1, g2, p2, g3, p3, a, m, c, c0, k0, l0, c1, k1, l1, c2, k2, l2, c3, k3, l3, ho, em, hmem, _⟩ := h.T.row t ht
  have w0 := h.w0
  subst em
  obtain ⟨nd, hnd⟩ : ∃ n, n = T[t] := ⟨_, rfl⟩
  rw [← hnd] at k0 k1 k2 k3 ho hk hm ⊢
  rw [hk] at k0
  obtain ⟨ln, hln⟩ : ∃ l, l = nd.ags.length := ⟨_, rfl⟩
  rw [← hln] at k3 hm ⊢
  have HP := hide (pow_eq nd.nm ln)
  clear hnd hln ho hmem hk
  by_cases h2 : ln = 2
  · subst h2
    go_enter Tryz.func100, Tryz.ntmps100
    go_wp2_with fail
    all_goals
      go_ret
      refine ⟨ret_int ?_, rfl⟩
      go_light
      rw [HP.out]
      clear HP c0 k0 l0 c1 k1 l1 c2 k2 l2 c3 k3 l3 w0 h
      simp_all
  · have h2' : ((ln : Int) == 2) = false := by simp; omega
    have h2n : (ln != 2) = true := by simpa using h2
    go_enter Tryz.func100, Tryz.ntmps100
    go_wp2_with fail
    all_goals
      go_ret
      refine ⟨ret_int ?_, rfl⟩
      go_light
      rw [HP.out]
      clear HP c0 k0 l0 c1 k1 l1 c2 k2 l2 c3 k3 l3 w0 h
      simp_all

end Go.Proofs.YtodpkdajbnceoaaGreatDoor

namespace Go.Proofs.YtodpkdajbnceoaaGreatDoor
open Go.RowKit

/-- what a writer's step leaves of the world -/
structure WFr (wb hb : Nat) (sv sv' : Value) (w w' : World) : Prop where
  os : w'.os = w.os
  tape : w'.tape = w.tape
  output : w'.output = w.output
  size : w.heap.size ≤ w'.heap.size
  block : ∀ b, b < w.heap.size → b ≠ hb → b ≠ wb → sv.ownBlock ≠ some b → w'.heap[b]? = w.heap[b]?
  snew : ∀ b, sv'.ownBlock = some b → sv.ownBlock = some b ∨ w.heap.size ≤ b

theorem WFr.refl (wb hb : Nat) (sv : Value) (w : World) : WFr wb hb sv sv w w := ⟨rfl, rfl, rfl, Nat.le_refl _, fun _ _ _ _ _ => rfl, fun _ h => .inl h⟩
theorem WFr.trans {wb hb : Nat} {s0 s1 s2 : Value} {a b c : World} (h : WFr wb hb s0 s1 a b) (k : WFr wb hb s1 s2 b c) : WFr wb hb s0 s2 a c := by
  refine ⟨k.os.trans h.os, k.tape.trans h.tape, k.output.trans h.output, Nat.le_trans h.size k.size, fun x hx h1 h2 h3 => ?_, fun x hx => ?_⟩
  · rw [k.block x (Nat.lt_of_lt_of_le hx h.size) h1 h2 (fun e => (h.snew x e).elim h3 (fun q => by omega))]
    exact h.block x hx h1 h2 h3
  · rcases k.snew x hx with e | e
    · exact h.snew x e
    · exact .inr (Nat.le_trans h.size e)
theorem WFr.of_below {wb hb : Nat} {sv : Value} {w w' : World} (h : Below w.heap.size w w') : WFr wb hb sv sv w w' := ⟨h.os, h.tape, h.output, h.size, fun b hb _ _ _ => h.block b hb, fun _ e => .inl e⟩

section
variable {w : World} {wb hb : Nat} {V : _root_.Fin 6 → Value} {T : List Nd} {avs : List Value} {cost most : Int} {sv : Value} {seen : List Nat}

theorem WIn.wlt (h : WIn w wb hb V T avs cost most sv seen) : wb < w.heap.size := (Array.getElem?_eq_some_iff.1 h.cells).1

theorem WIn.below {w' : World} (h : WIn w wb hb V T avs cost most sv seen) (hB : Below w.heap.size w w') : WIn w' wb hb V T avs cost most sv seen :=
  ⟨h.T.below hB, by rw [hB.block _ h.wlt]; exact h.cells, own_below h.own hB, h.wn, h.sn, h.wa⟩

/-- one more is counted -/
theorem WIn.count (h : WIn w wb hb V T avs cost most sv seen) (c : Int) : WIn (w.setCell ⟨hb, 6, none⟩ (.int .i64 c)) wb hb V T avs c most sv seen ∧ WFr wb hb sv sv w (w.setCell ⟨hb, 6, none⟩ (.int .i64 c)) := by
  have hne : ∀ b, b ≠ hb → (w.setCell ⟨hb, 6, none⟩ (.int .i64 c)).heap[b]? = w.heap[b]? := fun b hb1 => Below.heap_setCell _ _ _ _ hb1
  have hH := (h.T.H.setNum 6 (.int .i64 c) c most 0 rfl).1
  have hwb : wb ≠ hb := fun e => h.wn (.inl e)
  refine ⟨⟨⟨hH, h.T.la, h.T.lt, fun i hi hi' => ?_⟩, by rw [hne wb hwb]; exact h.cells, own_keep h.own (fun b q => hne b (fun e => (h.sn b q).1 (.inl e))), h.wn, h.sn, h.wa⟩, rfl, rfl, rfl, by simp [World.setCell], fun b _ q _ _ => hne b q, fun _ e => .inl e⟩
  have hA := h.T.args i hi hi'
  exact ⟨own_keep hA.1 (fun b q => hne b (fun e => hA.2 b q (.inl e))), hA.2⟩
end

def TextPost (wb hb : Nat) (V : _root_.Fin 6 → Value) (T : List Nd) (avs : List Value) (cost most : Int) (sv : Value) (w : World) (n : Nat) (r : List UInt8 × List Nat) (e : Ending) (w' : World) : Prop :=
  ∃ sv' cost', e = .returned (.string (B r.1)) ∧ WIn w' wb hb V T avs cost' most sv' r.2 ∧ cost ≤ cost' ∧ cost' ≤ cost + n ∧ WFr wb hb sv sv' w w'

theorem B_data (n : ByteArray) : B n.data.toList = n := by cases n; simp [B]

set_option maxRecDepth 100000 in
set_option maxHeartbeats 1000000 in
theorem text_atom {w : World} {wb hb : Nat} {V : _root_.Fin 6 → Value} {T : List Nd} {avs : List Value} {cost most : Int} {sv : Value} {seen : List Nat} {t : Nat} {n : ByteArray} (least : Int)
    (h : WIn w wb hb V T avs cost most sv seen) (hh : T[t]? = some ⟨97, n, 0, []⟩) (hc0 : 0 ≤ cost) (hc : cost + 1 ≤ most) (hmx : most ≤ 2147483648) (hsm : T.length ≤ 100000) :
    Calls Tryz.prog 66 #[.pointer (some ⟨wb, 0, none⟩), .int .i64 t, .int .i64 least] w fun e w' => TextPost wb hb V T avs cost most sv w 1 (n.data.toList, seen) e w' := by
  obtain ⟨ht, hn⟩ := List.getElem?_eq_some_iff.1 hh
  have w0 := h.w0
  have c6 : w.cell? ⟨hb, 6, none⟩ = some (.int .i64 cost) := h.T.H.c 6
  have f6 := h.T.H.fz 6
  have hwz := h.wlt
  have hhz := h.T.H.lt_size
  have hwh : wb ≠ hb := fun e => h.wn (.inl e)
  obtain ⟨h1, hf1⟩ := h.count (cost + 1)
  obtain ⟨g0, p0, g1, p1, g2, p2, g3, p3, a, m, c, c0, k0, l0, c1, k1, l1, c2, k2, l2, c3, k3, l3, ho, em, hmem, n0, n1, n2, n3⟩ := h.T.row t ht
  rw [hn] at k0 k1 k2
  clear ho em hmem k3 k2
  go_enter Tryz.func66, Tryz.ntmps66
  go_wp2_with (first | (go_at_call 88; refine (spent_no h1.T.H hc).mono ?_; rintro e w2 ⟨rfl, nn, rfl⟩; have h2 := h1.below (below_drewN (Below.refl _ _) nn); have hvv := h2.w0) | (go_at_call 98; refine (walk_any h2.T t ht hsm).mono ?_; rintro e w3 ⟨rfl, rfl⟩))
  go_ret
  exact ⟨sv, cost + 1, ret_str (B_data n).symm, h2, by omega, by omega, hf1.trans (WFr.of_below (below_drewN (Below.refl _ _) nn))⟩

set_option maxRecDepth 100000 in
set_option maxHeartbeats 1000000 in
theorem text_num {w : World} {wb hb : Nat} {V : _root_.Fin 6 → Value} {T : List Nd} {avs : List Value} {cost most : Int} {sv : Value} {seen : List Nat} {t : Nat} {v : Int} (least : Int)
    (h : WIn w wb hb V T avs cost most sv seen) (hh : T[t]? = some ⟨110, ByteArray.empty, v, []⟩) (hv1 : -9223372036854775808 < v) (hv2 : v < 9223372036854775808) (hc0 : 0 ≤ cost) (hc : cost + 1 ≤ most) (hmx : most ≤ 2147483648) (hsm : T.length ≤ 100000) :
    Calls Tryz.prog 66 #[.pointer (some ⟨wb, 0, none⟩), .int .i64 t, .int .i64 least] w fun e w' => TextPost wb hb V T avs cost most sv w 1 (decS v, seen) e w' := by
  obtain ⟨ht, hn⟩ := List.getElem?_eq_some_iff.1 hh
  have w0 := h.w0
  have c6 : w.cell? ⟨hb, 6, none⟩ = some (.int .i64 cost) := h.T.H.c 6
  have f6 := h.T.H.fz 6
  have hwz := h.wlt
  have hhz := h.T.H.lt_size
  have hwh : wb ≠ hb := fun e => h.wn (.inl e)
  obtain ⟨h1, hf1⟩ := h.count (cost + 1)
  obtain ⟨g0, p0, g1, p1, g2, p2, g3, p3, a, m, c, c0, k0, l0, c1, k1, l1, c2, k2, l2, c3, k3, l3, ho, em, hmem, n0, n1, n2, n3⟩ := h.T.row t ht
  rw [hn] at k0 k1 k2
  have HD := hide (decimal_any v hv1 hv2)
  clear ho em hmem k3 k1 hv1 hv2
  go_enter Tryz.func66, Tryz.ntmps66
  go_wp2_with (first | (go_at_call 88; refine (spent_no h1.T.H hc).mono ?_; rintro e w2 ⟨rfl, nn, rfl⟩; have h2 := h1.below (below_drewN (Below.refl _ _) nn)) | (go_at_call 98; refine (walk_any h2.T t ht hsm).mono ?_; rintro e w3 ⟨rfl, rfl⟩) | (go_at_call 99; refine (HD.out _).mono ?_; rintro e w4 ⟨rfl, rfl⟩))
  go_ret
  exact ⟨sv, cost + 1, rfl, h2, by omega, by omega, hf1.trans (WFr.of_below (below_drewN (Below.refl _ _) nn))⟩

end Go.Proofs.YtodpkdajbnceoaaGreatDoor
