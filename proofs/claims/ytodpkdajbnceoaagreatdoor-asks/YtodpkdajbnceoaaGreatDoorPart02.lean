import Derived.Test.YtodpkdajbnceoaaGreatDoorPart01
import Derived.BigRegion
import Derived.ArgAppend
set_option linter.all false
set_option maxHeartbeats 400000
set_option maxRecDepth 100000
namespace Go.Proofs.YtodpkdajbnceoaaGreatDoor
open Go.RowKit
inductive Ex where
  | atom (n : ByteArray)
  | num (v : Int)
  | var (k : Nat)
  | cmp (n : ByteArray) (args : List Ex)
abbrev St := Nat × List ByteArray
abbrev R (α : Type) := Except (Int × Nat) (α × St)
def tk (toks : List Tok) (i : Nat) : Tok := toks.getD i ⟨101, ByteArray.empty, 0⟩
def isT (t : Tok) (s : List UInt8) : Bool := (t.k == 115 || t.k == 97) && decide (t.t = B s)
def isAdd (t : Tok) : Bool := t.k == 115 && (decide (t.t = B [43]) || decide (t.t = B [45]))
def isMul (t : Tok) : Bool := (t.k == 115 && (decide (t.t = B [42]) || decide (t.t = B [47, 47]))) || (t.k == 97 && decide (t.t = B [109, 111, 100]))
def opsLoop (toks : List Tok) (part : St → R Ex) (isOp : Tok → Bool) : Nat → Ex → St → R Ex
  | 0, x, st => .ok (x, st)
  | f + 1, x, st =>
    if isOp (tk toks st.1) then
      match part (st.1 + 1, st.2) with
      | .error e => .error e
      | .ok (y, st') => opsLoop toks part isOp f (.cmp (tk toks st.1).t [x, y]) st'
    else .ok (x, st)
def productOf (toks : List Tok) (prim : St → R Ex) (st : St) : R Ex :=
  match prim st with
  | .error e => .error e
  | .ok (x, st') => opsLoop toks prim isMul toks.length x st'
def exprOf (toks : List Tok) (prim : St → R Ex) (st : St) : R Ex :=
  match productOf toks prim st with
  | .error e => .error e
  | .ok (x, st') => opsLoop toks (productOf toks prim) isAdd toks.length x st'
def rowOf (toks : List Tok) (ex : St → R Ex) : Nat → List Ex → St → R (List Ex)
  | 0, acc, st => .ok (acc, st)
  | f + 1, acc, st =>
    match ex st with
    | .error e => .error e
    | .ok (x, st') => if isT (tk toks st'.1) [44] then rowOf toks ex f (acc ++ [x]) (st'.1 + 1, st'.2) else .ok (acc ++ [x], st')
def argsOf (toks : List Tok) (ex : St → R Ex) (a : Nat) (st : St) : R (List Ex) :=
  match rowOf toks ex (toks.length + 1) [] st with
  | .error e => .error e
  | .ok (l, st') => if 4 < l.length then .error (4, a) else .ok (l, st')
def mustT {α : Type} (toks : List Tok) (s : List UInt8) (x : α) (st : St) : R α :=
  if isT (tk toks st.1) s then .ok (x, (st.1 + 1, st.2)) else .error (2, (tk toks st.1).a)
def cellEx (a b : Ex) : Ex := .cmp (B [46]) [a, b]
def nilEx : Ex := .atom (B [91, 93])
def listOf (toks : List Tok) (ex : St → R Ex) (st : St) : R Ex :=
  if isT (tk toks st.1) [93] then .ok (nilEx, (st.1 + 1, st.2))
  else match rowOf toks ex (toks.length + 1) [] st with
    | .error e => .error e
    | .ok (l, st1) =>
      if isT (tk toks st1.1) [124] then
        match ex (st1.1 + 1, st1.2) with
        | .error e => .error e
        | .ok (r, st2) => mustT toks [93] (l.foldr cellEx r) st2
      else mustT toks [93] (l.foldr cellEx nilEx) st1
def findVar (vars : List ByteArray) (t : ByteArray) : Option Nat := if t = B [95] then none else vars.findIdx? (fun v => decide (v = t))
def varOf (t : Tok) (st : St) : R Ex :=
  match findVar st.2 t.t with
  | some k => .ok (.var k, st)
  | none => if st.2.length = 12 then .error (4, t.a) else .ok (.var st.2.length, (st.1, st.2 ++ [t.t]))
def bareOf (toks : List Tok) (ex : St → R Ex) (st : St) : R Ex :=
  let t := tk toks st.1
  if t.k = 110 then .ok (.num (digVal t.t.data.toList), (st.1 + 1, st.2))
  else if t.k = 118 then varOf t (st.1 + 1, st.2)
  else if t.k = 97 then
    if isT (tk toks (st.1 + 1)) [40] then
      match argsOf toks ex t.a (st.1 + 2, st.2) with
      | .error e => .error e
      | .ok (l, st') => mustT toks [41] (.cmp t.t l) st'
    else .ok (.atom t.t, (st.1 + 1, st.2))
  else if isT t [45] then
    if (tk toks (st.1 + 1)).k = 110 then .ok (.num (-(digVal (tk toks (st.1 + 1)).t.data.toList)), (st.1 + 2, st.2))
    else .error (2, (tk toks (st.1 + 1)).a)
  else if isT t [40] then
    match ex (st.1 + 1, st.2) with
    | .error e => .error e
    | .ok (x, st') => mustT toks [41] x st'
  else if isT t [91] then listOf toks ex (st.1 + 1, st.2)
  else .error (2, t.a)
def primS (toks : List Tok) : Nat → St → R Ex
  | 0, st => .error (4, (tk toks st.1).a)
  | k + 1, st => bareOf toks (exprOf toks (primS toks k)) st
def exprS (toks : List Tok) (k : Nat) (st : St) : R Ex := exprOf toks (primS toks k) st
structure PS where
  i : Nat
  vars : List ByteArray
  deep : Int
  err : Int
  at_ : Int
structure GoodToks (toks : List Tok) : Prop where
  pos : 0 < toks.length
  small : toks.length ≤ 2001
  last : (tk toks (toks.length - 1)).k = 101
  other : ∀ i, i + 1 < toks.length → (tk toks i).k ≠ 101
  num : ∀ i, (tk toks i).k = 110 → (tk toks i).t.size ≤ 9 ∧ AllDig (tk toks i).t.data.toList
  place : ∀ i, (tk toks i).a ≤ 2000
structure PIn (w : World) (bp : Nat) (toks : List Tok) (lv vv : Value) (st : PS) : Prop where
  cells : w.heap[bp]? = some (.cells #[lv, .int .i64 st.i, vv, .int .i64 st.deep, .int .i64 st.err, .int .i64 st.at_] 101 (0, 0))
  l : w.ownsRow 0 133 3 lv toks.length (tokCells toks)
  vars : w.ownsRow 0 9 1 vv st.vars.length (st.vars.map Value.string)
  lb : lv.ownBlock ≠ some bp
  vb : vv.ownBlock ≠ some bp
  lvb : vv.ownBlock = none ∨ lv.ownBlock ≠ vv.ownBlock
  lt : st.i < toks.length
  vl : st.vars.length ≤ 13
theorem cell_of_block {w : World} {b : Nat} {cs : Array Value} {T : TypeId} {fz : Nat × Nat} (h : w.heap[b]? = some (.cells cs T fz)) (j : Nat) : w.cell? ⟨b, j, none⟩ = cs[j]? :=
  cell_of_row w b j cs T fz h
theorem PIn.lt_size {w : World} {bp : Nat} {toks : List Tok} {lv vv : Value} {st : PS} (h : PIn w bp toks lv vv st) : bp < w.heap.size := (Array.getElem?_eq_some_iff.1 h.cells).1
section
variable {w : World} {bp : Nat} {toks : List Tok} {lv vv : Value} {st : PS}
theorem PIn.c0 (h : PIn w bp toks lv vv st) : w.cell? ⟨bp, 0, none⟩ = some lv := by rw [cell_of_block h.cells]; rfl
theorem PIn.c1 (h : PIn w bp toks lv vv st) : w.cell? ⟨bp, 1, none⟩ = some (.int .i64 st.i) := by rw [cell_of_block h.cells]; rfl
theorem PIn.c2 (h : PIn w bp toks lv vv st) : w.cell? ⟨bp, 2, none⟩ = some vv := by rw [cell_of_block h.cells]; rfl
theorem PIn.c3 (h : PIn w bp toks lv vv st) : w.cell? ⟨bp, 3, none⟩ = some (.int .i64 st.deep) := by rw [cell_of_block h.cells]; rfl
theorem PIn.c4 (h : PIn w bp toks lv vv st) : w.cell? ⟨bp, 4, none⟩ = some (.int .i64 st.err) := by rw [cell_of_block h.cells]; rfl
theorem PIn.c5 (h : PIn w bp toks lv vv st) : w.cell? ⟨bp, 5, none⟩ = some (.int .i64 st.at_) := by rw [cell_of_block h.cells]; rfl
theorem PIn.fz (h : PIn w bp toks lv vv st) (j : Nat) : w.frozen? ⟨bp, j, none⟩ = false := by simp [World.frozen?, h.cells]
theorem PIn.keep {w' : World} (h : PIn w bp toks lv vv st) (hb : ∀ b, (b = bp ∨ lv.ownBlock = some b ∨ vv.ownBlock = some b) → w'.heap[b]? = w.heap[b]?) : PIn w' bp toks lv vv st := by
  refine ⟨by rw [hb bp (.inl rfl)]; exact h.cells, ⟨h.l.1, ?_⟩, ⟨h.vars.1, ?_⟩, h.lb, h.vb, h.lvb, h.lt, h.vl⟩
  · rcases h.l.2 with hl | ⟨g, cap, cur, rfl, r1, r2, r3⟩
    · exact .inl hl
    · exact .inr ⟨g, cap, cur, rfl, r1, by rw [hb g (.inr (.inl rfl))]; exact r2, r3⟩
  · rcases h.vars.2 with hl | ⟨g, cap, cur, rfl, r1, r2, r3⟩
    · exact .inl hl
    · exact .inr ⟨g, cap, cur, rfl, r1, by rw [hb g (.inr (.inr rfl))]; exact r2, r3⟩
theorem PIn.blt (h : PIn w bp toks lv vv st) : ∀ b, (b = bp ∨ lv.ownBlock = some b ∨ vv.ownBlock = some b) → b < w.heap.size := by
  rintro b (rfl | hb | hb)
  · exact h.lt_size
  · exact (h.l.lt b hb).2
  · exact (h.vars.lt b hb).2
theorem PIn.below {w' : World} (h : PIn w bp toks lv vv st) (hb : Below w.heap.size w w') : PIn w' bp toks lv vv st :=
  h.keep fun b e => hb.block b (h.blt b e)
theorem PIn.alloc (h : PIn w bp toks lv vv st) (o : Obj) : PIn (w.alloc o) bp toks lv vv st := h.below ((Below.refl _ _).alloc (Nat.le_refl _) o)
theorem PIn.drew (h : PIn w bp toks lv vv st) : PIn w.drew bp toks lv vv st := h.below ((Below.refl _ _).drew)
theorem PIn.setOther (h : PIn w bp toks lv vv st) {a : Addr} {u : Value} (h1 : a.block ≠ bp) (h2 : lv.ownBlock ≠ some a.block) (h3 : vv.ownBlock ≠ some a.block) : PIn (w.setCell a u) bp toks lv vv st :=
  h.keep fun b e => Below.heap_setCell _ _ _ _ (fun q => e.elim (fun e => h1 (q ▸ e)) (fun e => e.elim (fun e => h2 (q ▸ e)) (fun e => h3 (q ▸ e))))
theorem heap_setCell_same {w : World} {b j : Nat} {cs : Array Value} {T : TypeId} {fz : Nat × Nat} {u : Value} (h : w.heap[b]? = some (.cells cs T fz)) :
    (w.setCell ⟨b, j, none⟩ u).heap[b]? = some (.cells (cs.setIfInBounds j u) T fz) := by
  have hlt := (Array.getElem?_eq_some_iff.1 h).1
  have hv := (Array.getElem?_eq_some_iff.1 h).2
  simp [World.setCell, Array.getElem?_modify, h]
theorem PIn.setSame (h : PIn w bp toks lv vv st) (j : Nat) (u : Value) (st' : PS) (hv : st'.vars = st.vars) (hi : st'.i < toks.length)
    (hc : (#[lv, .int .i64 st.i, vv, .int .i64 st.deep, .int .i64 st.err, .int .i64 st.at_] : Array Value).setIfInBounds j u = #[lv, .int .i64 st'.i, vv, .int .i64 st'.deep, .int .i64 st'.err, .int .i64 st'.at_]) :
    PIn (w.setCell ⟨bp, j, none⟩ u) bp toks lv vv st' := by
  have hne : ∀ b, b ≠ bp → (w.setCell ⟨bp, j, none⟩ u).heap[b]? = w.heap[b]? := fun b hb => Below.heap_setCell _ _ _ _ hb
  refine ⟨by rw [heap_setCell_same h.cells, hc], ⟨h.l.1, ?_⟩, ?_, h.lb, h.vb, h.lvb, hi, by rw [hv]; exact h.vl⟩
  · rcases h.l.2 with hl | ⟨g, cap, cur, rfl, r1, r2, r3⟩
    · exact .inl hl
    · exact .inr ⟨g, cap, cur, rfl, r1, by rw [hne g (fun e => h.lb (by rw [e]; rfl))]; exact r2, r3⟩
  · rw [hv]
    refine ⟨h.vars.1, ?_⟩
    rcases h.vars.2 with hl | ⟨g, cap, cur, rfl, r1, r2, r3⟩
    · exact .inl hl
    · exact .inr ⟨g, cap, cur, rfl, r1, by rw [hne g (fun e => h.vb (by rw [e]; rfl))]; exact r2, r3⟩
theorem PIn.setI (h : PIn w bp toks lv vv st) (n : Nat) (hn : n < toks.length) : PIn (w.setCell ⟨bp, 1, none⟩ (.int .i64 n)) bp toks lv vv { st with i := n } :=
  h.setSame 1 _ _ rfl hn rfl
theorem PIn.setDeep (h : PIn w bp toks lv vv st) (n : Int) : PIn (w.setCell ⟨bp, 3, none⟩ (.int .i64 n)) bp toks lv vv { st with deep := n } :=
  h.setSame 3 _ _ rfl h.lt rfl
theorem PIn.setErr (h : PIn w bp toks lv vv st) (n : Int) : PIn (w.setCell ⟨bp, 4, none⟩ (.int .i64 n)) bp toks lv vv { st with err := n } :=
  h.setSame 4 _ _ rfl h.lt rfl
theorem PIn.setAt (h : PIn w bp toks lv vv st) (n : Int) : PIn (w.setCell ⟨bp, 5, none⟩ (.int .i64 n)) bp toks lv vv { st with at_ := n } :=
  h.setSame 5 _ _ rfl h.lt rfl
end
structure Fr (bp : Nat) (vv vv' : Value) (w w' : World) : Prop where
  os : w'.os = w.os
  tape : w'.tape = w.tape
  output : w'.output = w.output
  size : w.heap.size ≤ w'.heap.size
  block : ∀ b, b < w.heap.size → b ≠ bp → vv.ownBlock ≠ some b → w'.heap[b]? = w.heap[b]?
  vnew : ∀ b, vv'.ownBlock = some b → vv.ownBlock = some b ∨ w.heap.size ≤ b
theorem Fr.refl (bp : Nat) (vv : Value) (w : World) : Fr bp vv vv w w := ⟨rfl, rfl, rfl, Nat.le_refl _, fun _ _ _ _ => rfl, fun _ h => .inl h⟩
theorem Fr.trans {bp : Nat} {v0 v1 v2 : Value} {a b c : World} (h : Fr bp v0 v1 a b) (k : Fr bp v1 v2 b c) : Fr bp v0 v2 a c := by
  refine ⟨k.os.trans h.os, k.tape.trans h.tape, k.output.trans h.output, Nat.le_trans h.size k.size, fun x hx h1 h2 => ?_, fun x hx => ?_⟩
  · rw [k.block x (Nat.lt_of_lt_of_le hx h.size) h1 (fun e => (h.vnew x e).elim h2 (fun e => by omega))]
    exact h.block x hx h1 h2
  · rcases k.vnew x hx with e | e
    · exact h.vnew x e
    · exact .inr (Nat.le_trans h.size e)
theorem Fr.of_below {bp : Nat} {vv : Value} {w w' : World} (h : Below w.heap.size w w') : Fr bp vv vv w w' :=
  ⟨h.os, h.tape, h.output, h.size, fun b hb _ _ => h.block b hb, fun _ e => .inl e⟩
theorem Fr.alloc {bp : Nat} {v0 v1 : Value} {a b : World} (h : Fr bp v0 v1 a b) (o : Obj) : Fr bp v0 v1 a (b.alloc o) :=
  h.trans (Fr.of_below ((Below.refl _ _).alloc (Nat.le_refl _) o))
theorem Fr.drew {bp : Nat} {v0 v1 : Value} {a b : World} (h : Fr bp v0 v1 a b) : Fr bp v0 v1 a b.drew :=
  h.trans (Fr.of_below ((Below.refl _ _).drew))
theorem Fr.setBp {bp : Nat} {v0 v1 : Value} {a b : World} (h : Fr bp v0 v1 a b) (j : Nat) (u : Value) : Fr bp v0 v1 a (b.setCell ⟨bp, j, none⟩ u) :=
  h.trans ⟨rfl, rfl, rfl, by simp [World.setCell], fun x _ h1 _ => Below.heap_setCell _ _ _ _ h1, fun _ e => .inl e⟩
theorem Fr.setNew {bp : Nat} {v0 v1 : Value} {a b : World} (h : Fr bp v0 v1 a b) {p : Addr} (hp : a.heap.size ≤ p.block) (u : Value) : Fr bp v0 v1 a (b.setCell p u) :=
  ⟨h.os, h.tape, h.output, by have := h.size; simpa [World.setCell] using this, fun x hx h1 h2 => by
    rw [Below.heap_setCell _ _ _ _ (by omega)]; exact h.block x hx h1 h2, h.vnew⟩
theorem Fr.cell {bp : Nat} {v0 v1 : Value} {a b : World} (h : Fr bp v0 v1 a b) {p : Addr} {u : Value} (hc : a.cell? p = some u) (h1 : p.block ≠ bp) (h2 : v0.ownBlock ≠ some p.block) : b.cell? p = some u :=
  (World.cell?_of_block (h.block p.block (World.block_lt_of_cell? a p hc) h1 h2)).trans hc
mutual
inductive ERep (w : World) (Ok : Nat → Prop) : Ex → List Value → Prop
  | atom (n : ByteArray) : ERep w Ok (.atom n) [.int .u8 97, .string n, .int .i64 0, .int .i64 0, .slice none 0 0]
  | num (v : Int) : ERep w Ok (.num v) [.int .u8 110, .string ByteArray.empty, .int .i64 v, .int .i64 0, .slice none 0 0]
  | var (k : Nat) : ERep w Ok (.var k) [.int .u8 118, .string ByteArray.empty, .int .i64 0, .int .i64 k, .slice none 0 0]
  | cmp (n : ByteArray) (args : List Ex) (g cap : Nat) (cur : Array Value) (cs : List Value) (ho : Ok g) (hg : w.heap[g]? = some (.cells cur 125 (0, 0)))
      (hc : args.length ≤ cap) (hm : cap ≤ maxLen) (hs : cur.size = cap * 5) (ht : cur.toList.take (args.length * 5) = cs) (hr : ERepL w Ok args cs) :
      ERep w Ok (.cmp n args) [.int .u8 99, .string n, .int .i64 0, .int .i64 0, .slice (some ⟨g, 0, none⟩) args.length cap]
inductive ERepL (w : World) (Ok : Nat → Prop) : List Ex → List Value → Prop
  | nil : ERepL w Ok [] []
  | cons (x : Ex) (l : List Ex) (a b : List Value) : ERep w Ok x a → ERepL w Ok l b → ERepL w Ok (x :: l) (a ++ b)
end
theorem ERep.len {w : World} {Ok : Nat → Prop} {x : Ex} {cs : List Value} (h : ERep w Ok x cs) : cs.length = 5 := by cases h <;> rfl
mutual
theorem ERep.frame {w w' : World} {Ok Ok' : Nat → Prop} (hf : ∀ b, Ok b → b < w.heap.size → w'.heap[b]? = w.heap[b]? ∧ Ok' b) : ∀ {x : Ex} {cs : List Value}, ERep w Ok x cs → ERep w' Ok' x cs
  | _, _, .atom n => .atom n
  | _, _, .num v => .num v
  | _, _, .var k => .var k
  | _, _, .cmp n args g cap cur cs ho hg hc hm hs ht hr =>
    have h := hf g ho (Array.getElem?_eq_some_iff.1 hg).1
    .cmp n args g cap cur cs h.2 (h.1.trans hg) hc hm hs ht (ERepL.frame hf hr)
theorem ERepL.frame {w w' : World} {Ok Ok' : Nat → Prop} (hf : ∀ b, Ok b → b < w.heap.size → w'.heap[b]? = w.heap[b]? ∧ Ok' b) : ∀ {l : List Ex} {cs : List Value}, ERepL w Ok l cs → ERepL w' Ok' l cs
  | _, _, .nil => .nil
  | _, _, .cons x l a b hx hl => .cons x l a b (ERep.frame hf hx) (ERepL.frame hf hl)
end
theorem ERepL.snoc {w : World} {Ok : Nat → Prop} : ∀ {l : List Ex} {cs : List Value} {x : Ex} {a : List Value}, ERepL w Ok l cs → ERep w Ok x a → ERepL w Ok (l ++ [x]) (cs ++ a)
  | _, _, x, a, .nil, h => by simpa using ERepL.cons x [] a [] h .nil
  | _, _, x, a, .cons y l c d hy hl, h => by
    have := ERepL.cons y (l ++ [x]) c (d ++ a) hy (ERepL.snoc hl h)
    simpa using this
theorem tokCells_get (toks : List Tok) (i : Nat) (h : i < toks.length) :
    (tokCells toks)[i * 3]? = some (.int .u8 (tk toks i).k) ∧ (tokCells toks)[i * 3 + 1]? = some (.string (tk toks i).t) ∧ (tokCells toks)[i * 3 + 2]? = some (.int .i64 (tk toks i).a) := by
  induction toks generalizing i with
  | nil => simp at h
  | cons a l ih =>
    cases i with
    | zero => simp [tokCells, tk]
    | succ i =>
      have := ih i (by simpa using h)
      have e1 : (i + 1) * 3 = (i * 3) + 3 := by omega
      have e2 : ∀ j, (tokCells (a :: l))[j + 3]? = (tokCells l)[j]? := fun j => by simp [tokCells, List.flatMap_cons]
      rw [e1, show i * 3 + 3 + 1 = (i * 3 + 1) + 3 by omega, show i * 3 + 3 + 2 = (i * 3 + 2) + 3 by omega, e2, e2, e2]
      simpa [tk] using this
theorem rowCell {w : World} {g n : Nat} {cur : Array Value} {T : TypeId} {fz : Nat × Nat} {xs : List Value} {j : Nat} {u : Value} (hg : w.heap[g]? = some (.cells cur T fz)) (ht : cur.toList.take n = xs) (hx : xs[j]? = some u) : w.cell? ⟨g, j, none⟩ = some u := by
  rw [cell_of_row w g j cur T fz hg]
  rw [← ht, List.getElem?_take] at hx
  split at hx
  · simpa using hx
  · cases hx
theorem next_any {w : World} {bp : Nat} {toks : List Tok} {lv vv : Value} {st : PS} (h : PIn w bp toks lv vv st) (hg : GoodToks toks) :
    Calls Tryz.prog 67 #[.pointer (some ⟨bp, 0, none⟩)] w fun e w' =>
      e = .returned (tokV (tk toks st.i).k (tk toks st.i).t (tk toks st.i).a) ∧ Below w.heap.size w w' := by
  have hc0 := h.c0
  have hc1 := h.c1
  have hlt := h.lt
  have hsm := hg.small
  have hbs := h.lt_size
  rcases h.l.2 with ⟨_, h0⟩ | ⟨g, cap, cur, rfl, _, hgg, hcap, hmx, hsz, htk⟩
  · have := hg.pos; omega
  obtain ⟨t1, t2, t3⟩ := tokCells_get toks st.i hlt
  have hgs : g < w.heap.size := (Array.getElem?_eq_some_iff.1 hgg).1
  have k1 : w.cell? ⟨g, st.i * 3, none⟩ = some (.int .u8 (tk toks st.i).k) := rowCell hgg htk t1
  have k2 : w.cell? ⟨g, st.i * 3 + 1, none⟩ = some (.string (tk toks st.i).t) := rowCell hgg htk t2
  have k3 : w.cell? ⟨g, st.i * 3 + 2, none⟩ = some (.int .i64 (tk toks st.i).a) := rowCell hgg htk t3
  clear h htk hgg t1 t2 t3
  go_enter Tryz.func67, Tryz.ntmps67
  go_wp2
  go_region
  all_goals go_wp2
  exact bodyPost_ret (v := tokV (tk toks st.i).k (tk toks st.i).t (tk toks st.i).a) (by simp [results, Tryz.results67, go_sem, tokV]) rfl ⟨rfl, ((Below.refl _ _).alloc (Nat.le_refl _) _).drew⟩
def PS.fault (st : PS) (e a : Int) : PS := if st.err = 0 then { st with err := e, at_ := a } else st
theorem PS.fault_vars (st : PS) (e a : Int) : (st.fault e a).vars = st.vars := by unfold PS.fault; split <;> rfl
theorem PS.fault_deep (st : PS) (e a : Int) : (st.fault e a).deep = st.deep := by unfold PS.fault; split <;> rfl
theorem fault_any {w : World} {bp : Nat} {toks : List Tok} {lv vv : Value} {st : PS} (h : PIn w bp toks lv vv st) (e_ a_ : Int) :
    Calls Tryz.prog 68 #[.pointer (some ⟨bp, 0, none⟩), .int .i64 e_, .int .i64 a_] w fun e w' =>
      e = .returned (.tuple #[]) ∧ PIn w' bp toks lv vv (st.fault e_ a_) ∧ Fr bp vv vv w w' := by
  have hc4 := h.c4
  have hc5 := h.c5
  have f4 := h.fz 4
  have f5 := h.fz 5
  have hbs := h.lt_size
  by_cases h0 : st.err = 0
  · have hb0 : (st.err == 0) = true := by simpa using h0
    have HF : Hid (st.fault e_ a_ = { st with err := e_, at_ := a_ }) := by unfold Hid PS.fault; rw [if_pos h0]
    clear h0
    go_enter Tryz.func68, Tryz.ntmps68
    go_wp2
    go_end0
    refine ⟨rfl, ?_, ((Fr.refl _ _ _).setBp _ _).setBp _ _⟩
    rw [HF.out]
    exact (h.setErr e_).setAt a_
  · have hb0 : (st.err == 0) = false := by simpa using h0
    have HF : Hid (st.fault e_ a_ = st) := by unfold Hid PS.fault; rw [if_neg h0]
    clear h0
    go_enter Tryz.func68, Tryz.ntmps68
    go_wp2
    go_end0
    refine ⟨rfl, ?_, Fr.refl _ _ _⟩
    rw [HF.out]; exact h
theorem none_any {w : World} {bp : Nat} {toks : List Tok} {lv vv : Value} {st : PS} (h : PIn w bp toks lv vv st) (hg : GoodToks toks) :
    Calls Tryz.prog 83 #[.pointer (some ⟨bp, 0, none⟩)] w fun e w' =>
      e = .returned (.tuple #[]) ∧ PIn w' bp toks lv vv (st.fault 2 (tk toks st.i).a) ∧ Fr bp vv vv w w' := by
  go_enter Tryz.func83, Tryz.ntmps83
  go_wp2_with (first | (go_at_call 67; refine (next_any h hg).mono ?_; rintro e w1 ⟨rfl, hb⟩; unfold tokV) | (go_at_call 68; refine (fault_any ((h.below hb).alloc _) _ _).mono ?_; rintro e w2 ⟨rfl, hp, hfr⟩))
  go_end0
  exact ⟨rfl, hp, ((Fr.of_below hb).alloc _).trans hfr⟩
def PS.pass (st : PS) : PS := { st with i := st.i + 1 }
theorem isT_not_end {t : Tok} {s : List UInt8} (h : isT t s = true) : t.k ≠ 101 := by
  intro e; simp [isT, e] at h
theorem GoodToks.next {toks : List Tok} (hg : GoodToks toks) {i : Nat} (hi : i < toks.length) (h : (tk toks i).k ≠ 101) : i + 1 < toks.length := by
  rcases Nat.lt_or_ge (i + 1) toks.length with h1 | h1
  · exact h1
  · exfalso; apply h
    have : i = toks.length - 1 := by omega
    rw [this]; exact hg.last
def isB (st : PS) (t : Tok) (s : ByteArray) : Bool := st.err == 0 && ((t.k == 115 || t.k == 97) && decide (t.t = s))
theorem isB_t {st : PS} {t : Tok} {s : ByteArray} (h1 : st.err = 0) (h2 : t.k = 115 ∨ t.k = 97) (h3 : (!t.t.toList == s.toList) = false) : isB st t s = true := by
  have : t.t = s := BA_ext (by simpa using h3)
  simp [isB, h1, h2, this]
theorem isB_f3 {st : PS} {t : Tok} {s : ByteArray} (h3 : (!t.t.toList == s.toList) = true) : isB st t s = false := by
  have : ¬ t.t = s := by rintro rfl; simp at h3
  simp [isB, this]
theorem isB_f2 {st : PS} {t : Tok} {s : ByteArray} (h1 : ¬ t.k = 115) (h2 : ¬ t.k = 97) : isB st t s = false := by simp [isB, h1, h2]
theorem isB_f1 {st : PS} {t : Tok} {s : ByteArray} (h1 : ¬ st.err = 0) : isB st t s = false := by simp [isB, h1]
theorem PIn.pass {w : World} {bp : Nat} {toks : List Tok} {lv vv : Value} {st : PS} (h : PIn w bp toks lv vv st) (hn : st.i + 1 < toks.length) : PIn (w.setCell ⟨bp, 1, none⟩ (.int .i64 ((st.i : Int) + 1))) bp toks lv vv st.pass :=
  h.setI (st.i + 1) hn
theorem is_any {w : World} {bp : Nat} {toks : List Tok} {lv vv : Value} {st : PS} (h : PIn w bp toks lv vv st) (hg : GoodToks toks) (s : ByteArray) :
    Calls Tryz.prog 81 #[.pointer (some ⟨bp, 0, none⟩), .string s] w fun e w' =>
      ∃ b, e = .returned (.bool b) ∧ b = isB st (tk toks st.i) s ∧ PIn w' bp toks lv vv (if b then st.pass else st) ∧ Fr bp vv vv w w' := by
  obtain ⟨t, ht⟩ : ∃ t, t = tk toks st.i := ⟨_, rfl⟩
  have hlt := h.lt
  have hsm := hg.small
  have hnx : t.k ≠ 101 → st.i + 1 < toks.length := by rw [ht]; exact hg.next hlt
  have hN := next_any h hg
  rw [← ht] at hN ⊢
  clear ht
  have HN := hide hN
  clear hN
  have hc4 := h.c4
  have hc1 := h.c1
  go_enter Tryz.func81, Tryz.ntmps81
  go_wp2_with (go_at_call 67; refine HN.out.mono ?_; rintro e w1 ⟨rfl, hb⟩; unfold tokV; have h1 := h.below hb; have d4 := h1.c4; have d1 := h1.c1; have g1 := h1.fz 1; have hz1 := h1.lt_size)
  all_goals
    go_ret
    first
    | exact ⟨true, rfl, (isB_t ‹_› (.inl ‹_›) ‹_›).symm, (h1.pass (hnx (by omega))).alloc _, ((Fr.of_below hb).setBp _ _).alloc _⟩
    | exact ⟨true, rfl, (isB_t ‹_› (.inr ‹_›) ‹_›).symm, (h1.pass (hnx (by omega))).alloc _, ((Fr.of_below hb).setBp _ _).alloc _⟩
    | exact ⟨false, rfl, (isB_f3 ‹_›).symm, h1.alloc _, (Fr.of_below hb).alloc _⟩
    | exact ⟨false, rfl, (isB_f2 ‹_› ‹_›).symm, h1.alloc _, (Fr.of_below hb).alloc _⟩
    | exact ⟨false, rfl, (isB_f1 ‹_›).symm, h1.alloc _, (Fr.of_below hb).alloc _⟩
theorem must_any {w : World} {bp : Nat} {toks : List Tok} {lv vv : Value} {st : PS} (h : PIn w bp toks lv vv st) (hg : GoodToks toks) (s : ByteArray) :
    Calls Tryz.prog 52 #[.pointer (some ⟨bp, 0, none⟩), .string s] w fun e w' =>
      e = .returned (.tuple #[]) ∧ PIn w' bp toks lv vv (if isB st (tk toks st.i) s then st.pass else st.fault 2 (tk toks st.i).a) ∧ Fr bp vv vv w w' := by
  have HI := hide (is_any h hg s)
  obtain ⟨bb, hbb⟩ : ∃ b, b = isB st (tk toks st.i) s := ⟨_, rfl⟩
  rw [← hbb] at HI ⊢
  clear hbb
  cases bb
  · go_enter Tryz.func52, Tryz.ntmps52
    go_wp2_with (first | (go_at_call 81; refine HI.out.mono ?_; rintro e w1 ⟨b, rfl, rfl, hp, hfr⟩) | (go_at_call 83; refine (none_any hp hg).mono ?_; rintro e w2 ⟨rfl, hp2, hfr2⟩))
    go_end0
    exact ⟨rfl, hp2, hfr.trans hfr2⟩
  · go_enter Tryz.func52, Tryz.ntmps52
    go_wp2_with (first | (go_at_call 81; refine HI.out.mono ?_; rintro e w1 ⟨b, rfl, rfl, hp, hfr⟩))
    go_end0
    exact ⟨rfl, hp, hfr⟩
def PS.down (st : PS) (a : Int) : PS := if st.deep + 1 ≤ 8 then { st with deep := st.deep + 1 } else { st with deep := st.deep + 1 }.fault 4 a
theorem enter_any {w : World} {bp : Nat} {toks : List Tok} {lv vv : Value} {st : PS} (h : PIn w bp toks lv vv st) (hg : GoodToks toks) (hd : 0 ≤ st.deep ∧ st.deep ≤ 8) :
    Calls Tryz.prog 129 #[.pointer (some ⟨bp, 0, none⟩)] w fun e w' =>
      e = .returned (.bool ((st.down (tk toks st.i).a).err == 0)) ∧ PIn w' bp toks lv vv (st.down (tk toks st.i).a) ∧ Fr bp vv vv w w' := by
  obtain ⟨hd0, hd1⟩ := hd
  have hc3 := h.c3
  have f3 := h.fz 3
  have h1 := h.setDeep (st.deep + 1)
  have hN := next_any h1 hg
  obtain ⟨t, ht⟩ : ∃ t, t = tk toks st.i := ⟨_, rfl⟩
  have ht' : tk toks ({ st with deep := st.deep + 1 } : PS).i = t := ht.symm
  rw [ht'] at hN
  rw [← ht]
  clear ht ht'
  have HN := hide hN
  clear hN
  have hz := h.lt_size
  by_cases hdd : st.deep + 1 ≤ 8
  · have HD : Hid (st.down t.a = { st with deep := st.deep + 1 }) := by unfold Hid PS.down; rw [if_pos hdd]
    rw [HD.out]
    go_enter Tryz.func129, Tryz.ntmps129
    go_wp2_with (first | (go_at_call 67; refine HN.out.mono ?_; rintro e w1 ⟨rfl, hb⟩; unfold tokV; have h2 := h1.below hb; have d3 := h2.c3; have d4 := h2.c4; have hz2 := h2.lt_size))
    go_ret
    exact ⟨rfl, h2.alloc _, (((Fr.refl _ _ _).setBp _ _).trans (Fr.of_below hb)).alloc _⟩
  · have HD : Hid (st.down t.a = ({ st with deep := st.deep + 1 } : PS).fault 4 t.a) := by unfold Hid PS.down; rw [if_neg hdd]
    rw [HD.out]
    go_enter Tryz.func129, Tryz.ntmps129
    go_wp2_with (first | (go_at_call 67; refine HN.out.mono ?_; rintro e w1 ⟨rfl, hb⟩; unfold tokV; have h2 := h1.below hb; have d3 := h2.c3; have hz2 := h2.lt_size) | (go_at_call 68; refine (fault_any (h2.alloc _) _ _).mono ?_; rintro e w2 ⟨rfl, hp2, hfr2⟩; have d4 := hp2.c4))
    go_ret
    exact ⟨rfl, hp2, ((((Fr.refl _ _ _).setBp _ _).trans (Fr.of_below hb)).alloc _).trans hfr2⟩
theorem run_append_own2 {P : Program} (w : World) (base : Nat) (t ty e : TypeId) (i : TypeInfo) (z : Value) (size bytes : Nat) (ht : P.underlying t = some (.slice e)) (hi : P.info? e = some i) (hz : i.zero = some z)
    (hsize : i.size = size) (hby : i.bytes = bytes) (hzs : z.cells.size = size) (hsz : 0 < size)
    (v : Value) (n : Nat) (xs : List Value) (hown : w.ownsRow base e size v n xs)
    (a : Addr) (m c : Nat) (news : List Value) (hl : news.length = m * size) (hnews : ∀ j u, news[j]? = some u → w.cell? (a.add j) = some u) (h1 : ∀ u ∈ news, u.oneCell' = true)
    (h63 : n + m ≤ maxLen) (hbytes : (n + m) * bytes ≤ 140737488355328) (hbase : base ≤ w.heap.size) :
    ∃ v' w', (Builtin.append_ #[t, t] ty #[v, .slice (some a) m c]).run P w = .ok v' w' ∧ w'.ownsRow base e size v' (n + m) (xs ++ news) ∧ w.grownBy w' v.ownBlock ∧
      ∀ b, v'.ownBlock = some b → v.ownBlock = some b ∨ w.heap.size ≤ b := by
  obtain ⟨v', w', hr, ho, hg, _⟩ := run_append_own (P := P) w base t ty e i z size bytes ht hi hz hsize hby hzs hsz v n xs hown a m c news hl hnews h1 h63 hbytes hbase
  refine ⟨v', w', hr, ho, hg, ?_⟩
  rcases hown.2 with ⟨rfl, rfl⟩ | ⟨g, cap, cur, rfl, hbg, hgg, hnc, hcm, hcs, htake⟩
  · have hx : xs = [] := List.eq_nil_of_length_eq_zero (by simpa using hown.1)
    subst hx
    obtain ⟨v2, w2, hr2, ho2, _, _⟩ := run_append_own (P := P) w w.heap.size t ty e i z size bytes ht hi hz hsize hby hzs hsz (.slice none 0 0) 0 [] (World.ownsRow_nil w _ e size) a m c news hl hnews h1 h63 hbytes (Nat.le_refl _)
    rw [hr] at hr2
    cases hr2
    exact fun b hb => .inr (ho2.lt b hb).1
  · by_cases hroom : n + m ≤ cap
    · subst hsize
      have hfit : n * i.size + news.length ≤ cur.size := by rw [hl, hcs, ← Nat.add_mul]; exact Nat.mul_le_mul_right _ hroom
      have hr2 := run_append_room (P := P) w t ty e i ht hi g n cap cur hgg a m c news hl hnews h1 hroom hfit
      rw [hr] at hr2
      cases hr2
      exact fun b hb => .inl hb
    · obtain ⟨v2, w2, hr2, ho2, _⟩ := run_append_arg_grows (P := P) w t ty e i z size bytes ht hi hz hsize hby hzs hsz ⟨g, 0, none⟩ n cap xs hown.1 (hown.cells rfl) a m c news hl hnews (by omega) h63 hbytes
      rw [hr] at hr2
      cases hr2
      exact fun b hb => .inr (ho2.lt b hb).1
theorem wp_append_own2 {P : Program} {w : World} {o : Oper} {a : Act} {K : Act → World → Prop} {Q : Exit → Act → World → Prop} (s x : Operand) (t : TypeId)
    (ho : o.op = .call { callee := .builtin .append, args := #[s, x], argTypes := #[t, t] })
    (base : Nat) (e : TypeId) (i : TypeInfo) (z : Value) (size bytes : Nat) (ht : P.underlying t = some (.slice e)) (hi : P.info? e = some i) (hz : i.zero = some z)
    (hsize : i.size = size) (hby : i.bytes = bytes) (hzs : z.cells.size = size) (hsz : 0 < size)
    (v : Value) (n : Nat) (xs : List Value) (hs : a.eval s = v) (hown : w.ownsRow base e size v n xs)
    (ad : Addr) (m c : Nat) (news : List Value) (hx : a.eval x = .slice (some ad) m c) (hl : news.length = m * size) (hnews : ∀ j u, news[j]? = some u → w.cell? (ad.add j) = some u) (h1 : ∀ u ∈ news, u.oneCell' = true)
    (h63 : n + m ≤ maxLen) (hbytes : (n + m) * bytes ≤ 140737488355328) (hbase : base ≤ w.heap.size)
    (h : ∀ v' w', w'.ownsRow base e size v' (n + m) (xs ++ news) → w.grownBy w' v.ownBlock → (∀ b, v'.ownBlock = some b → v.ownBlock = some b ∨ w.heap.size ≤ b) → K (a.put o.dst v') w') : o.wp P a w K Q := by
  obtain ⟨v', w', hr, h2, h3, h4⟩ := run_append_own2 (P := P) w base t o.type e i z size bytes ht hi hz hsize hby hzs hsz v n xs hown ad m c news hl hnews h1 h63 hbytes hbase
  unfold Oper.wp execOp
  simp only [ho, resolve, invoke, builtin, Sem.run_bind, Sem.run_pure, Result.andThen_ok, List.map_toArray, List.map_cons, List.map_nil, hs, hx, hr]
  exact h v' w' h2 h3 h4
theorem wpList_append_own2 {P : Program} {w : World} {ops : Array Oper} {rest : List Oper} {o : Oper} {a : Act} {Q : Exit → Act → World → Prop} (hgd : o.guard = none) (s x : Operand) (t : TypeId)
    (ho : o.op = .call { callee := .builtin .append, args := #[s, x], argTypes := #[t, t] })
    (base : Nat) (e : TypeId) (i : TypeInfo) (z : Value) (size bytes : Nat) (ht : P.underlying t = some (.slice e)) (hi : P.info? e = some i) (hz : i.zero = some z)
    (hsize : i.size = size) (hby : i.bytes = bytes) (hzs : z.cells.size = size) (hsz : 0 < size)
    (v : Value) (n : Nat) (xs : List Value) (hs : a.eval s = v) (hown : w.ownsRow base e size v n xs)
    (ad : Addr) (m c : Nat) (news : List Value) (hx : a.eval x = .slice (some ad) m c) (hl : news.length = m * size) (hnews : ∀ j u, news[j]? = some u → w.cell? (ad.add j) = some u) (h1 : ∀ u ∈ news, u.oneCell' = true)
    (h63 : n + m ≤ maxLen) (hbytes : (n + m) * bytes ≤ 140737488355328) (hbase : base ≤ w.heap.size)
    (h : ∀ v' w', w'.ownsRow base e size v' (n + m) (xs ++ news) → w.grownBy w' v.ownBlock → (∀ b, v'.ownBlock = some b → v.ownBlock = some b ∨ w.heap.size ≤ b) → wpList P ops Q rest (a.put o.dst v') w') : wpList P ops Q (o :: rest) a w :=
  wpList_plain hgd fun _ hK => wp_append_own2 s x t ho base e i z size bytes ht hi hz hsize hby hzs hsz v n xs hs hown ad m c news hx hl hnews h1 h63 hbytes hbase fun v' w' h2 h3 h4 => hK _ _ (h v' w' h2 h3 h4)
theorem step_append_own2 {P : Program} {ops : Array Oper} {o : Oper} {a : Act} {w : World} {K : Act → World → Prop} {Q : Exit → Act → World → Prop} {E : Prop}
    (hg : o.guard = none) (s x : Operand) (t : TypeId) (hop : o.op = Op.call { callee := Callee.builtin Builtin.append, args := #[s, x], argTypes := #[t, t] })
    (base : Nat) (e : TypeId) (i : TypeInfo) (z : Value) (size bytes : Nat) (h1 : P.underlying t = some (.slice e)) (h2 : P.info? e = some i) (h3 : i.zero = some z) (h4 : i.size = size) (h5 : i.bytes = bytes) (h6 : z.cells.size = size) (h7 : 0 < size)
    (v : Value) (n : Nat) (xs : List Value) (hs : a.eval s = v) (hown : w.ownsRow base e size v n xs)
    (ad : Addr) (m c : Nat) (news : List Value) (hx : a.eval x = .slice (some ad) m c) (hn : news.length = m * size) (hc : ∀ j u, news[j]? = some u → w.cell? (ad.add j) = some u) (h1c : ∀ u ∈ news, u.oneCell' = true)
    (b1 : n + m ≤ maxLen) (b2 : (n + m) * bytes ≤ 140737488355328) (hbase : base ≤ w.heap.size)
    (hK : ∀ v' w', w'.ownsRow base e size v' (n + m) (xs ++ news) → w.grownBy w' v.ownBlock → (∀ b, v'.ownBlock = some b → v.ownBlock = some b ∨ w.heap.size ≤ b) → K (a.put o.dst v') w') :
    if Region.wanted o (yielded ops a.tmps) = true then Oper.wp P o a w K Q else E := by
  have hw : Region.wanted o (yielded ops a.tmps) = true := by simp [Region.wanted, hg]
  rw [if_pos hw]
  exact wp_append_own2 s x t hop base e i z size bytes h1 h2 h3 h4 h5 h6 h7 v n xs hs hown ad m c news hx hn hc h1c b1 b2 hbase hK
end Go.Proofs.YtodpkdajbnceoaaGreatDoor
