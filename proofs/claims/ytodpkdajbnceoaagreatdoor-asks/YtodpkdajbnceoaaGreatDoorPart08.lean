import Derived.Test.YtodpkdajbnceoaaGreatDoorPart05
set_option linter.all false
set_option maxHeartbeats 1000000
set_option maxRecDepth 100000
namespace Go.Proofs.YtodpkdajbnceoaaGreatDoor
open Go.RowKit
inductive Bd where
  | mk (k : Int) (n : ByteArray) (args : List Ex) (parts : List Bd)
structure Cl where
  name : ByteArray
  args : List Ex
  body : Bd
  vars : List ByteArray
def testsL (l : List UInt8) : Int :=
  if l == [116, 114, 117, 101] || l == [102, 97, 105, 108] then 0
  else if l == [118, 97, 114] || l == [110, 111, 110, 118, 97, 114] || l == [97, 116, 111, 109] || l == [105, 110, 116, 101, 103, 101, 114] then 1
  else if l == [61] || l == [92, 61] || l == [61, 61] || l == [105, 115] || l == [60] || l == [62] || l == [61, 60] || l == [62, 61] || l == [61, 58, 61] then 2
  else -1
def testsN (n : ByteArray) : Int := testsL n.toList
def exName : Ex → ByteArray
  | .atom n => n
  | .cmp n _ => n
  | _ => ByteArray.empty
def exArgs : Ex → List Ex
  | .cmp _ l => l
  | _ => []
def opEx : Ex → Bool
  | .cmp n l => n.toList == [43] || n.toList == [45] || n.toList == [42] || n.toList == [47, 47] || (n.toList == [109, 111, 100] && l.length == 2)
  | _ => false
def badEx : Ex → Bool
  | .num _ => true
  | .var _ => true
  | x => opEx x || (exName x).toList == [46] || (exName x).toList == [91, 93]
def callOf (a : Nat) (x : Ex) (st : St) : R Bd :=
  if badEx x then .error (2, a)
  else if 0 ≤ testsN (exName x) ∧ testsN (exName x) ≠ (exArgs x).length then .error (3, a)
  else .ok (.mk 103 (exName x) (exArgs x) [], st)
def twoT (t : Tok) : Bool := testsN t.t == 2 && (t.k == 115 || t.k == 97)
def plainOf (toks : List Tok) (ex : St → R Ex) (st : St) : R Bd :=
  match ex st with
  | .error e => .error e
  | .ok (x, s1) =>
    if twoT (tk toks s1.1) then
      match ex (s1.1 + 1, s1.2) with
      | .error e => .error e
      | .ok (y, s2) => .ok (.mk 103 (tk toks s1.1).t [x, y] [], s2)
    else callOf (tk toks st.1).a x s1
def notOf : R Bd → R Bd
  | .error e => .error e
  | .ok (b, s) => .ok (.mk 126 ByteArray.empty [] [b], s)
def parOf (toks : List Tok) : R Bd → R Bd
  | .error e => .error e
  | .ok (b, s) => mustT toks [41] b s
def goalOf (toks : List Tok) (lit body : St → R Bd) (ex : St → R Ex) (st : St) : R Bd :=
  if isT (tk toks st.1) [33] then .ok (.mk 33 ByteArray.empty [] [], (st.1 + 1, st.2))
  else if isT (tk toks st.1) [92, 43] then notOf (lit (st.1 + 1, st.2))
  else if isT (tk toks st.1) [40] then parOf toks (body (st.1 + 1, st.2))
  else plainOf toks ex st
def rowG (toks : List Tok) (lit : St → R Bd) : Nat → List Bd → St → R (List Bd)
  | 0, acc, st => .ok (acc, st)
  | f + 1, acc, st =>
    match lit st with
    | .error e => .error e
    | .ok (x, st') => if isT (tk toks st'.1) [44] then rowG toks lit f (acc ++ [x]) (st'.1 + 1, st'.2) else .ok (acc ++ [x], st')
def rowOne : List Bd → Bd
  | [b] => b
  | l => .mk 44 ByteArray.empty [] l
def rowEnd : R (List Bd) → R Bd
  | .error e => .error e
  | .ok (l, s) => .ok (rowOne l, s)
def rowBd (toks : List Tok) (lit : St → R Bd) (st : St) : R Bd := rowEnd (rowG toks lit (toks.length + 1) [] st)
def failB : Bd := .mk 103 (B [102, 97, 105, 108]) [] []
def trueB : Bd := .mk 103 (B [116, 114, 117, 101]) [] []
def thenOf (toks : List Tok) (rest : St → R Bd) (a : Bd) : R Bd → R Bd
  | .error e => .error e
  | .ok (b, s2) =>
    if isT (tk toks s2.1) [59] then
      match rest (s2.1 + 1, s2.2) with
      | .error e => .error e
      | .ok (c, s3) => .ok (.mk 63 ByteArray.empty [] [a, b, c], s3)
    else .ok (.mk 63 ByteArray.empty [] [a, b, failB], s2)
def orOf (a : Bd) : R Bd → R Bd
  | .error e => .error e
  | .ok (b, s2) => .ok (.mk 59 ByteArray.empty [] [a, b], s2)
def bodyOf (toks : List Tok) (lit rest : St → R Bd) (st : St) : R Bd :=
  match rowBd toks lit st with
  | .error e => .error e
  | .ok (a, s1) =>
    if isT (tk toks s1.1) [45, 62] then thenOf toks rest a (rowBd toks lit (s1.1 + 1, s1.2))
    else if isT (tk toks s1.1) [59] then orOf a (rest (s1.1 + 1, s1.2))
    else .ok (a, s1)
def litRest (toks : List Tok) : Nat → (St → R Bd) × (St → R Bd)
  | 0 => (fun st => .error (4, (tk toks st.1).a), fun st => .error (4, (tk toks st.1).a))
  | k + 1 => (goalOf toks (litRest toks k).1 (bodyOf toks (litRest toks k).1 (litRest toks k).2) (exprS toks k), bodyOf toks (litRest toks k).1 (litRest toks k).2)
def bodyS (toks : List Tok) (k : Nat) : St → R Bd := bodyOf toks (litRest toks k).1 (litRest toks k).2
def headOf (toks : List Tok) (ex : St → R Ex) (i : Nat) : R (List Ex) :=
  if isT (tk toks (i + 1)) [40] then
    match argsOf toks ex (tk toks i).a (i + 2, []) with
    | .error e => .error e
    | .ok (l, s) => mustT toks [41] l s
  else .ok ([], (i + 1, []))
def tailOf (toks : List Tok) (body : St → R Bd) (s : St) : R Bd :=
  if isT (tk toks s.1) [58, 45] then body (s.1 + 1, s.2) else .ok (trueB, s)
def pointOf (toks : List Tok) (n : ByteArray) (l : List Ex) : R Bd → R Cl
  | .error e => .error e
  | .ok (b, s) => mustT toks [46] ⟨n, l, b, s.2⟩ s
def clauseOf (toks : List Tok) (ex : St → R Ex) (body : St → R Bd) (i : Nat) : R Cl :=
  if (tk toks i).k = 97 then
    match headOf toks ex i with
    | .error e => .error e
    | .ok (l, s) =>
      if 0 ≤ testsN (tk toks i).t ∨ (tk toks i).t.toList = [109, 111, 100] then .error (3, (tk toks i).a)
      else pointOf toks (tk toks i).t l (tailOf toks body s)
  else .error (2, (tk toks i).a)
def progOf (toks : List Tok) (cl : Nat → R Cl) : Nat → List Cl → Nat → Except (Int × Nat) (List Cl)
  | 0, acc, _ => .ok acc
  | f + 1, acc, i =>
    if (tk toks i).k = 101 then .ok acc
    else if acc.length = 40 then .error (4, (tk toks i).a)
    else match cl i with
      | .error e => .error e
      | .ok (c, s) => progOf toks cl f (acc ++ [c]) s.1
def progS (s : ByteArray) : Except (Int × Nat) (List Cl) :=
  if 2000 < s.size then .error (1, 0)
  else match lexS s with
    | .error p => .error (2, p)
    | .ok l => progOf (withEnd s l) (clauseOf (withEnd s l) (exprS (withEnd s l) 8) (bodyS (withEnd s l) 8)) 41 [] 0
def Shape4 (cs : List Value) : Prop := ∃ a b c0 c1 c2 d0 d1 d2, cs = [.int .u8 a, .string b, .slice c0 c1 c2, .slice d0 d1 d2]
def bdZero : Array Value := #[.int .u8 0, .string ByteArray.empty, .slice none 0 0, .slice none 0 0]
def ArgV (w : World) (Ok : Nat → Prop) (l : List Ex) (v : Value) : Prop := (l = [] ∧ v = .slice none 0 0) ∨ ARep w Ok l v
mutual
inductive BRep (w : World) (Ok : Nat → Prop) : Bd → List Value → Prop
  | mk (k : Int) (n : ByteArray) (args : List Ex) (parts : List Bd) (av pv : Value) (ha : ArgV w Ok args av) (hp : PRep w Ok parts pv) : BRep w Ok (.mk k n args parts) [.int .u8 k, .string n, av, pv]
inductive PRep (w : World) (Ok : Nat → Prop) : List Bd → Value → Prop
  | none : PRep w Ok [] (.slice none 0 0)
  | some (l : List Bd) (g cap : Nat) (cur : Array Value) (cs : List Value) (ho : Ok g) (hg : w.heap[g]? = some (.cells cur 47 (0, 0)))
      (hc : l.length ≤ cap) (hm : cap ≤ maxLen) (hs : cur.size = cap * 4) (ht : cur.toList.take (l.length * 4) = cs) (hr : BRepL w Ok l cs) : PRep w Ok l (.slice (some ⟨g, 0, none⟩) l.length cap)
inductive BRepL (w : World) (Ok : Nat → Prop) : List Bd → List Value → Prop
  | nil : BRepL w Ok [] []
  | cons (x : Bd) (l : List Bd) (a b : List Value) : BRep w Ok x a → BRepL w Ok l b → BRepL w Ok (x :: l) (a ++ b)
end
theorem ARep.frame {w w' : World} {Ok Ok' : Nat → Prop} (hf : ∀ b, Ok b → b < w.heap.size → w'.heap[b]? = w.heap[b]? ∧ Ok' b) {l : List Ex} {v : Value} (h : ARep w Ok l v) : ARep w' Ok' l v := by
  obtain ⟨g, cap, cur, cs, h1, h2, h3, h4, h5, h6, h7, h8⟩ := h
  have q := hf g h2 (Array.getElem?_eq_some_iff.1 h3).1
  exact ⟨g, cap, cur, cs, h1, q.2, q.1.trans h3, h4, h5, h6, h7, h8.frame hf⟩
theorem ArgV.frame {w w' : World} {Ok Ok' : Nat → Prop} (hf : ∀ b, Ok b → b < w.heap.size → w'.heap[b]? = w.heap[b]? ∧ Ok' b) {l : List Ex} {v : Value} (h : ArgV w Ok l v) : ArgV w' Ok' l v :=
  h.imp id (ARep.frame hf)
mutual
theorem BRep.frame {w w' : World} {Ok Ok' : Nat → Prop} (hf : ∀ b, Ok b → b < w.heap.size → w'.heap[b]? = w.heap[b]? ∧ Ok' b) : ∀ {x : Bd} {cs : List Value}, BRep w Ok x cs → BRep w' Ok' x cs
  | _, _, .mk k n args parts av pv ha hp => .mk k n args parts av pv (ha.frame hf) (PRep.frame hf hp)
theorem PRep.frame {w w' : World} {Ok Ok' : Nat → Prop} (hf : ∀ b, Ok b → b < w.heap.size → w'.heap[b]? = w.heap[b]? ∧ Ok' b) : ∀ {l : List Bd} {v : Value}, PRep w Ok l v → PRep w' Ok' l v
  | _, _, .none => .none
  | _, _, .some l g cap cur cs ho hg hc hm hs ht hr =>
    have h := hf g ho (Array.getElem?_eq_some_iff.1 hg).1
    .some l g cap cur cs h.2 (h.1.trans hg) hc hm hs ht (BRepL.frame hf hr)
theorem BRepL.frame {w w' : World} {Ok Ok' : Nat → Prop} (hf : ∀ b, Ok b → b < w.heap.size → w'.heap[b]? = w.heap[b]? ∧ Ok' b) : ∀ {l : List Bd} {cs : List Value}, BRepL w Ok l cs → BRepL w' Ok' l cs
  | _, _, .nil => .nil
  | _, _, .cons x l a b hx hl => .cons x l a b (BRep.frame hf hx) (BRepL.frame hf hl)
end
theorem ArgV.form {w : World} {Ok : Nat → Prop} {l : List Ex} {v : Value} (h : ArgV w Ok l v) : ∃ a c, v = .slice a l.length c := by
  rcases h with ⟨rfl, rfl⟩ | ⟨g, cap, _, _, rfl, _⟩
  · exact ⟨_, _, rfl⟩
  · exact ⟨_, _, rfl⟩
theorem PRep.form {w : World} {Ok : Nat → Prop} {l : List Bd} {v : Value} (h : PRep w Ok l v) : ∃ a c, v = .slice a l.length c := by
  cases h
  · exact ⟨_, _, rfl⟩
  · exact ⟨_, _, rfl⟩
theorem BRep.shape {w : World} {Ok : Nat → Prop} {x : Bd} {cs : List Value} (h : BRep w Ok x cs) : Shape4 cs := by
  cases h with
  | mk k n args parts av pv ha hp =>
    obtain ⟨a, c, rfl⟩ := ha.form
    obtain ⟨a', c', rfl⟩ := hp.form
    exact ⟨_, _, _, _, _, _, _, _, rfl⟩
theorem BRep.len {w : World} {Ok : Nat → Prop} {x : Bd} {cs : List Value} (h : BRep w Ok x cs) : cs.length = 4 := by cases h; rfl
theorem BRepL.snoc {w : World} {Ok : Nat → Prop} : ∀ {l : List Bd} {cs : List Value} {x : Bd} {a : List Value}, BRepL w Ok l cs → BRep w Ok x a → BRepL w Ok (l ++ [x]) (cs ++ a)
  | _, _, x, a, .nil, h => by simpa using BRepL.cons x [] a [] h .nil
  | _, _, x, a, .cons y l c d hy hl, h => by
    have := BRepL.cons y (l ++ [x]) c (d ++ a) hy (BRepL.snoc hl h)
    simpa using this
theorem BRepL.len {w : World} {Ok : Nat → Prop} : ∀ {l : List Bd} {cs : List Value}, BRepL w Ok l cs → cs.length = l.length * 4
  | _, _, .nil => rfl
  | _, _, .cons x l a b hx hl => by simp [hx.len, BRepL.len hl]; omega
def okS (w : World) (bp : Nat) (vv : Value) (b : Nat) : Prop := w.heap.size ≤ b ∧ b ≠ bp ∧ vv.ownBlock ≠ some b
theorem okS_go {w wr w' : World} {bp : Nat} {vv1 vv2 : Value} (hf : Fr bp vv1 vv2 wr w') : ∀ b, okS w bp vv1 b → b < wr.heap.size → w'.heap[b]? = wr.heap[b]? ∧ okS w bp vv2 b :=
  fun b hb hlt => ⟨hf.block b hlt hb.2.1 hb.2.2, hb.1, hb.2.1, fun e => (hf.vnew _ e).elim hb.2.2 (fun q => by omega)⟩
def BrOk (r : R Bd) (st : PS) (w w' : World) (bp : Nat) (vv' : Value) (st' : PS) (cs : List Value) : Prop :=
  match r with
  | .ok (x, s') => st'.err = 0 ∧ st'.i = s'.1 ∧ st'.vars = s'.2 ∧ st.i ≤ s'.1 ∧ s'.2.length ≤ 12 ∧ BRep w' (okS w bp vv') x cs
  | .error (er, a) => st'.err = er ∧ st'.at_ = a ∧ er ≠ 0
def BPost (bp : Nat) (toks : List Tok) (lv vv : Value) (st : PS) (w : World) (r : R Bd) (e : Ending) (w' : World) : Prop :=
  ∃ cs vv' st', e = .returned (.agg cs.toArray) ∧ Shape4 cs ∧ PIn w' bp toks lv vv' st' ∧ Fr bp vv vv' w w' ∧ st'.deep = st.deep ∧ BrOk r st w w' bp vv' st' cs
def ReadsB (fn : Nat) (toks : List Tok) (d : Int) (r : St → R Bd) : Prop :=
  ∀ (w : World) (bp : Nat) (lv vv : Value) (st : PS), PIn w bp toks lv vv st → st.err = 0 → st.vars.length ≤ 12 → st.deep = d →
    Calls Tryz.prog fn #[.pointer (some ⟨bp, 0, none⟩)] w fun e w' => BPost bp toks lv vv st w (r (st.i, st.vars)) e w'
structure Box (w0 wr : World) (vv : Value) (b : Nat) (cs : Array Value) (T : TypeId) : Prop where
  at_ : wr.heap[b]? = some (.cells cs T (0, 0))
  new : w0.heap.size ≤ b
  ne : vv.ownBlock ≠ some b
theorem Box.lt {w0 wr : World} {vv : Value} {b : Nat} {cs : Array Value} {T : TypeId} (h : Box w0 wr vv b cs T) : b < wr.heap.size := (Array.getElem?_eq_some_iff.1 h.at_).1
theorem Box.go {w0 wr w' : World} {bp : Nat} {vv1 vv2 : Value} {b : Nat} {cs : Array Value} {T : TypeId} (h : Box w0 wr vv1 b cs T) (hf : Fr bp vv1 vv2 wr w') (hb : bp < w0.heap.size) : Box w0 w' vv2 b cs T :=
  ⟨(hf.block b h.lt (by have := h.new; omega) h.ne).trans h.at_, h.new, fun e => (hf.vnew _ e).elim h.ne (fun q => by have := h.lt; omega)⟩
theorem Box.mk' {w0 w1 : World} {bp : Nat} {toks : List Tok} {lv vv : Value} {st : PS} (h : PIn w1 bp toks lv vv st) (hs : w0.heap.size ≤ w1.heap.size) (cs : Array Value) (T : TypeId) : Box w0 (w1.alloc (.cells cs T)) vv w1.heap.size cs T :=
  ⟨heap_alloc_new _ _, hs, (h.new (Nat.le_refl _)).2.2⟩
def set4 (w : World) (b : Nat) (x0 x1 x2 x3 : Value) : World := (((w.setCell ⟨b, 0, none⟩ x0).setCell ⟨b, 1, none⟩ x1).setCell ⟨b, 2, none⟩ x2).setCell ⟨b, 3, none⟩ x3
theorem set4_other (w : World) (b : Nat) (x0 x1 x2 x3 : Value) (k : Nat) (h : k ≠ b) : (set4 w b x0 x1 x2 x3).heap[k]? = w.heap[k]? := by
  unfold set4
  rw [Below.heap_setCell _ _ _ _ h, Below.heap_setCell _ _ _ _ h, Below.heap_setCell _ _ _ _ h, Below.heap_setCell _ _ _ _ h]
theorem set4_size (w : World) (b : Nat) (x0 x1 x2 x3 : Value) : (set4 w b x0 x1 x2 x3).heap.size = w.heap.size := by simp [set4, World.setCell]
theorem Fr.set4 {bp : Nat} {v0 v1 : Value} {a w : World} (h : Fr bp v0 v1 a w) {b : Nat} (hb : a.heap.size ≤ b) (x0 x1 x2 x3 : Value) : Fr bp v0 v1 a (set4 w b x0 x1 x2 x3) :=
  (((h.setNew (p := ⟨b, 0, none⟩) hb x0).setNew (p := ⟨b, 1, none⟩) hb x1).setNew (p := ⟨b, 2, none⟩) hb x2).setNew (p := ⟨b, 3, none⟩) hb x3
theorem PIn.set4 {w : World} {bp : Nat} {toks : List Tok} {lv vv : Value} {st : PS} (h : PIn w bp toks lv vv st) {b : Nat} (h1 : b ≠ bp) (h2 : lv.ownBlock ≠ some b) (h3 : vv.ownBlock ≠ some b) (x0 x1 x2 x3 : Value) : PIn (set4 w b x0 x1 x2 x3) bp toks lv vv st :=
  (((h.setOther (a := ⟨b, 0, none⟩) h1 h2 h3).setOther (a := ⟨b, 1, none⟩) h1 h2 h3).setOther (a := ⟨b, 2, none⟩) h1 h2 h3).setOther (a := ⟨b, 3, none⟩) h1 h2 h3
theorem box4 {w : World} {b : Nat} {x0 x1 x2 x3 : Value} {T : TypeId} (h : w.heap[b]? = some (.cells #[x0, x1, x2, x3] T (0, 0))) :
    w.cell? ⟨b, 0, none⟩ = some x0 ∧ w.cell? ⟨b, 1, none⟩ = some x1 ∧ w.cell? ⟨b, 2, none⟩ = some x2 ∧ w.cell? ⟨b, 3, none⟩ = some x3 ∧ ∀ j, w.frozen? ⟨b, j, none⟩ = false :=
  ⟨by rw [cell_of_block h]; rfl, by rw [cell_of_block h]; rfl, by rw [cell_of_block h]; rfl, by rw [cell_of_block h]; rfl, fun j => by simp [World.frozen?, h]⟩
structure Way (w : World) (bp : Nat) (toks : List Tok) (lv vv : Value) (st : PS) (wr : World) (vv1 : Value) (st1 : PS) : Prop where
  P : PIn wr bp toks lv vv1 st1
  fr : Fr bp vv vv1 w wr
  res : Box w wr vv1 w.heap.size bdZero 47
  bpold : bp < w.heap.size
  lvold : ∀ b, lv.ownBlock = some b → b < w.heap.size
section
variable {w : World} {bp : Nat} {toks : List Tok} {lv vv : Value} {st : PS} {wr : World} {vv1 : Value} {st1 : PS}
theorem Way.start (h : PIn w bp toks lv vv st) : Way w bp toks lv vv st (w.alloc (.cells bdZero 47)) vv st :=
  ⟨h.alloc _, (Fr.refl _ _ _).alloc _, Box.mk' h (Nat.le_refl _) _ _, h.lt_size, fun b e => h.blt b (.inr (.inl e))⟩
theorem Way.go {w' : World} {vv2 : Value} {st2 : PS} (h : Way w bp toks lv vv st wr vv1 st1) (hP : PIn w' bp toks lv vv2 st2) (hf : Fr bp vv1 vv2 wr w') : Way w bp toks lv vv st w' vv2 st2 :=
  ⟨hP, h.fr.trans hf, h.res.go hf h.bpold, h.bpold, h.lvold⟩
theorem Way.alloc (h : Way w bp toks lv vv st wr vv1 st1) (o : Obj) : Way w bp toks lv vv st (wr.alloc o) vv1 st1 := h.go (h.P.alloc o) ((Fr.refl _ _ _).alloc o)
theorem Way.set {b : Nat} (h : Way w bp toks lv vv st wr vv1 st1) (hb : w.heap.size < b) (hv : vv1.ownBlock ≠ some b) (x0 x1 x2 x3 : Value) : Way w bp toks lv vv st (set4 wr b x0 x1 x2 x3) vv1 st1 := by
  have n1 : b ≠ bp := by have := h.bpold; omega
  have n2 : lv.ownBlock ≠ some b := fun e => by have := h.lvold b e; omega
  exact ⟨h.P.set4 n1 n2 hv _ _ _ _, h.fr.set4 (by omega) _ _ _ _, ⟨(set4_other _ _ _ _ _ _ _ (by omega)).trans h.res.at_, h.res.new, h.res.ne⟩, h.bpold, h.lvold⟩
def BdFin (w : World) (bp : Nat) (vv1 : Value) (st : PS) (wr : World) (cs : List Value) (st1 : PS) : R Bd → Prop
  | .ok (x, s') => st1.err = 0 ∧ st1.i = s'.1 ∧ st1.vars = s'.2 ∧ st.i ≤ s'.1 ∧ s'.2.length ≤ 12 ∧ BRep wr (fun b => okS w bp vv1 b ∧ b ≠ w.heap.size) x cs
  | .error (er, a) => st1.err = er ∧ st1.at_ = a ∧ er ≠ 0
theorem Way.end_ {x0 : Int} {x1 : ByteArray} {x2 : Option Addr} {x3 x4 : Nat} {x5 : Option Addr} {x6 x7 : Nat} {r : R Bd} (h : Way w bp toks lv vv st wr vv1 st1) (hd : st1.deep = st.deep) (hf : BdFin w bp vv1 st wr [.int .u8 x0, .string x1, .slice x2 x3 x4, .slice x5 x6 x7] st1 r) :
    BPost bp toks lv vv st w r (.returned (.agg #[.int .u8 x0, .string x1, .slice x2 x3 x4, .slice x5 x6 x7])) (set4 wr w.heap.size (.int .u8 x0) (.string x1) (.slice x2 x3 x4) (.slice x5 x6 x7)) := by
  have n1 : w.heap.size ≠ bp := by have := h.bpold; omega
  have n2 : lv.ownBlock ≠ some w.heap.size := fun e => by have := h.lvold _ e; omega
  refine ⟨_, vv1, st1, rfl, ⟨_, _, _, _, _, _, _, _, rfl⟩, h.P.set4 n1 n2 h.res.ne _ _ _ _, h.fr.set4 (Nat.le_refl _) _ _ _ _, hd, ?_⟩
  cases r with
  | error e => exact hf
  | ok p =>
    obtain ⟨f1, f2, f3, f4, f5, f6⟩ := hf
    exact ⟨f1, f2, f3, f4, f5, BRep.frame (fun b hb _ => ⟨set4_other _ _ _ _ _ _ _ hb.2, hb.1⟩) f6⟩
theorem BRep.aside {w1 : World} {x : Bd} {cs : List Value} (h : BRep wr (okS w1 bp vv1) x cs) (hs : w.heap.size < w1.heap.size) : BRep wr (fun b => okS w bp vv1 b ∧ b ≠ w.heap.size) x cs :=
  BRep.frame (fun b hb _ => ⟨rfl, ⟨Nat.le_trans (Nat.le_of_lt hs) hb.1, hb.2⟩, by have := hb.1; omega⟩) h
theorem BRep.go {w1 w' : World} {vv2 : Value} {x : Bd} {cs : List Value} (h : BRep wr (okS w1 bp vv1) x cs) (hf : Fr bp vv1 vv2 wr w') : BRep w' (okS w1 bp vv2) x cs := BRep.frame (okS_go hf) h
theorem BRep.set4 {w1 : World} {x : Bd} {cs : List Value} {b : Nat} (h : BRep wr (okS w1 bp vv1) x cs) (hb : b < w1.heap.size) (x0 x1 x2 x3 : Value) : BRep (set4 wr b x0 x1 x2 x3) (okS w1 bp vv1) x cs :=
  BRep.frame (fun k hk _ => ⟨set4_other _ _ _ _ _ _ _ (by have := hk.1; omega), hk⟩) h
end
theorem bodyInfo : (Tryz.prog.info? 47).map (fun i => (i.zero, i.size, i.bytes)) = some (some (.agg bdZero), 4, 72) := by kernel_rfl
theorem bodiesInfo : Tryz.prog.underlying 45 = some (.slice 47) := by kernel_rfl
theorem tests_any (n : ByteArray) (w : World) : Calls Tryz.prog 103 #[.string n] w fun e w' => e = .returned (.int .i64 (testsN n)) ∧ w' = w := by
  obtain ⟨v, hv⟩ : ∃ v, testsN n = v := ⟨_, rfl⟩
  have HV := hide hv
  rw [hv]
  clear hv
  go_enter Tryz.func103, Tryz.ntmps103
  go_wp2_with fail
  all_goals
    go_ret
    have hv := HV.out
    unfold testsN testsL at hv
    simp [*] at hv
    first
    | (subst hv; exact ⟨rfl, rfl⟩)
    | (exfalso; clear hv HV; simp_all; done)
def litW (w : World) : World := (w.alloc (.cells bdZero 47)).alloc (.cells bdZero 47)
theorem litW_way {w : World} {bp : Nat} {toks : List Tok} {lv vv : Value} {st : PS} (h : PIn w bp toks lv vv st) : Way w bp toks lv vv st (litW w) vv st := (Way.start h).alloc _
theorem litW_box {w : World} {bp : Nat} {toks : List Tok} {lv vv : Value} {st : PS} (h : PIn w bp toks lv vv st) : Box w (litW w) vv (w.heap.size + 1) bdZero 47 := by
  have := Box.mk' (w0 := w) (h.alloc (.cells bdZero 47)) (by simp) bdZero 47
  simpa [litW] using this
theorem lit_fin {w W w4 w5 : World} {bp : Nat} {vv3 : Value} {st st2 st3 st5 : PS} {ds : List Value} {r : R Bd} (hs : w.heap.size < W.heap.size) (hok : BrOk r st2 W w4 bp vv3 st3 ds) (hi : st.i ≤ st2.i)
    (h5 : st5.err = st3.err ∧ st5.at_ = st3.at_ ∧ st5.i = st3.i ∧ st5.vars = st3.vars) (hw : ∀ b, W.heap.size ≤ b → b ≠ bp → w5.heap[b]? = w4.heap[b]?) : BdFin w bp vv3 st w5 ds st5 r := by
  obtain ⟨a1, a2, a3, a4⟩ := h5
  cases r with
  | error e => obtain ⟨e1, e2, e3⟩ := hok; exact ⟨a1.trans e1, a2.trans e2, e3⟩
  | ok p =>
    obtain ⟨f1, f2, f3, f4, f5, f6⟩ := hok
    refine ⟨a1.trans f1, a3.trans f2, a4.trans f3, by omega, f5, BRep.frame (fun b hb _ => ?_) f6⟩
    exact ⟨hw b hb.1 hb.2.1, ⟨by have := hb.1; omega, hb.2⟩, by have := hb.1; omega⟩
theorem lit_zero {toks : List Tok} (hg : GoodToks toks) : ReadsB 128 toks 8 (litRest toks 0).1 := by
  intro w bp lv vv st h he hv hd
  have hR0 := litW_way h
  have hX0 := litW_box h
  have HE := hide (enter_any hR0.P hg ⟨by omega, by omega⟩)
  obtain ⟨t, ht⟩ : ∃ t, t = tk toks st.i := ⟨_, rfl⟩
  have HT : Hid ((litRest toks 0).1 (st.i, st.vars) = .error (4, t.a)) := by unfold Hid; rw [ht]; rfl
  rw [HT.out]
  rw [← ht] at HE
  have hdn : st.down t.a = { st with deep := 9, err := 4, at_ := t.a } := by
    unfold PS.down; rw [if_neg (by omega)]; unfold PS.fault; rw [if_pos he, hd]; rfl
  rw [hdn] at HE
  have hbpz := h.lt_size
  clear ht hdn
  go_enter Tryz.func128, Tryz.ntmps128
  go_wp2_with (go_at_call 129; refine HE.out.mono ?_; rintro e w1 ⟨rfl, hP1, hfr1⟩; have hR1 := hR0.go hP1 hfr1; have hX1 := hX0.go hfr1 h.lt_size; have p3 := hP1.c3; have pf := hP1.fz 3; obtain ⟨c0, c1, c2, c3, cf⟩ := box4 hX1.at_; obtain ⟨d0, d1, d2, d3, df⟩ := box4 hR1.res.at_)
  have hR2 := hR1.go (hP1.setDeep 8) ((Fr.refl _ _ _).setBp _ _)
  have hE := Way.end_ (x0 := 0) (x1 := ByteArray.empty) (x2 := none) (x3 := 0) (x4 := 0) (x5 := none) (x6 := 0) (x7 := 0) (r := .error (4, t.a)) hR2 hd.symm ⟨rfl, rfl, by decide⟩
  exact bodyPost_ret (v := .agg #[.int .u8 0, .string ByteArray.empty, .slice none 0 0, .slice none 0 0]) (by simp [results, Tryz.results128, go_sem, d0, d1, d2, d3]) rfl hE
theorem rest_zero {toks : List Tok} (hg : GoodToks toks) : ReadsB 82 toks 8 (litRest toks 0).2 := by
  intro w bp lv vv st h he hv hd
  have hR0 := litW_way h
  have hX0 := litW_box h
  have HE := hide (enter_any hR0.P hg ⟨by omega, by omega⟩)
  obtain ⟨t, ht⟩ : ∃ t, t = tk toks st.i := ⟨_, rfl⟩
  have HT : Hid ((litRest toks 0).2 (st.i, st.vars) = .error (4, t.a)) := by unfold Hid; rw [ht]; rfl
  rw [HT.out]
  rw [← ht] at HE
  have hdn : st.down t.a = { st with deep := 9, err := 4, at_ := t.a } := by
    unfold PS.down; rw [if_neg (by omega)]; unfold PS.fault; rw [if_pos he, hd]; rfl
  rw [hdn] at HE
  have hbpz := h.lt_size
  clear ht hdn
  go_enter Tryz.func82, Tryz.ntmps82
  go_wp2_with (go_at_call 129; refine HE.out.mono ?_; rintro e w1 ⟨rfl, hP1, hfr1⟩; have hR1 := hR0.go hP1 hfr1; have hX1 := hX0.go hfr1 h.lt_size; have p3 := hP1.c3; have pf := hP1.fz 3; obtain ⟨c0, c1, c2, c3, cf⟩ := box4 hX1.at_; obtain ⟨d0, d1, d2, d3, df⟩ := box4 hR1.res.at_)
  have hR2 := hR1.go (hP1.setDeep 8) ((Fr.refl _ _ _).setBp _ _)
  have hE := Way.end_ (x0 := 0) (x1 := ByteArray.empty) (x2 := none) (x3 := 0) (x4 := 0) (x5 := none) (x6 := 0) (x7 := 0) (r := .error (4, t.a)) hR2 hd.symm ⟨rfl, rfl, by decide⟩
  exact bodyPost_ret (v := .agg #[.int .u8 0, .string ByteArray.empty, .slice none 0 0, .slice none 0 0]) (by simp [results, Tryz.results82, go_sem, d0, d1, d2, d3]) rfl hE
theorem lit_succ {toks : List Tok} (hg : GoodToks toks) (k : Nat) (hk : k < 8) {r : St → R Bd} (hb : ReadsB 172 toks (8 - (k : Int)) r) : ReadsB 128 toks (8 - ((k + 1 : Nat) : Int)) r := by
  intro w bp lv vv st h he hv hd
  have hR0 := litW_way h
  have hX0 := litW_box h
  have hdd : st.deep = 7 - (k : Int) := by omega
  have HE := hide (enter_any hR0.P hg ⟨by omega, by omega⟩)
  have hdn : st.down (tk toks st.i).a = { st with deep := st.deep + 1 } := by unfold PS.down; rw [if_pos (by omega)]
  rw [hdn] at HE
  have he0 : (({ st with deep := st.deep + 1 } : PS).err == 0) = true := by show (st.err == 0) = true; simpa using he
  rw [he0] at HE
  have hbpz := h.lt_size
  have HB := hide hb
  have hde : ({ st with deep := st.deep + 1 } : PS).deep = 8 - (k : Int) := by show st.deep + 1 = _; omega
  have HDE := hide hde
  have hlo : 0 ≤ st.deep := by omega
  have hhi : st.deep ≤ 7 := by omega
  clear hdn hb hdd hd hde
  go_enter Tryz.func128, Tryz.ntmps128
  go_wp2_with (first | (go_at_call 129; refine HE.out.mono ?_; rintro e w1 ⟨rfl, hP1, hfr1⟩; have hR1 := hR0.go hP1 hfr1; have hX1 := hX0.go hfr1 hbpz) | (go_at_call 172; refine (HB.out _ _ _ _ _ hP1 he hv HDE.out).mono ?_; rintro e w2 ⟨ds, vv2, st2, rfl, ⟨z0, z1, z2, z3, z4, z5, z6, z7, rfl⟩, hP2, hfr2, hdp2, hok2⟩; have hR2 := hR1.go hP2 hfr2; have hX2 := hX1.go hfr2 hbpz; obtain ⟨c0, c1, c2, c3, cf⟩ := box4 hX2.at_; obtain ⟨d0, d1, d2, d3, df⟩ := box4 hR2.res.at_; have p3 := PIn.c3' hP2 hdp2; have pf := hP2.fz 3))
  have hz1 : w.heap.size + 1 < w1.heap.size := hX1.lt
  have hR3 := hR2.set (b := w.heap.size + 1) (by omega) hX2.ne (.int .u8 z0) (.string z1) (.slice z2 z3 z4) (.slice z5 z6 z7)
  have hR4 := hR3.go (hR3.P.setDeep st.deep) ((Fr.refl _ _ _).setBp _ _)
  have hfin := lit_fin (w := w) (st := st) (st5 := { st2 with deep := st.deep }) (by omega) hok2 (Nat.le_refl _) ⟨rfl, rfl, rfl, rfl⟩
    (w5 := (set4 w2 (w.heap.size + 1) (.int .u8 z0) (.string z1) (.slice z2 z3 z4) (.slice z5 z6 z7)).setCell ⟨bp, 3, none⟩ (.int .i64 st.deep))
    (fun b q1 q2 => (Below.heap_setCell _ _ _ _ q2).trans (set4_other _ _ _ _ _ _ _ (by omega)))
  have hE := Way.end_ hR4 rfl hfin
  exact bodyPost_ret (v := .agg #[.int .u8 z0, .string z1, .slice z2 z3 z4, .slice z5 z6 z7]) (by simp [results, Tryz.results128, go_sem, d0, d1, d2, d3]) rfl hE
theorem rest_succ {toks : List Tok} (hg : GoodToks toks) (k : Nat) (hk : k < 8) {r : St → R Bd} (hb : ReadsB 51 toks (8 - (k : Int)) r) : ReadsB 82 toks (8 - ((k + 1 : Nat) : Int)) r := by
  intro w bp lv vv st h he hv hd
  have hR0 := litW_way h
  have hX0 := litW_box h
  have hdd : st.deep = 7 - (k : Int) := by omega
  have HE := hide (enter_any hR0.P hg ⟨by omega, by omega⟩)
  have hdn : st.down (tk toks st.i).a = { st with deep := st.deep + 1 } := by unfold PS.down; rw [if_pos (by omega)]
  rw [hdn] at HE
  have he0 : (({ st with deep := st.deep + 1 } : PS).err == 0) = true := by show (st.err == 0) = true; simpa using he
  rw [he0] at HE
  have hbpz := h.lt_size
  have HB := hide hb
  have hde : ({ st with deep := st.deep + 1 } : PS).deep = 8 - (k : Int) := by show st.deep + 1 = _; omega
  have HDE := hide hde
  have hlo : 0 ≤ st.deep := by omega
  have hhi : st.deep ≤ 7 := by omega
  clear hdn hb hdd hd hde
  go_enter Tryz.func82, Tryz.ntmps82
  go_wp2_with (first | (go_at_call 129; refine HE.out.mono ?_; rintro e w1 ⟨rfl, hP1, hfr1⟩; have hR1 := hR0.go hP1 hfr1; have hX1 := hX0.go hfr1 hbpz) | (go_at_call 51; refine (HB.out _ _ _ _ _ hP1 he hv HDE.out).mono ?_; rintro e w2 ⟨ds, vv2, st2, rfl, ⟨z0, z1, z2, z3, z4, z5, z6, z7, rfl⟩, hP2, hfr2, hdp2, hok2⟩; have hR2 := hR1.go hP2 hfr2; have hX2 := hX1.go hfr2 hbpz; obtain ⟨c0, c1, c2, c3, cf⟩ := box4 hX2.at_; obtain ⟨d0, d1, d2, d3, df⟩ := box4 hR2.res.at_; have p3 := PIn.c3' hP2 hdp2; have pf := hP2.fz 3))
  have hz1 : w.heap.size + 1 < w1.heap.size := hX1.lt
  have hR3 := hR2.set (b := w.heap.size + 1) (by omega) hX2.ne (.int .u8 z0) (.string z1) (.slice z2 z3 z4) (.slice z5 z6 z7)
  have hR4 := hR3.go (hR3.P.setDeep st.deep) ((Fr.refl _ _ _).setBp _ _)
  have hfin := lit_fin (w := w) (st := st) (st5 := { st2 with deep := st.deep }) (by omega) hok2 (Nat.le_refl _) ⟨rfl, rfl, rfl, rfl⟩
    (w5 := (set4 w2 (w.heap.size + 1) (.int .u8 z0) (.string z1) (.slice z2 z3 z4) (.slice z5 z6 z7)).setCell ⟨bp, 3, none⟩ (.int .i64 st.deep))
    (fun b q1 q2 => (Below.heap_setCell _ _ _ _ q2).trans (set4_other _ _ _ _ _ _ _ (by omega)))
  have hE := Way.end_ hR4 rfl hfin
  exact bodyPost_ret (v := .agg #[.int .u8 z0, .string z1, .slice z2 z3 z4, .slice z5 z6 z7]) (by simp [results, Tryz.results82, go_sem, d0, d1, d2, d3]) rfl hE
def Shapes4 (n : Nat) (cs : List Value) : Prop := ∀ j, j < n → Shape4 ((cs.drop (j * 4)).take 4)
theorem Shapes4.snoc {n : Nat} {cs ds : List Value} (h : Shapes4 n cs) (hl : cs.length = n * 4) (hd : Shape4 ds) : Shapes4 (n + 1) (cs ++ ds) := by
  intro j hj
  have h5 : ds.length = 4 := by obtain ⟨_, _, _, _, _, _, _, _, rfl⟩ := hd; rfl
  by_cases e : j = n
  · subst e
    rw [← hl, List.drop_left, List.take_of_length_le (by omega)]; exact hd
  · have hj' : j < n := by omega
    rw [List.drop_append_of_le_length (by omega), List.take_append_of_le_length (by simp; omega)]
    exact h j hj'
structure RowAtB (w0 : World) (bp : Nat) (toks : List Tok) (lv vv : Value) (st : PS) (v : Value) (wr : World) (cs : List Value) (n : Nat) (vv1 : Value) (st1 : PS) : Prop where
  P : PIn wr bp toks lv vv1 st1
  fr : Fr bp vv vv1 w0 wr
  deep : st1.deep = st.deep
  own : wr.ownsRow w0.heap.size 47 4 v n cs
  vne : v.ownBlock = none ∨ vv1.ownBlock ≠ v.ownBlock
  small : n ≤ 2002
  shapes : Shapes4 n cs
  bpold : bp < w0.heap.size
  lvold : ∀ b, lv.ownBlock = some b → b < w0.heap.size
def RowFinB (w0 : World) (bp : Nat) (vv1 : Value) (st : PS) (v : Value) (wr : World) (cs : List Value) (n : Nat) (st1 : PS) : R (List Bd) → Prop
  | .ok (l, s') => st1.err = 0 ∧ st1.i = s'.1 ∧ st1.vars = s'.2 ∧ st.i ≤ s'.1 ∧ s'.2.length ≤ 12 ∧ n = l.length ∧ 0 < n ∧ BRepL wr (okL w0 bp vv1 v) l cs
  | .error (er, a) => st1.err = er ∧ st1.at_ = a ∧ er ≠ 0
def RowRelB (w0 : World) (bp : Nat) (toks : List Tok) (lv vv : Value) (st : PS) (ex : St → R Bd) (total : R (List Bd)) (g : Nat) (v m : Value) (wr : World) : Prop :=
  ∃ cs n vv1 st1, RowAtB w0 bp toks lv vv st v wr cs n vv1 st1 ∧
    ((∃ f acc, m = .bool true ∧ n = acc.length ∧ n ≤ st1.i ∧ st1.err = 0 ∧ st1.vars.length ≤ 12 ∧ st.i ≤ st1.i ∧ toks.length - st1.i + 1 ≤ f ∧ toks.length - st1.i + 1 ≤ g ∧
        rowG toks ex f acc (st1.i, st1.vars) = total ∧ BRepL wr (okL w0 bp vv1 v) acc cs) ∨
     (m = .bool false ∧ RowFinB w0 bp vv1 st v wr cs n st1 total))
theorem row_startB {w0 : World} {bp : Nat} {toks : List Tok} {lv vv : Value} {st : PS} {ex : St → R Bd} {total : R (List Bd)} (h : PIn w0 bp toks lv vv st) (he : st.err = 0) (hv : st.vars.length ≤ 12) (ht : rowG toks ex (toks.length + 1) [] (st.i, st.vars) = total) :
    RowRelB w0 bp toks lv vv st ex total (toks.length + 1) (.slice none 0 0) (.bool true) w0 :=
  ⟨[], 0, vv, st, ⟨h, Fr.refl _ _ _, rfl, World.ownsRow_nil _ _ _ _, .inl rfl, by omega, fun j hj => absurd hj (by omega), h.lt_size, fun b e => h.blt b (.inr (.inl e))⟩,
    .inl ⟨toks.length + 1, [], rfl, rfl, by omega, he, hv, Nat.le_refl _, by omega, by omega, ht, .nil⟩⟩
theorem row_stepB {w0 : World} {bp : Nat} {toks : List Tok} {lv vv : Value} {st : PS} {ex : St → R Bd} {total : R (List Bd)} {gk : Nat} {v v' : Value} {wr w4 w5 w6 : World} {cs ds : List Value} {n f : Nat} {vv1 vv2 : Value} {st1 st2 : PS} {acc : List Bd} {o1 o2 : Obj} {b : Bool}
    (hg : GoodToks toks) (hR : RowAtB w0 bp toks lv vv st v wr cs n vv1 st1) (hn : n = acc.length) (hni : n ≤ st1.i) (hi : st.i ≤ st1.i) (hf : toks.length - st1.i + 1 ≤ f) (hgk : toks.length - st1.i + 1 ≤ gk) (hrow : rowG toks ex f acc (st1.i, st1.vars) = total) (hE : BRepL wr (okL w0 bp vv1 v) acc cs)
    (hsh : Shape4 ds) (hfr : Fr bp vv1 vv2 wr w4) (hd : st2.deep = st1.deep) (hok : BrOk (ex (st1.i, st1.vars)) st1 wr w4 bp vv2 st2 ds)
    (ho : w5.ownsRow w0.heap.size 47 4 v' (n + 1) (cs ++ ds)) (hgr : ((w4.alloc o1).alloc o2).grownBy w5 v.ownBlock) (hnw : ∀ b, v'.ownBlock = some b → v.ownBlock = some b ∨ w4.heap.size + 1 + 1 ≤ b)
    (hb : b = isB st2 (tk toks st2.i) (B [44])) (hP6 : PIn w6 bp toks lv vv2 (if b then st2.pass else st2)) (hfr6 : Fr bp vv2 vv2 w5 w6) (hP4 : PIn w4 bp toks lv vv2 st2) :
    ∃ g', g' < gk ∧ RowRelB w0 bp toks lv vv st ex total g' v' (.bool b) w6 := by
  have hlt := hR.P.lt
  obtain ⟨f, rfl⟩ : ∃ f', f = f' + 1 := ⟨f - 1, by omega⟩
  rw [rowG] at hrow
  have hs0 := hR.fr.size
  have hs4 := hfr.size
  have hsz : ((w4.alloc o1).alloc o2).heap.size = w4.heap.size + 2 := by simp
  have hs5 := hgr.size
  have hs6 := hfr6.size
  have vb : v.ownBlock ≠ some bp := fun e => by have := (hR.own.lt bp e).1; have := hR.bpold; omega
  have v'b : v'.ownBlock ≠ some bp := fun e => by have := (ho.lt bp e).1; have := hR.bpold; omega
  have vlt : ∀ x, v.ownBlock = some x → x < wr.heap.size := fun x e => (hR.own.lt x e).2
  -- the variables' block is none of the row's
  have hv2 : ∀ x, vv2.ownBlock = some x → v.ownBlock ≠ some x := fun x e q => by
    rcases hfr.vnew x e with r | r
    · rcases hR.vne with s | s
      · rw [s] at q; cases q
      · exact s (by rw [r, q])
    · have := vlt x q; omega
  have hv2' : v'.ownBlock = none ∨ vv2.ownBlock ≠ v'.ownBlock := by
    cases hx : v'.ownBlock with
    | none => exact .inl rfl
    | some x =>
      right; intro e
      rcases hnw x hx with r | r
      · exact hv2 x e r
      · have := hP4.blt x (.inr (.inr e)); omega
  have hB45 : ∀ x, x < w4.heap.size → v.ownBlock ≠ some x → w5.heap[x]? = w4.heap[x]? := fun x hx hq => by
    rw [hgr.block x (by omega) (fun e => hq e.symm), Below.heap_alloc _ _ _ (by simp; omega), Below.heap_alloc _ _ _ hx]
  have hFr05 : Fr bp vv vv2 w0 w5 := by
    have h04 := hR.fr.trans hfr
    refine ⟨hgr.os.trans h04.os, hgr.tape.trans h04.tape, hgr.output.trans h04.output, by omega, fun x hx h1 h2 => ?_, h04.vnew⟩
    rw [hB45 x (by omega) (fun e => by have := (hR.own.lt x e).1; omega)]
    exact h04.block x hx h1 h2
  have hdeep : (if b then st2.pass else st2).deep = st.deep := by
    have : (if b then st2.pass else st2).deep = st2.deep := by split <;> rfl
    rw [this, hd, hR.deep]
  have hRn : RowAtB w0 bp toks lv vv st v' w6 (cs ++ ds) (n + 1) vv2 (if b then st2.pass else st2) :=
    ⟨hP6, hFr05.trans hfr6, hdeep, own_fr ho hfr6 v'b hv2', hv2', by have := hg.small; omega, hR.shapes.snoc hR.own.1 hsh, hR.bpold, hR.lvold⟩
  cases hr : ex (st1.i, st1.vars) with
  | error e =>
    rw [hr] at hok hrow
    obtain ⟨e1, e2, e3⟩ := hok
    have hbf : b = false := by rw [hb]; exact isB_f1 (by rw [e1]; exact e3)
    subst hbf
    exact ⟨0, by omega, _, _, _, _, hRn, .inr ⟨rfl, by rw [← hrow]; exact ⟨e1, e2, e3⟩⟩⟩
  | ok p =>
    rw [hr] at hok hrow
    obtain ⟨f1, f2, f3, f4, f5, f6⟩ := hok
    -- the elements, old and new, in the last world
    have g1 : BRepL w6 (okL w0 bp vv2 v') acc cs := by
      refine BRepL.frame (fun x hx hxl => ?_) hE
      obtain ⟨q1, q2, q3, q4⟩ := hx
      have r1 : vv2.ownBlock ≠ some x := fun e => (hfr.vnew x e).elim q3 (fun q => by omega)
      have r2 : v'.ownBlock ≠ some x := fun e => (hnw x e).elim q4 (fun q => by omega)
      exact ⟨by rw [hfr6.block x (by omega) q2 r1, hB45 x (by omega) q4, hfr.block x hxl q2 q3], q1, q2, r1, r2⟩
    have g2 : BRep w6 (okL w0 bp vv2 v') p.1 ds := by
      refine BRep.frame (fun x hx hxl => ?_) f6
      obtain ⟨q1, q2, q3⟩ := hx
      have q4 : v.ownBlock ≠ some x := fun e => by have := vlt x e; omega
      have r2 : v'.ownBlock ≠ some x := fun e => (hnw x e).elim q4 (fun q => by omega)
      exact ⟨by rw [hfr6.block x (by omega) q2 q3, hB45 x hxl q4], by omega, q2, q3, r2⟩
    have hE6 := g1.snoc g2
    have hbb : b = isT (tk toks p.2.1) [44] := by
      rw [hb, f2]; simp [isB, isT, f1]
    cases b with
    | true =>
      dsimp only at hrow
      rw [if_pos hbb.symm] at hrow
      have hl6 := hP6.lt
      have e6 : (if (true : Bool) = true then st2.pass else st2) = st2.pass := rfl
      rw [e6] at hl6 hRn
      have e7 : st2.pass.i = st2.i + 1 := rfl
      refine ⟨toks.length - st2.pass.i + 1, by rw [e7]; omega, _, _, _, _, hRn, .inl ⟨f, acc ++ [p.1], rfl, by simp; omega, by rw [e7]; omega, f1, by show st2.vars.length ≤ 12; rw [f3]; exact f5, by rw [e7]; omega, by rw [e7]; omega, by omega, ?_, hE6⟩⟩
      rw [← hrow, e7, f2, show st2.pass.vars = st2.vars from rfl, f3]
    | false =>
      dsimp only at hrow
      rw [if_neg (by rw [← hbb]; simp)] at hrow
      exact ⟨0, by omega, _, _, _, _, hRn, .inr ⟨rfl, by rw [← hrow]; exact ⟨f1, f2, f3, by omega, f5, by simp; omega, by omega, hE6⟩⟩⟩
theorem row_nbB {w0 : World} {bp : Nat} {toks : List Tok} {lv vv : Value} {st : PS} {v : Value} {wr : World} {cs : List Value} {n : Nat} {vv1 : Value} {st1 : PS} (hR : RowAtB w0 bp toks lv vv st v wr cs n vv1 st1) : v.ownBlock ≠ some bp :=
  fun e => by have := (hR.own.lt bp e).1; have := hR.bpold; omega
theorem row_P5B {w0 : World} {bp : Nat} {toks : List Tok} {lv vv : Value} {st : PS} {v : Value} {wr w4 w5 : World} {cs : List Value} {n : Nat} {vv1 vv2 : Value} {st1 st2 : PS} {o1 o2 : Obj} (hR : RowAtB w0 bp toks lv vv st v wr cs n vv1 st1)
    (hP4 : PIn w4 bp toks lv vv2 st2) (hfr : Fr bp vv1 vv2 wr w4) (hgr : ((w4.alloc o1).alloc o2).grownBy w5 v.ownBlock) : PIn w5 bp toks lv vv2 st2 := by
  refine ((hP4.alloc o1).alloc o2).grown hgr (row_nbB hR) (fun b e q => ?_) (fun b e q => ?_)
  · have := (hR.own.lt b q).1; have := hR.lvold b e; omega
  · rcases hfr.vnew b e with r | r
    · rcases hR.vne with s | s
      · rw [s] at q; cases q
      · exact s (by rw [r, q])
    · have := (hR.own.lt b q).2; omega
end Go.Proofs.YtodpkdajbnceoaaGreatDoor
