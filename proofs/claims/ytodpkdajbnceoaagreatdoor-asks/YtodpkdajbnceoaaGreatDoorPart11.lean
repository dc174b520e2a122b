import Derived.Test.YtodpkdajbnceoaaGreatDoorPart10
set_option linter.all false
set_option maxHeartbeats 2000000
set_option maxRecDepth 100000
namespace Go.Proofs.YtodpkdajbnceoaaGreatDoor
open Go.RowKit
def Shape7 (cs : List Value) : Prop := ∃ n a0 a1 a2 k m b0 b1 b2 p0 p1 p2 v0 v1 v2, cs = [.string n, .slice a0 a1 a2, .int .u8 k, .string m, .slice b0 b1 b2, .slice p0 p1 p2, .slice v0 v1 v2]
def VarV (w : World) (Ok : Nat → Prop) (l : List ByteArray) (v : Value) : Prop :=
  (l = [] ∧ v = .slice none 0 0) ∨ ∃ g cap cur, v = .slice (some ⟨g, 0, none⟩) l.length cap ∧ Ok g ∧ w.heap[g]? = some (.cells cur 9 (0, 0)) ∧ l.length ≤ cap ∧ cap ≤ maxLen ∧ cur.size = cap ∧ cur.toList.take l.length = l.map Value.string
theorem VarV.frame {w w' : World} {Ok Ok' : Nat → Prop} (hf : ∀ b, Ok b → b < w.heap.size → w'.heap[b]? = w.heap[b]? ∧ Ok' b) {l : List ByteArray} {v : Value} (h : VarV w Ok l v) : VarV w' Ok' l v := by
  rcases h with h | ⟨g, cap, cur, h1, h2, h3, h4⟩
  · exact .inl h
  · have q := hf g h2 (Array.getElem?_eq_some_iff.1 h3).1
    exact .inr ⟨g, cap, cur, h1, q.2, q.1.trans h3, h4⟩
def CRep (w : World) (Ok : Nat → Prop) (c : Cl) (cs : List Value) : Prop :=
  ∃ av k m ba bq vv, cs = [.string c.name, av, k, m, ba, bq, vv] ∧ ArgV w Ok c.args av ∧ BRep w Ok c.body [k, m, ba, bq] ∧ VarV w Ok c.vars vv
theorem CRep.frame {w w' : World} {Ok Ok' : Nat → Prop} (hf : ∀ b, Ok b → b < w.heap.size → w'.heap[b]? = w.heap[b]? ∧ Ok' b) {c : Cl} {cs : List Value} (h : CRep w Ok c cs) : CRep w' Ok' c cs := by
  obtain ⟨av, k, m, ba, bq, vv, h1, h2, h3, h4⟩ := h
  exact ⟨av, k, m, ba, bq, vv, h1, h2.frame hf, h3.frame hf, h4.frame hf⟩
def ClOk (r : R Cl) (i : Nat) (w w' : World) (bp : Nat) (st' : PS) (cs : List Value) : Prop :=
  match r with
  | .ok (c, s') => st'.err = 0 ∧ st'.i = s'.1 ∧ i < s'.1 ∧ CRep w' (fun b => w.heap.size ≤ b ∧ b ≠ bp) c cs
  | .error (er, a) => st'.err = er ∧ st'.at_ = a ∧ er ≠ 0
def ClPost (bp : Nat) (toks : List Tok) (lv : Value) (i : Nat) (w : World) (r : R Cl) (e : Ending) (w' : World) : Prop :=
  ∃ cs vv' st', e = .returned (.agg cs.toArray) ∧ Shape7 cs ∧ PIn w' bp toks lv vv' st' ∧ Fr bp (.slice none 0 0) vv' w w' ∧ st'.deep = 0 ∧ ClOk r i w w' bp st' cs
theorem PIn.anew {w : World} {bp : Nat} {toks : List Tok} {lv vv : Value} {st : PS} (h : PIn w bp toks lv vv st) : PIn (w.setCell ⟨bp, 2, none⟩ (.slice none 0 0)) bp toks lv (.slice none 0 0) { st with vars := [] } := by
  have hne : ∀ b, b ≠ bp → (w.setCell ⟨bp, 2, none⟩ (.slice none 0 0)).heap[b]? = w.heap[b]? := fun b hb => Below.heap_setCell _ _ _ _ hb
  refine ⟨by rw [heap_setCell_same h.cells]; rfl, ⟨h.l.1, ?_⟩, World.ownsRow_nil _ _ _ _, h.lb, by simp [Value.ownBlock], .inl rfl, h.lt, by simp⟩
  rcases h.l.2 with hl | ⟨g, cap, cur, rfl, r1, r2, r3⟩
  · exact .inl hl
  · exact .inr ⟨g, cap, cur, rfl, r1, by rw [hne g (fun e => h.lb (by rw [e]; rfl))]; exact r2, r3⟩
structure CR (w : World) (bp : Nat) (toks : List Tok) (lv : Value) (wr : World) (vv1 : Value) (st1 : PS) (bt bc : Nat) (t : Tok) (c1 c2 c3 c4 c5 : Value) : Prop where
  P : PIn wr bp toks lv vv1 st1
  fr : Fr bp (.slice none 0 0) vv1 w wr
  deep : st1.deep = 0
  res : Box w wr vv1 w.heap.size clauseZero 50
  tb : Box w wr vv1 bt #[.int .u8 t.k, .string t.t, .int .i64 t.a] 133
  cb : Box w wr vv1 bc #[.string t.t, c1, c2, c3, c4, c5, .slice none 0 0] 50
  lt1 : w.heap.size < bt
  lt2 : bt < bc
  bpold : bp < w.heap.size
  lvold : ∀ b, lv.ownBlock = some b → b < w.heap.size
section
variable {w : World} {bp : Nat} {toks : List Tok} {lv : Value} {wr : World} {vv1 : Value} {st1 : PS} {bt bc : Nat} {t : Tok} {c1 c2 c3 c4 c5 : Value}
theorem CR.go {w' : World} {vv2 : Value} {st2 : PS} (h : CR w bp toks lv wr vv1 st1 bt bc t c1 c2 c3 c4 c5) (hP : PIn w' bp toks lv vv2 st2) (hf : Fr bp vv1 vv2 wr w') (hd : st2.deep = st1.deep) : CR w bp toks lv w' vv2 st2 bt bc t c1 c2 c3 c4 c5 :=
  ⟨hP, h.fr.trans hf, hd.trans h.deep, h.res.go hf h.bpold, h.tb.go hf h.bpold, h.cb.go hf h.bpold, h.lt1, h.lt2, h.bpold, h.lvold⟩
theorem Box.other {w0 : World} {vv : Value} {b : Nat} {cs : Array Value} {T : TypeId} (h : Box w0 wr vv b cs T) {a : Addr} {u : Value} (hne : b ≠ a.block) : Box w0 (wr.setCell a u) vv b cs T :=
  ⟨(Below.heap_setCell _ _ _ _ hne).trans h.at_, h.new, h.ne⟩
theorem Box.same {w0 : World} {vv : Value} {b j : Nat} {cs : Array Value} {T : TypeId} {u : Value} (h : Box w0 wr vv b cs T) : Box w0 (wr.setCell ⟨b, j, none⟩ u) vv b (cs.setIfInBounds j u) T :=
  ⟨heap_setCell_same h.at_, h.new, h.ne⟩
theorem CR.set (h : CR w bp toks lv wr vv1 st1 bt bc t c1 c2 c3 c4 c5) (j : Nat) (u : Value) (d1 d2 d3 d4 d5 : Value)
    (hc : (#[.string t.t, c1, c2, c3, c4, c5, .slice none 0 0] : Array Value).setIfInBounds j u = #[.string t.t, d1, d2, d3, d4, d5, .slice none 0 0]) : CR w bp toks lv (wr.setCell ⟨bc, j, none⟩ u) vv1 st1 bt bc t d1 d2 d3 d4 d5 := by
  have q1 := h.lt1
  have q2 := h.lt2
  have q3 := h.bpold
  refine ⟨h.P.setOther (a := ⟨bc, j, none⟩) (by show bc ≠ bp; omega) (fun e => by have := h.lvold _ e; have : bc < w.heap.size := this; omega) h.cb.ne, h.fr.setNew (p := ⟨bc, j, none⟩) (by show w.heap.size ≤ bc; omega) u, h.deep, h.res.other (by show w.heap.size ≠ bc; omega), h.tb.other (by show bt ≠ bc; omega), ?_, q1, q2, q3, h.lvold⟩
  have := h.cb.same (j := j) (u := u)
  rw [hc] at this
  exact this
end
def okK (w : World) (bp : Nat) (vv : Value) (bc : Nat) (b : Nat) : Prop := okS w bp vv b ∧ b ≠ w.heap.size ∧ b ≠ bc
theorem okK_go {w wr w' : World} {bp bc : Nat} {vv1 vv2 : Value} (hf : Fr bp vv1 vv2 wr w') : ∀ b, okK w bp vv1 bc b → b < wr.heap.size → w'.heap[b]? = wr.heap[b]? ∧ okK w bp vv2 bc b :=
  fun b hb hlt => ⟨(okS_go hf b hb.1 hlt).1, (okS_go hf b hb.1 hlt).2, hb.2⟩
theorem okK_set {w wr : World} {bp bc j : Nat} {vv : Value} {u : Value} : ∀ b, okK w bp vv bc b → b < wr.heap.size → (wr.setCell ⟨bc, j, none⟩ u).heap[b]? = wr.heap[b]? ∧ okK w bp vv bc b :=
  fun _ hb _ => ⟨Below.heap_setCell _ _ _ _ hb.2.2, hb⟩
theorem okK_of {w w1 wr : World} {bp bc : Nat} {vv : Value} (h1 : w.heap.size < bc) (h2 : bc < w1.heap.size) : ∀ b, okS w1 bp vv b → b < wr.heap.size → wr.heap[b]? = wr.heap[b]? ∧ okK w bp vv bc b :=
  fun b hb _ => ⟨rfl, ⟨by have := hb.1; omega, hb.2⟩, by have := hb.1; omega, by have := hb.1; omega⟩
def HFin (w : World) (bp : Nat) (vv1 : Value) (wr : World) (bc : Nat) (st1 : PS) (i : Nat) (c1 : Value) : R (List Ex) → Prop
  | .ok (l, s) => st1.err = 0 ∧ st1.i = s.1 ∧ st1.vars = s.2 ∧ i < s.1 ∧ s.2.length ≤ 12 ∧ ArgV wr (okK w bp vv1 bc) l c1
  | .error (er, a) => st1.err = er ∧ st1.at_ = a ∧ er ≠ 0
def TFin (w : World) (bp : Nat) (vv1 : Value) (wr : World) (bc : Nat) (st1 : PS) (i : Nat) (l : List Ex) (c1 c2 c3 c4 c5 : Value) : R Bd → Prop
  | .ok (b, s) => st1.err = 0 ∧ st1.i = s.1 ∧ st1.vars = s.2 ∧ i < s.1 ∧ s.2.length ≤ 12 ∧ ArgV wr (okK w bp vv1 bc) l c1 ∧ BRep wr (okK w bp vv1 bc) b [c2, c3, c4, c5]
  | .error (er, a) => st1.err = er ∧ st1.at_ = a ∧ er ≠ 0
theorem ArOk.ok {r : R (List Ex)} {st st' : PS} {w w' : World} {bp : Nat} {vv' : Value} {v : Value} (h : ArOk r st w w' bp vv' st' v) (he : st'.err = 0) :
    ∃ l, r = .ok (l, (st'.i, st'.vars)) ∧ st.i ≤ st'.i ∧ st'.vars.length ≤ 12 ∧ ARep w' (okS w bp vv') l v := by
  cases r with
  | error e => obtain ⟨e1, e2, e3⟩ := h; exact absurd (e1.symm.trans he) e3
  | ok p =>
    obtain ⟨f1, f2, f3, f4, f5, f6⟩ := h
    exact ⟨p.1, by rw [f2, f3], by rw [f2]; exact f4, by rw [f3]; exact f5, f6⟩
theorem ArOk.err {r : R (List Ex)} {st st' : PS} {w w' : World} {bp : Nat} {vv' : Value} {v : Value} (h : ArOk r st w w' bp vv' st' v) (he : st'.err ≠ 0) :
    ∃ a : Nat, r = .error (st'.err, a) ∧ st'.at_ = a := by
  cases r with
  | error e => obtain ⟨e1, e2, e3⟩ := h; exact ⟨e.2, by rw [e1], e2⟩
  | ok p => exact absurd h.1 he
theorem head_open {w wr w3 w4 : World} {bp bc : Nat} {toks : List Tok} {vv3 : Value} {st1 st3 : PS} {i : Nat} {ex : St → R Ex} {v u : Value} {t : Tok} (ht : t = tk toks i) (hi : st1.i = i + 2) (hv : st1.vars = []) (hT : isT (tk toks (i + 1)) [40] = true) (h1 : w.heap.size < bc) (h2 : bc < wr.heap.size)
    (hok : ArOk (argsOf toks ex t.a (st1.i, st1.vars)) st1 wr w3 bp vv3 st3 v) (hf : Fr bp vv3 vv3 (w3.setCell ⟨bc, 1, none⟩ u) w4) :
    HFin w bp vv3 w4 bc (if isB st3 (tk toks st3.i) (B [41]) then st3.pass else st3.fault 2 (tk toks st3.i).a) i v (headOf toks ex i) := by
  have hh : headOf toks ex i = match argsOf toks ex t.a (st1.i, st1.vars) with | .error e => .error e | .ok (l, s) => mustT toks [41] l s := by
    unfold headOf; rw [if_pos hT, hi, hv, ht]
    cases argsOf toks ex (tk toks i).a (i + 2, []) <;> rfl
  rw [hh]
  by_cases e3 : st3.err = 0
  · obtain ⟨l, hr, hi3, hv3, ha⟩ := hok.ok e3
    rw [hr]
    unfold mustT
    dsimp only
    cases hb : isT (tk toks st3.i) [41] with
    | true =>
      rw [isB_eq e3 hb]
      have hi3' : i + 2 ≤ st3.i := by omega
      refine ⟨e3, rfl, rfl, by show i < st3.i + 1; omega, hv3, .inr (ARep.frame (fun b hb hlt => ?_) ha)⟩
      have q := (okK_of (w := w) (bc := bc) h1 h2 b hb hlt).2
      have q2 := okK_set (j := 1) (u := u) b q hlt
      have q3 := okK_go hf b q2.2 (by simpa [World.setCell] using hlt)
      exact ⟨q3.1.trans q2.1, q3.2⟩
    | false =>
      rw [isB_eq e3 hb]
      exact ⟨(fault_new e3).1, (fault_new e3).2, by decide⟩
  · obtain ⟨a, hr, hat⟩ := hok.err e3
    rw [hr, isB_f1 e3, if_neg (by simp), fault_keep e3]
    exact ⟨rfl, hat, e3⟩
theorem head_none {w wr : World} {bp bc : Nat} {toks : List Tok} {vv1 : Value} {st1 : PS} {i : Nat} {ex : St → R Ex} (he : st1.err = 0) (hi : st1.i = i + 1) (hv : st1.vars = []) (hT : isT (tk toks (i + 1)) [40] = false) :
    HFin w bp vv1 wr bc st1 i (.slice none 0 0) (headOf toks ex i) := by
  unfold headOf
  rw [if_neg (by simp [hT])]
  exact ⟨he, hi, hv, by show i < i + 1; omega, by simp, .inl ⟨rfl, rfl⟩⟩
theorem Fr.set7 {bp : Nat} {v0 v1 : Value} {a w : World} (h : Fr bp v0 v1 a w) {b : Nat} (hb : a.heap.size ≤ b) (x0 x1 x2 x3 x4 x5 x6 : Value) : Fr bp v0 v1 a (set7 w b x0 x1 x2 x3 x4 x5 x6) :=
  ((((((h.setNew (p := ⟨b, 0, none⟩) hb x0).setNew (p := ⟨b, 1, none⟩) hb x1).setNew (p := ⟨b, 2, none⟩) hb x2).setNew (p := ⟨b, 3, none⟩) hb x3).setNew (p := ⟨b, 4, none⟩) hb x4).setNew (p := ⟨b, 5, none⟩) hb x5).setNew (p := ⟨b, 6, none⟩) hb x6
theorem PIn.set7 {w : World} {bp : Nat} {toks : List Tok} {lv vv : Value} {st : PS} (h : PIn w bp toks lv vv st) {b : Nat} (h1 : b ≠ bp) (h2 : lv.ownBlock ≠ some b) (h3 : vv.ownBlock ≠ some b) (x0 x1 x2 x3 x4 x5 x6 : Value) : PIn (set7 w b x0 x1 x2 x3 x4 x5 x6) bp toks lv vv st :=
  ((((((h.setOther (a := ⟨b, 0, none⟩) h1 h2 h3).setOther (a := ⟨b, 1, none⟩) h1 h2 h3).setOther (a := ⟨b, 2, none⟩) h1 h2 h3).setOther (a := ⟨b, 3, none⟩) h1 h2 h3).setOther (a := ⟨b, 4, none⟩) h1 h2 h3).setOther (a := ⟨b, 5, none⟩) h1 h2 h3).setOther (a := ⟨b, 6, none⟩) h1 h2 h3
theorem cl_end {w wr : World} {bp : Nat} {toks : List Tok} {lv : Value} {vv1 : Value} {st1 : PS} {i : Nat} {r : R Cl} {n : ByteArray} {a0 : Option Addr} {a1 a2 : Nat} {k : Int} {m : ByteArray} {b0 : Option Addr} {b1 b2 : Nat} {p0 : Option Addr} {p1 p2 : Nat} {v0 : Option Addr} {v1 v2 : Nat}
    (hP : PIn wr bp toks lv vv1 st1) (hfr : Fr bp (.slice none 0 0) vv1 w wr) (hd : st1.deep = 0) (hres : Box w wr vv1 w.heap.size clauseZero 50) (hbp : bp < w.heap.size) (hlv : ∀ b, lv.ownBlock = some b → b < w.heap.size)
    (hok : match r with
      | .ok (c, s') => st1.err = 0 ∧ st1.i = s'.1 ∧ i < s'.1 ∧ CRep wr (fun b => w.heap.size < b ∧ b ≠ bp) c [.string n, .slice a0 a1 a2, .int .u8 k, .string m, .slice b0 b1 b2, .slice p0 p1 p2, .slice v0 v1 v2]
      | .error (er, a) => st1.err = er ∧ st1.at_ = a ∧ er ≠ 0) :
    ClPost bp toks lv i w r (.returned (.agg #[.string n, .slice a0 a1 a2, .int .u8 k, .string m, .slice b0 b1 b2, .slice p0 p1 p2, .slice v0 v1 v2]))
      (set7 wr w.heap.size (.string n) (.slice a0 a1 a2) (.int .u8 k) (.string m) (.slice b0 b1 b2) (.slice p0 p1 p2) (.slice v0 v1 v2)) := by
  refine ⟨_, vv1, st1, rfl, ⟨_, _, _, _, _, _, _, _, _, _, _, _, _, _, _, rfl⟩, hP.set7 (by omega) (fun e => by have := hlv _ e; omega) hres.ne _ _ _ _ _ _ _, hfr.set7 (Nat.le_refl _) _ _ _ _ _ _ _, hd, ?_⟩
  cases r with
  | error e => exact hok
  | ok p =>
    obtain ⟨f1, f2, f3, f4⟩ := hok
    exact ⟨f1, f2, f3, CRep.frame (fun b hb _ => ⟨set7_other _ _ _ _ _ _ _ _ _ _ (by have := hb.1; omega), Nat.le_of_lt hb.1, hb.2⟩) f4⟩
theorem PIn.varV {w : World} {bp : Nat} {toks : List Tok} {lv vv : Value} {st : PS} (h : PIn w bp toks lv vv st) {Ok : Nat → Prop} (ho : ∀ b, vv.ownBlock = some b → Ok b) : VarV w Ok st.vars vv := by
  rcases h.vars.2 with ⟨hn, h0⟩ | ⟨g, cap, cur, hq, r1, r2, r3, r4, r5, r6⟩
  · exact .inl ⟨List.eq_nil_of_length_eq_zero h0, hn⟩
  · exact .inr ⟨g, cap, cur, hq, ho g (by rw [hq]; rfl), r2, r3, r4, by simpa using r5, by simpa using r6⟩
theorem clause_no {toks : List Tok} {ex : St → R Ex} {body : St → R Bd} {i : Nat} (h : (tk toks i).k ≠ 97) : clauseOf toks ex body i = .error (2, (tk toks i).a) := by unfold clauseOf; rw [if_neg h]
theorem clause_herr {toks : List Tok} {ex : St → R Ex} {body : St → R Bd} {i : Nat} {e : Int × Nat} (h : (tk toks i).k = 97) (hh : headOf toks ex i = .error e) : clauseOf toks ex body i = .error e := by unfold clauseOf; rw [if_pos h, hh]
theorem clause_name {toks : List Tok} {ex : St → R Ex} {body : St → R Bd} {i : Nat} {l : List Ex} {s : St} (h : (tk toks i).k = 97) (hh : headOf toks ex i = .ok (l, s)) (hn : 0 ≤ testsN (tk toks i).t ∨ (tk toks i).t.toList = [109, 111, 100]) :
    clauseOf toks ex body i = .error (3, (tk toks i).a) := by unfold clauseOf; rw [if_pos h, hh]; simp only [hn, if_true]
theorem clause_rest {toks : List Tok} {ex : St → R Ex} {body : St → R Bd} {i : Nat} {l : List Ex} {s : St} (h : (tk toks i).k = 97) (hh : headOf toks ex i = .ok (l, s)) (hn : ¬ (0 ≤ testsN (tk toks i).t ∨ (tk toks i).t.toList = [109, 111, 100])) :
    clauseOf toks ex body i = pointOf toks (tk toks i).t l (tailOf toks body s) := by unfold clauseOf; rw [if_pos h, hh]; simp only [hn, if_false]
theorem HFin.ok {w : World} {bp : Nat} {vv1 : Value} {wr : World} {bc : Nat} {st1 : PS} {i : Nat} {c1 : Value} {r : R (List Ex)} (h : HFin w bp vv1 wr bc st1 i c1 r) (he : st1.err = 0) :
    ∃ l, r = .ok (l, (st1.i, st1.vars)) ∧ i < st1.i ∧ st1.vars.length ≤ 12 ∧ ArgV wr (okK w bp vv1 bc) l c1 := by
  cases r with
  | error e => obtain ⟨e1, e2, e3⟩ := h; exact absurd (e1.symm.trans he) e3
  | ok p =>
    obtain ⟨f1, f2, f3, f4, f5, f6⟩ := h
    exact ⟨p.1, by rw [f2, f3], by rw [f2]; exact f4, by rw [f3]; exact f5, f6⟩
theorem HFin.err {w : World} {bp : Nat} {vv1 : Value} {wr : World} {bc : Nat} {st1 : PS} {i : Nat} {c1 : Value} {r : R (List Ex)} (h : HFin w bp vv1 wr bc st1 i c1 r) (he : st1.err ≠ 0) : ∃ a : Nat, r = .error (st1.err, a) ∧ st1.at_ = a := by
  cases r with
  | error e => obtain ⟨e1, e2, e3⟩ := h; exact ⟨e.2, by rw [e1], e2⟩
  | ok p => exact absurd h.1 he
theorem TFin.ok {w : World} {bp : Nat} {vv1 : Value} {wr : World} {bc : Nat} {st1 : PS} {i : Nat} {l : List Ex} {c1 c2 c3 c4 c5 : Value} {r : R Bd} (h : TFin w bp vv1 wr bc st1 i l c1 c2 c3 c4 c5 r) (he : st1.err = 0) :
    ∃ b, r = .ok (b, (st1.i, st1.vars)) ∧ i < st1.i ∧ st1.vars.length ≤ 12 ∧ ArgV wr (okK w bp vv1 bc) l c1 ∧ BRep wr (okK w bp vv1 bc) b [c2, c3, c4, c5] := by
  cases r with
  | error e => obtain ⟨e1, e2, e3⟩ := h; exact absurd (e1.symm.trans he) e3
  | ok p =>
    obtain ⟨f1, f2, f3, f4, f5, f6⟩ := h
    exact ⟨p.1, by rw [f2, f3], by rw [f2]; exact f4, by rw [f3]; exact f5, f6⟩
theorem TFin.err {w : World} {bp : Nat} {vv1 : Value} {wr : World} {bc : Nat} {st1 : PS} {i : Nat} {l : List Ex} {c1 c2 c3 c4 c5 : Value} {r : R Bd} (h : TFin w bp vv1 wr bc st1 i l c1 c2 c3 c4 c5 r) (he : st1.err ≠ 0) : ∃ a : Nat, r = .error (st1.err, a) ∧ st1.at_ = a := by
  cases r with
  | error e => obtain ⟨e1, e2, e3⟩ := h; exact ⟨e.2, by rw [e1], e2⟩
  | ok p => exact absurd h.1 he
theorem CR.last {w : World} {bp : Nat} {toks : List Tok} {lv : Value} {wr : World} {vv1 : Value} {st1 : PS} {bt bc : Nat} {t : Tok} {c1 c2 c3 c4 c5 : Value} (h : CR w bp toks lv wr vv1 st1 bt bc t c1 c2 c3 c4 c5) (u : Value) :
    PIn (wr.setCell ⟨bc, 6, none⟩ u) bp toks lv vv1 st1 ∧ Fr bp (.slice none 0 0) vv1 w (wr.setCell ⟨bc, 6, none⟩ u) ∧ Box w (wr.setCell ⟨bc, 6, none⟩ u) vv1 w.heap.size clauseZero 50 := by
  have q1 := h.lt1
  have q2 := h.lt2
  have q3 := h.bpold
  exact ⟨h.P.setOther (a := ⟨bc, 6, none⟩) (by show bc ≠ bp; omega) (fun e => by have := h.lvold _ e; have : bc < w.heap.size := this; omega) h.cb.ne, h.fr.setNew (p := ⟨bc, 6, none⟩) (by show w.heap.size ≤ bc; omega) u, h.res.other (by show w.heap.size ≠ bc; omega)⟩
theorem BrOk.tail {w wr w3 : World} {bp bc : Nat} {vv1 vv3 : Value} {st1 st3 : PS} {i : Nat} {r : R Bd} {l : List Ex} {c1 : Value} {z0 : Int} {z1 : ByteArray} {z2 z5 : Option Addr} {z3 z4 z6 z7 : Nat} {w4 : World} (h1 : w.heap.size < bc) (h2 : bc < wr.heap.size) (hi : i < st1.i) (ha : ArgV wr (okK w bp vv1 bc) l c1) (hfr : Fr bp vv1 vv3 wr w3) (hw : ∀ b, b ≠ bc → w4.heap[b]? = w3.heap[b]?)
    (hok : BrOk r st1 wr w3 bp vv3 st3 [.int .u8 z0, .string z1, .slice z2 z3 z4, .slice z5 z6 z7]) : TFin w bp vv3 w4 bc st3 i l c1 (.int .u8 z0) (.string z1) (.slice z2 z3 z4) (.slice z5 z6 z7) r := by
  by_cases e3 : st3.err = 0
  · obtain ⟨b, hr, hi3, hv3, hb⟩ := hok.ok e3
    rw [hr]
    refine ⟨e3, rfl, rfl, by show i < st3.i; omega, hv3, ArgV.frame (fun b hb hlt => ?_) ha, BRep.frame (fun b hb hlt => ?_) hb⟩
    · have q := okK_go hfr b hb hlt
      exact ⟨(hw b hb.2.2).trans q.1, q.2⟩
    · have q := (okK_of (w := w) (bc := bc) (vv := vv3) h1 h2 b hb hlt).2
      exact ⟨hw b q.2.2, q⟩
  · obtain ⟨a, hr, hat⟩ := hok.err e3
    rw [hr]
    exact ⟨rfl, hat, e3⟩
theorem clause_any {toks : List Tok} {ex : St → R Ex} {body : St → R Bd} (hg : GoodToks toks) (hx : Reads 64 toks 0 ex) (hb : ReadsB 51 toks 0 body)
    (w : World) (bp : Nat) (lv vv : Value) (st : PS) (h : PIn w bp toks lv vv st) (he : st.err = 0) (hd : st.deep = 0) :
    Calls Tryz.prog 69 #[.pointer (some ⟨bp, 0, none⟩)] w fun e w' => ClPost bp toks lv st.i w (clauseOf toks ex body st.i) e w' := by
  have HX := hide hx
  have HB := hide hb
  clear hx hb
  have hc2 := h.c2
  have hf2 := h.fz 2
  have hbpz := h.lt_size
  have hlv : ∀ b, lv.ownBlock = some b → b < w.heap.size := fun b e => h.blt b (.inr (.inl e))
  have hPa := h.anew.alloc (.cells clauseZero 50)
  have hFa : Fr bp (.slice none 0 0) (.slice none 0 0) w ((w.setCell ⟨bp, 2, none⟩ (.slice none 0 0)).alloc (.cells clauseZero 50)) := ((Fr.refl _ _ _).setBp _ _).alloc _
  have hsz : (w.setCell ⟨bp, 2, none⟩ (.slice none 0 0)).heap.size = w.heap.size := by simp [World.setCell]
  have hRa : Box w ((w.setCell ⟨bp, 2, none⟩ (.slice none 0 0)).alloc (.cells clauseZero 50)) (.slice none 0 0) w.heap.size clauseZero 50 := by
    refine ⟨?_, Nat.le_refl _, by simp [Value.ownBlock]⟩
    have := heap_alloc_new (w.setCell ⟨bp, 2, none⟩ (.slice none 0 0)) (.cells clauseZero 50)
    rw [hsz] at this
    exact this
  have HS := hide hsz
  clear hsz
  obtain ⟨t, ht⟩ : ∃ t, t = tk toks st.i := ⟨_, rfl⟩
  have HTK := hide ht
  have HN := hide (next_any hPa hg)
  have hsti : ({ st with vars := [] } : PS).i = st.i := rfl
  rw [hsti, ← ht] at HN
  clear ht hsti
  obtain ⟨total, htot⟩ : ∃ t, clauseOf toks ex body st.i = t := ⟨_, rfl⟩
  have HT := hide htot
  rw [htot]
  clear htot
  go_enter Tryz.func69, Tryz.ntmps69
  go_wp2_with fail
  refine HN.out.mono ?_
  rintro e w1 ⟨rfl, hb1⟩
  unfold tokV
  have hP1 := hPa.below hb1
  have hF1 := hFa.trans (Fr.of_below hb1)
  have hR1 := hRa.go (Fr.of_below (bp := bp) hb1) hbpz
  have hs1 : w.heap.size < w1.heap.size := hR1.lt
  have hT1 := Box.mk' (w0 := w) hP1 (Nat.le_of_lt hs1) #[.int .u8 t.k, .string t.t, .int .i64 t.a] 133
  by_cases hk : t.k = 97
  · have hk' : (t.k == 97) = true := by simpa using hk
    have p1 := hP1.c1
    have pf := hP1.fz 1
    have hlt := hP1.lt
    have hsm := hg.small
    have hnx : st.i + 1 < toks.length := hg.next hlt (by show (tk toks st.i).k ≠ 101; rw [← HTK.out, hk]; decide)
    have hzp : bp < w1.heap.size := hP1.lt_size
    have hP2 := ((hP1.pass hnx).alloc (.cells #[.int .u8 t.k, .string t.t, .int .i64 t.a] 133)).alloc (.cells #[.string t.t, .slice none 0 0, .int .u8 103, .string (B [116, 114, 117, 101]), .slice none 0 0, .slice none 0 0, .slice none 0 0] 50)
    have hfp : Fr bp (.slice none 0 0) (.slice none 0 0) w1 (((w1.setCell ⟨bp, 1, none⟩ (.int .i64 ((st.i : Int) + 1))).alloc (.cells #[.int .u8 t.k, .string t.t, .int .i64 t.a] 133)).alloc (.cells #[.string t.t, .slice none 0 0, .int .u8 103, .string (B [116, 114, 117, 101]), .slice none 0 0, .slice none 0 0, .slice none 0 0] 50)) :=
      (((Fr.refl _ _ _).setBp _ _).alloc _).alloc _
    have hC2 : CR w bp toks lv (((w1.setCell ⟨bp, 1, none⟩ (.int .i64 ((st.i : Int) + 1))).alloc (.cells #[.int .u8 t.k, .string t.t, .int .i64 t.a] 133)).alloc (.cells #[.string t.t, .slice none 0 0, .int .u8 103, .string (B [116, 114, 117, 101]), .slice none 0 0, .slice none 0 0, .slice none 0 0] 50)) (.slice none 0 0) ({ st with vars := [] } : PS).pass w1.heap.size (w1.heap.size + 1) t (.slice none 0 0) (.int .u8 103) (.string (B [116, 114, 117, 101])) (.slice none 0 0) (.slice none 0 0) := by
      refine ⟨hP2, hF1.trans hfp, hd, hR1.go hfp hbpz, ?_, ?_, hs1, by omega, hbpz, hlv⟩
      · refine ⟨?_, Nat.le_of_lt hs1, by simp [Value.ownBlock]⟩
        have q := heap_alloc_new (w1.setCell ⟨bp, 1, none⟩ (.int .i64 ((st.i : Int) + 1))) (.cells #[.int .u8 t.k, .string t.t, .int .i64 t.a] 133)
        rw [show (w1.setCell ⟨bp, 1, none⟩ (.int .i64 ((st.i : Int) + 1))).heap.size = w1.heap.size by simp [World.setCell]] at q
        rw [Below.heap_alloc _ _ _ (by simp [World.setCell])]
        exact q
      · refine ⟨?_, by omega, by simp [Value.ownBlock]⟩
        have q := heap_alloc_new ((w1.setCell ⟨bp, 1, none⟩ (.int .i64 ((st.i : Int) + 1))).alloc (.cells #[.int .u8 t.k, .string t.t, .int .i64 t.a] 133)) (.cells #[.string t.t, .slice none 0 0, .int .u8 103, .string (B [116, 114, 117, 101]), .slice none 0 0, .slice none 0 0, .slice none 0 0] 50)
        rw [show ((w1.setCell ⟨bp, 1, none⟩ (.int .i64 ((st.i : Int) + 1))).alloc (.cells #[.int .u8 t.k, .string t.t, .int .i64 t.a] 133)).heap.size = w1.heap.size + 1 by simp [World.setCell]] at q
        exact q
    have HK := hide hk
    clear hk
    go_wp2_with fail
    refine (is_any hC2.P hg (B [40])).mono ?_
    rintro e w2 ⟨b, rfl, hb, hP3, hfr3⟩
    have hC3 := hC2.go hP3 hfr3 (by split <;> rfl)
    have HBT : Hid (b = isT (tk toks (st.i + 1)) [40]) := by unfold Hid; rw [hb]; exact isB_eq (s := [40]) he rfl
    clear hb
    go_upto_if 32 with fail
    go_cut [] (fun wx => ∃ ao n cap vv3 st3, CR w bp toks lv wx vv3 st3 w1.heap.size (w1.heap.size + 1) t (.slice ao n cap) (.int .u8 103) (.string (B [116, 114, 117, 101])) (.slice none 0 0) (.slice none 0 0) ∧ HFin w bp vv3 wx (w1.heap.size + 1) st3 st.i (.slice ao n cap) (headOf toks ex st.i))
    case first =>
      cases b with
      | false =>
        go_wp2_with fail
        go_meet
        case rel => exact ⟨none, 0, 0, _, _, hC3, head_none he rfl rfl HBT.out.symm⟩
      | true =>
        obtain ⟨k0, k1, k2, kf⟩ := box3 hC3.tb.at_
        have hkz := hC3.tb.lt
        have hP3' := hP3
        go_wp2_with fail
        refine (args_any hg HX.out _ _ _ _ _ t.a hP3' he (by simp [PS.pass]) hd).mono ?_
        rintro e w4 ⟨ao, n, cap, vv4, st4, rfl, hP4, hfr4, hdp4, hok4⟩
        have hC4' := hC3.go hP4 hfr4 hdp4
        have hC4 := hC4'.set 1 (.slice ao n cap) (.slice ao n cap) (.int .u8 103) (.string (B [116, 114, 117, 101])) (.slice none 0 0) (.slice none 0 0) rfl
        obtain ⟨m0, m1, m2, m3, m4, m5, m6, mf⟩ := box7 hC4'.cb.at_
        have hmz := hC4'.cb.lt
        go_wp2_with fail
        refine (must_any hC4.P hg (B [41])).mono ?_
        rintro e w5 ⟨rfl, hP5, hfr5⟩
        have hH := head_open (w := w) HTK.out (st1 := ({ st with vars := [] } : PS).pass.pass) rfl rfl HBT.out.symm (by omega) hC3.cb.lt hok4 hfr5
        go_wp2_with fail
        go_meet
        case rel => exact ⟨ao, n, cap, vv4, _, hC4.go hP5 hfr5 (must_deep _ _ _ _), hH⟩
    case rest =>
      obtain ⟨ao, n, cap, vv3, st3, hC, hH⟩ := hcut
      obtain ⟨k0, k1, k2, kf⟩ := box3 hC.tb.at_
      have hkz := hC.tb.lt
      have hpz := hC.P.lt_size
      have p4 := hC.P.c4
      have HH := hide hH
      clear hH HBT hP3 hC3 hfr3
      go_upto_region 13 with (go_at_call 103; refine (tests_any _ _).mono ?_; rintro e w7 ⟨rfl, rfl⟩)
      go_cut [6, 56] (fun _ b wx => b = .bool (st3.err == 0 && (decide (0 ≤ testsN t.t) || t.t.toList == [109, 111, 100])) ∧ CR w bp toks lv wx vv3 st3 w1.heap.size (w1.heap.size + 1) t (.slice ao n cap) (.int .u8 103) (.string (B [116, 114, 117, 101])) (.slice none 0 0) (.slice none 0 0) ∧ HFin w bp vv3 wx (w1.heap.size + 1) st3 st.i (.slice ao n cap) (headOf toks ex st.i))
      case first =>
        go_wp2_with fail
        all_goals
          go_meet
          case rel => refine ⟨?_, hC, HH.out⟩; simp [*]
      case rest =>
        clear hC k0 k1 k2 kf hkz hpz p4 HH
        obtain ⟨rfl, hC, hH⟩ := hcut
        obtain ⟨k0, k1, k2, kf⟩ := box3 hC.tb.at_
        have hkz := hC.tb.lt
        have hpz := hC.P.lt_size
        have HH := hide hH
        clear hH
        by_cases hbad : st3.err = 0 ∧ (0 ≤ testsN t.t ∨ t.t.toList = [109, 111, 100])
        · have hbb : (st3.err == 0 && (decide (0 ≤ testsN t.t) || t.t.toList == [109, 111, 100])) = true := by
            obtain ⟨q1, q2⟩ := hbad
            simp only [q1, beq_self_eq_true, Bool.true_and, Bool.or_eq_true, decide_eq_true_eq, beq_iff_eq]
            exact q2
          rw [hbb]
          have HBAD := hide hbad
          clear hbb hbad
          go_wp2_with fail
          refine (fault_any hC.P 3 t.a).mono ?_
          rintro e w9 ⟨rfl, hP9, hfr9⟩
          have hC9 := hC.go hP9 hfr9 (PS.fault_deep _ _ _)
          obtain ⟨m0, m1, m2, m3, m4, m5, m6, mf⟩ := box7 hC9.cb.at_
          obtain ⟨d0, d1, d2, d3, d4, d5, d6, df⟩ := box7 hC9.res.at_
          have hmz := hC9.cb.lt
          have p4 := hP9.c4
          rw [(fault_new HBAD.out.1).1] at p4
          have hE := cl_end (r := total) (i := st.i) hP9 hC9.fr hC9.deep hC9.res hbpz hlv (n := t.t) (a0 := ao) (a1 := n) (a2 := cap) (k := 103) (m := B [116, 114, 117, 101]) (b0 := none) (b1 := 0) (b2 := 0) (p0 := none) (p1 := 0) (p2 := 0) (v0 := none) (v1 := 0) (v2 := 0) (by
            obtain ⟨l, hr, _⟩ := HH.out.ok HBAD.out.1
            rw [← HT.out, clause_name (by rw [← HTK.out]; exact HK.out) hr (by rw [← HTK.out]; exact HBAD.out.2), ← HTK.out]
            exact ⟨(fault_new HBAD.out.1).1, (fault_new HBAD.out.1).2, by decide⟩)
          go_wp2_with fail
          exact bodyPost_ret (v := .agg #[.string t.t, .slice ao n cap, .int .u8 103, .string (B [116, 114, 117, 101]), .slice none 0 0, .slice none 0 0, .slice none 0 0]) (by simp [results, Tryz.results69, go_sem, d0, d1, d2, d3, d4, d5, d6]) rfl hE
        · have hbb : (st3.err == 0 && (decide (0 ≤ testsN t.t) || t.t.toList == [109, 111, 100])) = false := by
            cases hq : (st3.err == 0 && (decide (0 ≤ testsN t.t) || t.t.toList == [109, 111, 100])) with
            | false => rfl
            | true =>
              simp only [Bool.and_eq_true, beq_iff_eq, Bool.or_eq_true, decide_eq_true_eq] at hq
              exact absurd hq hbad
          rw [hbb]
          have HBAD := hide hbad
          clear hbb hbad
          by_cases e3 : st3.err = 0
          · have p4 := hC.P.c4
            rw [e3] at p4
            obtain ⟨l, hr, hi3, hv3, ha3⟩ := HH.out.ok e3
            have HT2 : Hid (pointOf toks t.t l (tailOf toks body (st3.i, st3.vars)) = total) := by
              unfold Hid; rw [← HT.out, clause_rest (by rw [← HTK.out]; exact HK.out) hr (by rw [← HTK.out]; exact fun q => HBAD.out ⟨e3, q⟩), ← HTK.out]
            clear hr HH HT HBAD
            go_wp2_with fail
            refine (is_any hC.P hg (B [58, 45])).mono ?_
            rintro e w5 ⟨b, rfl, hb, hP5, hfr5⟩
            have hC5 := hC.go hP5 hfr5 (by split <;> rfl)
            have HBT : Hid (b = isT (tk toks st3.i) [58, 45]) := by unfold Hid; rw [hb]; exact isB_eq (s := [58, 45]) e3 rfl
            have ha5 := ha3.frame (okK_go hfr5)
            clear hb k0 k1 k2 kf hkz hpz p4
            go_upto_if 69 with fail
            go_cut [] (fun wx => ∃ z0 z1 z2 z3 z4 z5 z6 z7 vv6 st6, CR w bp toks lv wx vv6 st6 w1.heap.size (w1.heap.size + 1) t (.slice ao n cap) (.int .u8 z0) (.string z1) (.slice z2 z3 z4) (.slice z5 z6 z7) ∧ TFin w bp vv6 wx (w1.heap.size + 1) st6 st.i l (.slice ao n cap) (.int .u8 z0) (.string z1) (.slice z2 z3 z4) (.slice z5 z6 z7) (tailOf toks body (st3.i, st3.vars)))
            case first =>
              cases b with
              | false =>
                go_wp2_with fail
                go_meet
                case rel =>
                  refine ⟨_, _, _, _, _, _, _, _, _, _, hC5, ?_⟩
                  have hq : tailOf toks body (st3.i, st3.vars) = .ok (trueB, (st3.i, st3.vars)) := by
                    unfold tailOf; rw [if_neg (by show ¬ isT (tk toks st3.i) [58, 45] = true; rw [← HBT.out]; simp)]
                  rw [hq]
                  exact ⟨e3, rfl, rfl, hi3, hv3, ha5, .mk _ _ _ _ _ _ (.inl ⟨rfl, rfl⟩) .none⟩
              | true =>
                obtain ⟨m0, m1, m2, m3, m4, m5, m6, mf⟩ := box7 hC5.cb.at_
                go_wp2_with fail
                refine (HB.out _ _ _ _ _ hP5 e3 hv3 hC5.deep).mono ?_
                rintro e w6 ⟨cs6, vv6, st6, rfl, ⟨z0, z1, z2, z3, z4, z5, z6, z7, rfl⟩, hP6, hfr6, hdp6, hok6⟩
                have hC6 := hC5.go hP6 hfr6 hdp6
                have hC7 := ((hC6.set 2 (.int .u8 z0) _ (.int .u8 z0) _ _ _ rfl).set 3 (.string z1) _ _ (.string z1) _ _ rfl).set 4 (.slice z2 z3 z4) _ _ _ (.slice z2 z3 z4) _ rfl |>.set 5 (.slice z5 z6 z7) _ _ _ _ (.slice z5 z6 z7) rfl
                obtain ⟨m0, m1, m2, m3, m4, m5, m6, mf⟩ := box7 hC6.cb.at_
                have hmz := hC6.cb.lt
                have hTF : TFin w bp vv6 ((((w6.setCell ⟨w1.heap.size + 1, 2, none⟩ (.int .u8 z0)).setCell ⟨w1.heap.size + 1, 3, none⟩ (.string z1)).setCell ⟨w1.heap.size + 1, 4, none⟩ (.slice z2 z3 z4)).setCell ⟨w1.heap.size + 1, 5, none⟩ (.slice z5 z6 z7)) (w1.heap.size + 1) st6 st.i l (.slice ao n cap) (.int .u8 z0) (.string z1) (.slice z2 z3 z4) (.slice z5 z6 z7) (tailOf toks body (st3.i, st3.vars)) := by
                  have hq : tailOf toks body (st3.i, st3.vars) = body (st3.i + 1, st3.vars) := by
                    unfold tailOf; rw [if_pos (by show isT (tk toks st3.i) [58, 45] = true; rw [← HBT.out])]
                  rw [hq]
                  refine BrOk.tail (st1 := st3.pass) (by omega) hC5.cb.lt (Nat.lt_succ_of_lt hi3) ha5 hfr6 (fun b hb => ?_) hok6
                  rw [Below.heap_setCell _ _ _ _ hb, Below.heap_setCell _ _ _ _ hb, Below.heap_setCell _ _ _ _ hb, Below.heap_setCell _ _ _ _ hb]
                have HTF := hide hTF
                clear hok6 hTF
                go_wp2_with fail
                go_meet
                case rel => exact ⟨_, _, _, _, _, _, _, _, _, _, hC7, HTF.out⟩
            case rest =>
              clear hC hC5 hP5 hfr5 ha3 ha5 HBT
              obtain ⟨z0, z1, z2, z3, z4, z5, z6, z7, vv6, st6, hC, hTF⟩ := hcut
              have HTF := hide hTF
              clear hTF
              obtain ⟨vo, vcap, hvv⟩ := row_form hC.P.vars
              by_cases e6 : st6.err = 0
              · have p4 := hC.P.c4
                rw [e6] at p4
                have hpz := hC.P.lt_size
                go_wp2_with fail
                refine (must_any hC.P hg (B [46])).mono ?_
                rintro e w9 ⟨rfl, hP9, hfr9⟩
                have hC9 := hC.go hP9 hfr9 (must_deep _ _ _ _)
                obtain ⟨m0, m1, m2, m3, m4, m5, m6, mf⟩ := box7 hC9.cb.at_
                obtain ⟨d0, d1, d2, d3, d4, d5, d6, df⟩ := box7 hC9.res.at_
                have hmz := hC9.cb.lt
                have hpz9 := hC9.P.lt_size
                have p2 := hC9.P.c2
                obtain ⟨hL1, hL2, hL3⟩ := hC9.last vv6
                have hE := cl_end (r := total) (i := st.i) hL1 hL2 hC9.deep hL3 hbpz hlv (n := t.t) (a0 := ao) (a1 := n) (a2 := cap) (k := z0) (m := z1) (b0 := z2) (b1 := z3) (b2 := z4) (p0 := z5) (p1 := z6) (p2 := z7) (v0 := vo) (v1 := st6.vars.length) (v2 := vcap) (by
                  obtain ⟨b, hr, hi6, hv6, ha6, hb6⟩ := HTF.out.ok e6
                  rw [← HT2.out, hr]
                  unfold pointOf mustT
                  dsimp only
                  cases hb : isT (tk toks st6.i) [46] with
                  | true =>
                    rw [isB_eq e6 hb]
                    have hfv := hC9.fr
                    have fr1 : ∀ q, okK w bp vv6 (w1.heap.size + 1) q → q < _ → (w9.setCell ⟨w1.heap.size + 1, 6, none⟩ vv6).heap[q]? = _ ∧ (w.heap.size < q ∧ q ≠ bp) := fun q hq hlt => by
                      have s1 := okK_go hfr9 q hq hlt
                      have s2 := okK_set (j := 6) (u := vv6) q s1.2 (Nat.lt_of_lt_of_le hlt hfr9.size)
                      exact ⟨s2.1.trans s1.1, by have := hq.1.1; have := hq.2.1; omega, hq.1.2.1⟩
                    refine ⟨e6, rfl, Nat.lt_succ_of_lt hi6, _, _, _, _, _, _, rfl, ha6.frame fr1, hb6.frame fr1, ?_⟩
                    rw [← hvv]
                    have := (hL1.varV (Ok := fun q => w.heap.size < q ∧ q ≠ bp) (fun q hq => by
                      have s1 : w.heap.size ≤ q := by
                        rcases hfv.vnew q hq with r | r
                        · simp [Value.ownBlock] at r
                        · exact r
                      have s2 : q ≠ w.heap.size := fun r => hL3.ne (by rw [← r]; exact hq)
                      exact ⟨by omega, by omega⟩))
                    rw [isB_eq e6 hb] at this
                    exact this
                  | false =>
                    rw [isB_eq e6 hb]
                    exact ⟨(fault_new e6).1, (fault_new e6).2, by decide⟩)
                rw [← hvv] at hE
                have HE := hide hE
                clear hE
                subst hvv
                go_wp2_with fail
                exact bodyPost_ret (v := .agg #[.string t.t, .slice ao n cap, .int .u8 z0, .string z1, .slice z2 z3 z4, .slice z5 z6 z7, .slice vo st6.vars.length vcap]) (by simp [results, Tryz.results69, go_sem, d0, d1, d2, d3, d4, d5, d6]) rfl HE.out
              · have p4 := hC.P.c4
                have e6' : (st6.err == 0) = false := by simpa using e6
                have hpz := hC.P.lt_size
                obtain ⟨m0, m1, m2, m3, m4, m5, m6, mf⟩ := box7 hC.cb.at_
                obtain ⟨d0, d1, d2, d3, d4, d5, d6, df⟩ := box7 hC.res.at_
                have hmz := hC.cb.lt
                have p2 := hC.P.c2
                obtain ⟨hL1, hL2, hL3⟩ := hC.last vv6
                have hE := cl_end (r := total) (i := st.i) hL1 hL2 hC.deep hL3 hbpz hlv (n := t.t) (a0 := ao) (a1 := n) (a2 := cap) (k := z0) (m := z1) (b0 := z2) (b1 := z3) (b2 := z4) (p0 := z5) (p1 := z6) (p2 := z7) (v0 := vo) (v1 := st6.vars.length) (v2 := vcap) (by
                  obtain ⟨a, hr, hat⟩ := HTF.out.err e6
                  rw [← HT2.out, hr]
                  exact ⟨rfl, hat, e6⟩)
                rw [← hvv] at hE
                have HE := hide hE
                clear hE
                subst hvv
                go_wp2_with fail
                exact bodyPost_ret (v := .agg #[.string t.t, .slice ao n cap, .int .u8 z0, .string z1, .slice z2 z3 z4, .slice z5 z6 z7, .slice vo st6.vars.length vcap]) (by simp [results, Tryz.results69, go_sem, d0, d1, d2, d3, d4, d5, d6]) rfl HE.out
          · have p4 := hC.P.c4
            have e3' : (st3.err == 0) = false := by simpa using e3
            obtain ⟨m0, m1, m2, m3, m4, m5, m6, mf⟩ := box7 hC.cb.at_
            obtain ⟨d0, d1, d2, d3, d4, d5, d6, df⟩ := box7 hC.res.at_
            have hmz := hC.cb.lt
            have hE := cl_end (r := total) (i := st.i) hC.P hC.fr hC.deep hC.res hbpz hlv (n := t.t) (a0 := ao) (a1 := n) (a2 := cap) (k := 103) (m := B [116, 114, 117, 101]) (b0 := none) (b1 := 0) (b2 := 0) (p0 := none) (p1 := 0) (p2 := 0) (v0 := none) (v1 := 0) (v2 := 0) (by
              obtain ⟨a, hr, hat⟩ := HH.out.err e3
              rw [← HT.out, clause_herr (by rw [← HTK.out]; exact HK.out) hr]
              exact ⟨rfl, hat, e3⟩)
            go_wp2_with fail
            exact bodyPost_ret (v := .agg #[.string t.t, .slice ao n cap, .int .u8 103, .string (B [116, 114, 117, 101]), .slice none 0 0, .slice none 0 0, .slice none 0 0]) (by simp [results, Tryz.results69, go_sem, d0, d1, d2, d3, d4, d5, d6]) rfl hE
  · have hk' : (t.k == 97) = false := by simpa using hk
    have hP1' := hP1.alloc (.cells #[.int .u8 t.k, .string t.t, .int .i64 t.a] 133)
    go_wp2_with fail
    refine (none_any hP1' hg).mono ?_
    rintro e w3 ⟨rfl, hP3, hfr3⟩
    have hfr13 := ((Fr.refl bp (.slice none 0 0) w1).alloc (.cells #[.int .u8 t.k, .string t.t, .int .i64 t.a] 133)).trans hfr3
    have hR3 := hR1.go hfr13 hbpz
    obtain ⟨d0, d1, d2, d3, d4, d5, d6, df⟩ := box7 hR3.at_
    have hE := cl_end (r := total) (i := st.i) hP3 (hF1.trans hfr13) ((PS.fault_deep _ _ _).trans hd) hR3 hbpz hlv (n := ByteArray.empty) (a0 := none) (a1 := 0) (a2 := 0) (k := 0) (m := ByteArray.empty) (b0 := none) (b1 := 0) (b2 := 0) (p0 := none) (p1 := 0) (p2 := 0) (v0 := none) (v1 := 0) (v2 := 0) (by
      rw [← HT.out, clause_no (by rw [← HTK.out]; exact hk)]
      exact ⟨(fault_new (st := { st with vars := [] }) he).1, (fault_new (st := { st with vars := [] }) he).2, by decide⟩)
    go_wp2_with fail
    exact bodyPost_ret (v := .agg #[.string ByteArray.empty, .slice none 0 0, .int .u8 0, .string ByteArray.empty, .slice none 0 0, .slice none 0 0, .slice none 0 0]) (by simp [results, Tryz.results69, go_sem, d0, d1, d2, d3, d4, d5, d6]; rfl) rfl hE
inductive CRepL (w : World) (Ok : Nat → Prop) : List Cl → List Value → Prop
  | nil : CRepL w Ok [] []
  | cons (x : Cl) (l : List Cl) (a b : List Value) : CRep w Ok x a → CRepL w Ok l b → CRepL w Ok (x :: l) (a ++ b)
theorem CRepL.frame {w w' : World} {Ok Ok' : Nat → Prop} (hf : ∀ b, Ok b → b < w.heap.size → w'.heap[b]? = w.heap[b]? ∧ Ok' b) : ∀ {l : List Cl} {cs : List Value}, CRepL w Ok l cs → CRepL w' Ok' l cs
  | _, _, .nil => .nil
  | _, _, .cons x l a b hx hl => .cons x l a b (hx.frame hf) (CRepL.frame hf hl)
theorem CRepL.snoc {w : World} {Ok : Nat → Prop} : ∀ {l : List Cl} {cs : List Value} {x : Cl} {a : List Value}, CRepL w Ok l cs → CRep w Ok x a → CRepL w Ok (l ++ [x]) (cs ++ a)
  | _, _, x, a, .nil, h => by simpa using CRepL.cons x [] a [] h .nil
  | _, _, x, a, .cons y l c d hy hl, h => by
    have := CRepL.cons y (l ++ [x]) c (d ++ a) hy (CRepL.snoc hl h)
    simpa using this
theorem CRep.len {w : World} {Ok : Nat → Prop} {c : Cl} {cs : List Value} (h : CRep w Ok c cs) : cs.length = 7 := by
  obtain ⟨av, k, m, ba, bq, vv, rfl, _⟩ := h; rfl
theorem CRep.shape {w : World} {Ok : Nat → Prop} {c : Cl} {cs : List Value} (h : CRep w Ok c cs) : Shape7 cs := by
  obtain ⟨av, k, m, ba, bq, vv, rfl, h1, h2, h3⟩ := h
  obtain ⟨a, q, rfl⟩ := h1.form
  obtain ⟨_, _, _, _, _, _, _, _, e⟩ := h2.shape
  have hv : ∃ a n q, vv = .slice a n q := by
    rcases h3 with ⟨_, rfl⟩ | ⟨g, cap, _, rfl, _⟩
    · exact ⟨_, _, _, rfl⟩
    · exact ⟨_, _, _, rfl⟩
  obtain ⟨_, _, _, rfl⟩ := hv
  cases e
  exact ⟨_, _, _, _, _, _, _, _, _, _, _, _, _, _, _, rfl⟩
structure ProgAt (w : World) (bp : Nat) (toks : List Tok) (lv : Value) (v : Value) (wr : World) (cs : List Value) (n : Nat) (vv1 : Value) (st1 : PS) : Prop where
  P : PIn wr bp toks lv vv1 st1
  below : Below w.heap.size w wr
  deep : st1.deep = 0
  own : wr.ownsRow w.heap.size 50 7 v n cs
  vne : ∀ b, v.ownBlock = some b → b ≠ bp ∧ lv.ownBlock ≠ some b ∧ vv1.ownBlock ≠ some b
  small : n ≤ 40
  bpnew : w.heap.size ≤ bp
  vnew : ∀ b, vv1.ownBlock = some b → w.heap.size ≤ b
theorem own_bl {w w' : World} {base : Nat} {T : TypeId} {sz n : Nat} {v : Value} {xs : List Value} (h : w.ownsRow base T sz v n xs) (hb : Below w.heap.size w w') : w'.ownsRow base T sz v n xs := by
  refine ⟨h.1, ?_⟩
  rcases h.2 with hq | ⟨g, cap, cur, hq, r1, r2, r3⟩
  · exact .inl hq
  · exact .inr ⟨g, cap, cur, hq, r1, (hb.block g (Array.getElem?_eq_some_iff.1 r2).1).trans r2, r3⟩
theorem vnil (v : Value) : v.ownBlock = none ∨ (Value.slice none 0 0).ownBlock ≠ v.ownBlock := by
  cases h : v.ownBlock with
  | none => exact .inl rfl
  | some b => right; simp [Value.ownBlock]
def ProgRel (w : World) (bp : Nat) (toks : List Tok) (lv : Value) (cl : Nat → R Cl) (total : Except (Int × Nat) (List Cl)) (g : Nat) (v : Value) (wr : World) : Prop :=
  ∃ cs n vv1 st1, ProgAt w bp toks lv v wr cs n vv1 st1 ∧
    ((∃ acc, n = acc.length ∧ st1.err = 0 ∧ 41 - n < g ∧ progOf toks cl (41 - n) acc st1.i = total ∧ CRepL wr (fun b => w.heap.size ≤ b ∧ b ≠ bp ∧ v.ownBlock ≠ some b) acc cs) ∨
     (∃ a : Nat, st1.err ≠ 0 ∧ total = .error (st1.err, a) ∧ st1.at_ = a))
theorem prog_one (toks : List Tok) (cl : Nat → R Cl) (n : Nat) (hn : n ≤ 40) (acc : List Cl) (i : Nat) :
    progOf toks cl (41 - n) acc i = if (tk toks i).k = 101 then .ok acc else if acc.length = 40 then .error (4, (tk toks i).a) else match cl i with | .error e => .error e | .ok (c, s) => progOf toks cl (40 - n) (acc ++ [c]) s.1 := by
  rw [show 41 - n = (40 - n) + 1 by omega, progOf]
  cases cl i <;> rfl
theorem prog_step {w : World} {bp : Nat} {toks : List Tok} {lv : Value} {cl : Nat → R Cl} {total : Except (Int × Nat) (List Cl)} {gk : Nat} {v v' : Value} {wr wq w4 w5 : World} {cs ds : List Value} {n : Nat} {vv1 vv2 : Value} {st1 st2 : PS} {acc : List Cl} {o1 o2 : Obj}
    (hR : ProgAt w bp toks lv v wr cs n vv1 st1) (hn : n = acc.length) (hgk : 41 - n < gk) (hprog : progOf toks cl (41 - n) acc st1.i = total) (h101 : (tk toks st1.i).k ≠ 101) (h40 : acc.length ≠ 40) (hE : CRepL wr (fun b => w.heap.size ≤ b ∧ b ≠ bp ∧ v.ownBlock ≠ some b) acc cs)
    (hq : Below wr.heap.size wr wq) (hP4 : PIn w4 bp toks lv vv2 st2) (hfr : Fr bp (.slice none 0 0) vv2 wq w4) (hd : st2.deep = 0) (hok : ClOk (cl st1.i) st1.i wq w4 bp st2 ds)
    (ho : w5.ownsRow w.heap.size 50 7 v' (n + 1) (cs ++ ds)) (hgr : ((w4.alloc o1).alloc o2).grownBy w5 v.ownBlock) (hnw : ∀ b, v'.ownBlock = some b → v.ownBlock = some b ∨ w4.heap.size + 1 + 1 ≤ b) :
    ∃ g', g' < gk ∧ ProgRel w bp toks lv cl total g' v' w5 := by
  have hsm := hR.small
  have hs0 := hR.below.size
  have hsq := hq.size
  have hs4 := hfr.size
  have hsz : ((w4.alloc o1).alloc o2).heap.size = w4.heap.size + 2 := by simp
  have hs5 := hgr.size
  have vlt : ∀ x, v.ownBlock = some x → x < wr.heap.size := fun x e => (hR.own.lt x e).2
  have vge : ∀ x, v.ownBlock = some x → w.heap.size ≤ x := fun x e => (hR.own.lt x e).1
  have v2new : ∀ x, vv2.ownBlock = some x → wq.heap.size ≤ x := fun x e => by
    rcases hfr.vnew x e with r | r
    · simp [Value.ownBlock] at r
    · exact r
  have hB45 : ∀ x, x < w4.heap.size → v.ownBlock ≠ some x → w5.heap[x]? = w4.heap[x]? := fun x hx hq => by
    rw [hgr.block x (by omega) (fun e => hq e.symm), Below.heap_alloc _ _ _ (by simp; omega), Below.heap_alloc _ _ _ hx]
  have hP5 : PIn w5 bp toks lv vv2 st2 := by
    refine ((hP4.alloc o1).alloc o2).grown hgr (fun q => (hR.vne bp q).1 rfl) (fun b e q => (hR.vne b q).2.1 e) (fun b e q => ?_)
    have := vlt b q; have := v2new b e; omega
  have hb4 : Below w.heap.size w w4 := (hR.below.trans (hq.mono hs0)).trans (hfr.below hR.bpnew (by simp [Value.ownBlock]) (by omega))
  have hb5 : Below w.heap.size w w5 := by
    refine ⟨hgr.os.trans hb4.os, hgr.tape.trans hb4.tape, hgr.output.trans hb4.output, by omega, fun x hx => ?_⟩
    rw [hB45 x (by omega) (fun e => by have := vge x e; omega)]
    exact hb4.block x hx
  have hRn : n + 1 ≤ 40 → ProgAt w bp toks lv v' w5 (cs ++ ds) (n + 1) vv2 st2 := fun h1 => by
    refine ⟨hP5, hb5, hd, ho, fun b e => ?_, h1, hR.bpnew, fun b e => by have := v2new b e; omega⟩
    rcases hnw b e with r | r
    · exact ⟨(hR.vne b r).1, (hR.vne b r).2.1, fun q => by have := vlt b r; have := v2new b q; omega⟩
    · have a1 := hP4.lt_size
      exact ⟨by omega, fun q => by have := hP4.blt b (.inr (.inl q)); omega, fun q => by have := hP4.blt b (.inr (.inr q)); omega⟩
  have h39 : n + 1 ≤ 40 := by omega
  rw [prog_one toks cl n hsm acc st1.i, if_neg h101, if_neg h40] at hprog
  cases hr : cl st1.i with
  | error e =>
    rw [hr] at hok hprog
    obtain ⟨e1, e2, e3⟩ := hok
    exact ⟨0, by omega, _, _, _, _, hRn h39, .inr ⟨e.2, by rw [e1]; exact e3, by rw [← hprog, e1], e2⟩⟩
  | ok p =>
    rw [hr] at hok hprog
    obtain ⟨f1, f2, f3, f4⟩ := hok
    dsimp only at hprog
    refine ⟨gk - 1, by omega, _, _, _, _, hRn h39, .inl ⟨acc ++ [p.1], by simp; omega, f1, by omega, by rw [show 41 - (n + 1) = 40 - n by omega, f2]; exact hprog, ?_⟩⟩
    have hv' : ∀ x, x < w4.heap.size → v.ownBlock ≠ some x → v'.ownBlock ≠ some x := fun x hx q e => (hnw x e).elim q (fun r => by omega)
    refine CRepL.snoc (CRepL.frame (fun x hx hxl => ?_) hE) (CRep.frame (fun x hx hxl => ?_) f4)
    · obtain ⟨q1, q2, q3⟩ := hx
      exact ⟨by rw [hB45 x (by omega) q3, hfr.block x (by omega) q2 (by simp [Value.ownBlock]), hq.block x hxl], q1, q2, hv' x (by omega) q3⟩
    · obtain ⟨q1, q2⟩ := hx
      have q3 : v.ownBlock ≠ some x := fun e => by have := vlt x e; omega
      exact ⟨hB45 x hxl q3, by omega, q2, hv' x hxl q3⟩
theorem clauseInfo : (Tryz.prog.info? 50).map (fun i => (i.zero, i.size, i.bytes)) = some (some (.agg clauseZero), 7, 136) := by kernel_rfl
theorem clausesInfo : Tryz.prog.underlying 24 = some (.slice 50) := by kernel_rfl
theorem cells7 (w : World) (o : Obj) (x0 x1 x2 x3 x4 x5 x6 : Value) (T : TypeId) : ∀ j u, [x0, x1, x2, x3, x4, x5, x6][j]? = some u → ((w.alloc o).alloc (.cells #[x0, x1, x2, x3, x4, x5, x6] T)).cell? ((⟨w.heap.size + 1, 0, none⟩ : Addr).add j) = some u := by
  intro j u h
  have hadd : (⟨w.heap.size + 1, 0, none⟩ : Addr).add j = ⟨w.heap.size + 1, j, none⟩ := by unfold Addr.add; split <;> simp_all
  have hn : ((w.alloc o).alloc (.cells #[x0, x1, x2, x3, x4, x5, x6] T)).heap[w.heap.size + 1]? = some (.cells #[x0, x1, x2, x3, x4, x5, x6] T (0, 0)) := by
    have := heap_alloc_new (w.alloc o) (.cells #[x0, x1, x2, x3, x4, x5, x6] T)
    simpa using this
  rw [hadd, cell_of_block hn]
  simpa using h
def ProgPost (s : ByteArray) (w : World) (e : Ending) (w' : World) : Prop :=
  Below w.heap.size w w' ∧
  match progS s with
  | .error (er, a) => e = .returned (.tuple #[.slice none 0 0, .int .i64 er, .int .i64 a]) ∧ er ≠ 0
  | .ok l => ∃ v cs, e = .returned (.tuple #[v, .int .i64 0, .int .i64 (-1)]) ∧ w'.ownsRow w.heap.size 50 7 v l.length cs ∧ l.length ≤ 40 ∧ CRepL w' (fun b => w.heap.size ≤ b) l cs
theorem program_any (s : ByteArray) (w : World) (hs : s.size ≤ 32768) : Calls Tryz.prog 40 #[.string s] w fun e w' => ProgPost s w e w' := by
  have HBe := hide (begun_any s w hs)
  by_cases h2 : 2000 < s.size
  · have HB2 : Hid (Calls Tryz.prog 50 #[.string s] w fun e w' => Below w.heap.size w w' ∧ e = .returned (.tuple #[.pointer none, .int .i64 1, .int .i64 0])) :=
      HBe.out.mono fun e w' he => by unfold BegunPost at he; rw [if_pos h2] at he; exact he
    have HT : Hid (progS s = .error (1, 0)) := by unfold Hid progS; rw [if_pos h2]
    go_enter Tryz.func40, Tryz.ntmps40
    go_wp2_with (go_at_call 50; refine HB2.out.mono ?_; rintro e w1 ⟨hb, rfl⟩)
    go_ret3
    refine ⟨hb, ?_⟩
    rw [HT.out]
    exact ⟨rfl, by decide⟩
  · cases hl : lexS s with
    | error p =>
      have HB2 : Hid (Calls Tryz.prog 50 #[.string s] w fun e w' => Below w.heap.size w w' ∧ e = .returned (.tuple #[.pointer none, .int .i64 2, .int .i64 p])) :=
        HBe.out.mono fun e w' he => by unfold BegunPost at he; rw [if_neg h2, hl] at he; exact he
      have HT : Hid (progS s = .error (2, p)) := by unfold Hid progS; rw [if_neg h2, hl]
      clear hl
      go_enter Tryz.func40, Tryz.ntmps40
      go_wp2_with (go_at_call 50; refine HB2.out.mono ?_; rintro e w1 ⟨hb, rfl⟩)
      go_ret3
      refine ⟨hb, ?_⟩
      rw [HT.out]
      exact ⟨rfl, by decide⟩
    | ok l =>
      have hg := good_toks (by omega) hl
      have HB2 : Hid (Calls Tryz.prog 50 #[.string s] w fun e w' => Below w.heap.size w w' ∧ ∃ bp lv, e = .returned (.tuple #[.pointer (some ⟨bp, 0, none⟩), .int .i64 0, .int .i64 (-1)]) ∧ w.heap.size ≤ bp ∧ PIn w' bp (withEnd s l) lv (.slice none 0 0) ⟨0, [], 0, 0, 0⟩ ∧ (∀ b, lv.ownBlock = some b → w.heap.size ≤ b)) :=
        HBe.out.mono fun e w' he => by unfold BegunPost at he; rw [if_neg h2, hl] at he; exact he
      have HT : Hid (progS s = progOf (withEnd s l) (clauseOf (withEnd s l) (exprS (withEnd s l) 8) (bodyS (withEnd s l) 8)) 41 [] 0) := by
        unfold Hid progS; rw [if_neg h2, hl]
      clear hl
      obtain ⟨toks, htk⟩ : ∃ t, t = withEnd s l := ⟨_, rfl⟩
      rw [← htk] at hg HB2 HT
      clear htk
      obtain ⟨cl, hcl⟩ : ∃ c, c = clauseOf toks (exprS toks 8) (bodyS toks 8) := ⟨_, rfl⟩
      have HC : Hid (∀ (w : World) (bp : Nat) (lv vv : Value) (st : PS), PIn w bp toks lv vv st → st.err = 0 → st.deep = 0 → Calls Tryz.prog 69 #[.pointer (some ⟨bp, 0, none⟩)] w fun e w' => ClPost bp toks lv st.i w (cl st.i) e w') := by
        rw [hcl]; exact clause_any hg (expr_at hg) (body_at hg)
      rw [← hcl] at HT
      clear hcl
      obtain ⟨total, htot⟩ : ∃ t, progOf toks cl 41 [] 0 = t := ⟨_, rfl⟩
      have HTT := hide htot
      clear htot
      obtain ⟨i0, hi, hz0, hz1, hz2⟩ := info_parts clauseInfo
      go_enter Tryz.func40, Tryz.ntmps40
      go_upto_block 0 with (go_at_call 50; refine HB2.out.mono ?_; rintro e w1 ⟨hb, bp, lv, rfl, hbp, hP1, hlv⟩)
      have HS : Hid (ProgRel w bp toks lv cl total 42 (.slice none 0 0) w1) :=
        ⟨[], 0, _, _, ⟨hP1, hb, rfl, World.ownsRow_nil _ _ _ _, by simp [Value.ownBlock], by omega, hbp, by simp [Value.ownBlock]⟩, .inl ⟨[], rfl, rfl, by omega, HTT.out, .nil⟩⟩
      clear HB2 HBe hP1 hlv
      go_cut [8, 9, 10] (fun _ _ _ wx => ∃ (vv1 : Value) (st1 : PS) (a : Nat), PIn wx bp toks lv vv1 st1 ∧ Below w.heap.size w wx ∧ st1.err ≠ 0 ∧ total = .error (st1.err, a) ∧ st1.at_ = a)
      case first =>
        go_wp2_with fail
        go_loopg [8, 9, 10] 42 (fun g v _ _ wr => ProgRel w bp toks lv cl total g v wr)
        case atStart => exact HS.out
        case round =>
          obtain ⟨cs, n, vv1, st1, hR, hrel⟩ := hrel
          have p4 := hR.P.c4
          have hsm := hR.small
          obtain ⟨ao, cap, hv⟩ := row_form hR.own
          subst hv
          rcases hrel with ⟨acc, hn, e0, hgk, hprog, hE⟩ | ⟨a, e0, htt, hat⟩
          · rw [e0] at p4
            have HN := hide (next_any hR.P hg)
            obtain ⟨t, ht⟩ : ∃ t, t = tk toks st1.i := ⟨_, rfl⟩
            rw [← ht] at HN
            have HTK := hide ht
            have HP := hide hprog
            have HNN := hide hn
            clear ht hprog hn
            by_cases hk : t.k = 101
            · have hk' : (t.k == 101) = true := by simpa using hk
              have HK := hide hk
              clear hk
              go_wp2_with (go_at_call 67; refine HN.out.mono ?_; rintro e w2 ⟨rfl, hb2⟩; unfold tokV)
              go_ret3
              have hbb := hR.below.trans (hb2.mono hR.below.size)
              refine ⟨hbb.alloc hbb.size _, ?_⟩
              have htt : progS s = .ok acc := by
                rw [HT.out, HTT.out, ← HP.out, prog_one toks cl n hsm, if_pos (by rw [← HTK.out]; exact HK.out)]
              rw [htt]
              have hbl := hb2.alloc hb2.size (.cells #[.int .u8 t.k, .string t.t, .int .i64 t.a] 133)
              refine ⟨.slice ao n cap, cs, rfl, ?_, by rw [← HNN.out]; exact hsm, CRepL.frame (fun b hb hlt => ⟨hbl.block b hlt, hb.1⟩) hE⟩
              rw [← HNN.out]
              refine ⟨hR.own.1, ?_⟩
              rcases hR.own.2 with hq | ⟨g, cap', cur, hq, r1, r2, r3⟩
              · exact .inl hq
              · exact .inr ⟨g, cap', cur, hq, r1, (hbl.block g (Array.getElem?_eq_some_iff.1 r2).1).trans r2, r3⟩
            · have hk' : (t.k == 101) = false := by simpa using hk
              have HK : Hid ((tk toks st1.i).k ≠ 101) := by unfold Hid; rw [← HTK.out]; exact hk
              clear hk
              by_cases h40 : n = 40
              · subst h40
                go_wp2_with (first | (go_at_call 67; refine HN.out.mono ?_; rintro e w2 ⟨rfl, hb2⟩; unfold tokV; have hP2 := (hR.P.below hb2).alloc (.cells #[.int .u8 t.k, .string t.t, .int .i64 t.a] 133)) | (go_at_call 68; refine (fault_any hP2 4 t.a).mono ?_; rintro e w3 ⟨rfl, hP3, hfr3⟩))
                go_meet
                case rel =>
                  refine ⟨vv1, _, t.a, hP3, ?_, ?_, ?_, (fault_new e0).2⟩
                  · have hbb := hR.below.trans (hb2.mono hR.below.size)
                    have hba := hbb.alloc hbb.size (.cells #[.int .u8 t.k, .string t.t, .int .i64 t.a] 133)
                    refine ⟨hfr3.os.trans hba.os, hfr3.tape.trans hba.tape, hfr3.output.trans hba.output, Nat.le_trans hba.size hfr3.size, fun x hx => ?_⟩
                    by_cases hxv : vv1.ownBlock = some x
                    · have := hR.vnew x hxv; omega
                    · rw [hfr3.block x (Nat.lt_of_lt_of_le hx hba.size) (by omega) hxv]; exact hba.block x hx
                  · rw [(fault_new e0).1]; decide
                  · rw [(fault_new e0).1, ← HP.out, prog_one toks cl 40 (Nat.le_refl _), if_neg HK.out, if_pos HNN.out.symm, HTK.out]
              · have h40' : ((n : Int) == 40) = false := by simpa using (show ¬ (n : Int) = 40 by omega)
                go_wp2_with (first | (go_at_call 67; refine HN.out.mono ?_; rintro e w2 ⟨rfl, hb2⟩; unfold tokV; have hP2 := (hR.P.below hb2).alloc (.cells #[.int .u8 t.k, .string t.t, .int .i64 t.a] 133); have hb3 := hb2.alloc hb2.size (.cells #[.int .u8 t.k, .string t.t, .int .i64 t.a] 133)) | (go_at_call 69; refine (HC.out _ _ _ _ _ hP2 e0 hR.deep).mono ?_; rintro e w4 ⟨ds, vv2, st2, rfl, ⟨y0, y1, y2, y3, y4, y5, y6, y7, y8, y9, y10, y11, y12, y13, y14, rfl⟩, hP4, hfr4, hdp4, hok4⟩) | (at_builtin; refine wpList_append_own2 rfl _ _ 24 rfl w.heap.size 50 i0 (.agg clauseZero) 7 136 clausesInfo hi hz0 hz1 hz2 rfl (by decide) _ _ _ rfl (((own_fr (own_bl hR.own hb3) hfr4 (fun e => (hR.vne bp e).1 rfl) (vnil _)).alloc _).alloc _) ⟨w4.heap.size + 1, 0, none⟩ 1 1 [.string y0, .slice y1 y2 y3, .int .u8 y4, .string y5, .slice y6 y7 y8, .slice y9 y10 y11, .slice y12 y13 y14] rfl rfl ?c1 ?c2 ?c3 ?c4 ?c5 ?_) | go_in)
                case c1 => exact cells7 _ _ _ _ _ _ _ _ _ _
                case c2 => intro u hu; simp only [List.mem_cons, List.not_mem_nil, or_false] at hu; rcases hu with rfl | rfl | rfl | rfl | rfl | rfl | rfl <;> rfl
                case c3 => unfold maxLen; omega
                case c4 => omega
                case c5 => have := hR.below.size; have := hb3.size; have := hfr4.size; simp; omega
                intro v' w5 ho hgr hnw
                obtain ⟨g', hg', hrel'⟩ := prog_step hR HNN.out hgk HP.out HK.out (by rw [← HNN.out]; exact h40) hE hb3 hP4 hfr4 hdp4 hok4 ho hgr hnw
                have HREL := hide hrel'
                clear hrel' hnw hgr ho hok4
                go_wp2_with fail
                go_roundg g'
                case measure => exact hg'
                case rel => exact HREL.out
          · have e0' : (st1.err == 0) = false := by simpa using e0
            go_wp2_with fail
            go_meet
            case rel => exact ⟨vv1, st1, a, hR.P, hR.below, e0, htt, hat⟩
      case rest =>
        obtain ⟨vv1, st1, a, hP, hbw, e0, htt, hat⟩ := hcut
        have p4 := hP.c4
        have p5 := hP.c5
        rw [hat] at p5
        have hpz := hP.lt_size
        have HT2 : Hid (progS s = .error (st1.err, a)) := by unfold Hid; rw [HT.out, HTT.out, htt]
        clear htt hat
        go_wp2_with fail
        go_region
        go_wp2_with fail
        go_ret3
        refine ⟨hbw.drew, ?_⟩
        rw [HT2.out]
        exact ⟨rfl, e0⟩
end Go.Proofs.YtodpkdajbnceoaaGreatDoor
