import Derived.Test.YtodpkdajbnceoaaGreatDoorPart02
import Derived.Deep.RegionLaw
import Derived.Deep.QuietTactic
import Derived.BigQuiet
set_option linter.all false
set_option maxHeartbeats 1000000
set_option maxRecDepth 100000
namespace Go.Proofs.YtodpkdajbnceoaaGreatDoor
open Go.RowKit
def Shape5 (cs : List Value) : Prop := ∃ a b c d ao n cap, cs = [.int .u8 a, .string b, .int .i64 c, .int .i64 d, .slice ao n cap]
theorem ERep.shape {w : World} {Ok : Nat → Prop} {x : Ex} {cs : List Value} (h : ERep w Ok x cs) : Shape5 cs := by
  cases h <;> exact ⟨_, _, _, _, _, _, _, rfl⟩
def ErOk (r : R Ex) (st : PS) (w w' : World) (bp : Nat) (vv' : Value) (st' : PS) (cs : List Value) : Prop :=
  match r with
  | .ok (x, s') => st'.err = 0 ∧ st'.i = s'.1 ∧ st'.vars = s'.2 ∧ st.i ≤ s'.1 ∧ s'.2.length ≤ 12 ∧ ERep w' (fun b => w.heap.size ≤ b ∧ b ≠ bp ∧ vv'.ownBlock ≠ some b) x cs
  | .error (er, a) => st'.err = er ∧ st'.at_ = a ∧ er ≠ 0
def EPost (bp : Nat) (toks : List Tok) (lv vv : Value) (st : PS) (w : World) (r : R Ex) (e : Ending) (w' : World) : Prop :=
  ∃ (cs : List Value) (vv' : Value) (st' : PS), e = .returned (.agg cs.toArray) ∧ Shape5 cs ∧ PIn w' bp toks lv vv' st' ∧ Fr bp vv vv' w w' ∧ st'.deep = st.deep ∧
    ErOk r st w w' bp vv' st' cs
theorem Tryz.infoStr : (Tryz.prog.info? 9).map (fun i => (i.zero, i.size, i.bytes)) = some (some (.string ByteArray.empty), 1, 16) := by kernel_rfl
theorem Tryz.underlyingStrs : Tryz.prog.underlying 48 = some (.slice 9) := by kernel_rfl
theorem varCell {w : World} {vv : Value} {vars : List ByteArray} (h : w.ownsRow 0 9 1 vv vars.length (vars.map Value.string)) (k : Nat) (hk : k < vars.length) :
    ∃ g cap, vv = .slice (some ⟨g, 0, none⟩) vars.length cap ∧ vars.length ≤ cap ∧ cap ≤ maxLen ∧ w.cell? ⟨g, k, none⟩ = some (.string vars[k]) := by
  rcases h.2 with ⟨_, h0⟩ | ⟨g, cap, cur, rfl, _, hgg, hcap, hmx, hsz, htk⟩
  · omega
  · exact ⟨g, cap, rfl, hcap, hmx, rowCell hgg htk (by simp [hk])⟩
def exZero : Array Value := #[.int .u8 0, .string ByteArray.empty, .int .i64 0, .int .i64 0, .slice none 0 0]
theorem box5 {w : World} {b : Nat} {x0 x1 x2 x3 x4 : Value} (h : w.heap[b]? = some (.cells #[x0, x1, x2, x3, x4] 125 (0, 0))) :
    w.cell? ⟨b, 0, none⟩ = some x0 ∧ w.cell? ⟨b, 1, none⟩ = some x1 ∧ w.cell? ⟨b, 2, none⟩ = some x2 ∧ w.cell? ⟨b, 3, none⟩ = some x3 ∧ w.cell? ⟨b, 4, none⟩ = some x4 ∧ ∀ j, w.frozen? ⟨b, j, none⟩ = false :=
  ⟨by rw [cell_of_block h]; rfl, by rw [cell_of_block h]; rfl, by rw [cell_of_block h]; rfl, by rw [cell_of_block h]; rfl, by rw [cell_of_block h]; rfl, fun j => by simp [World.frozen?, h]⟩
def set5 (w : World) (b : Nat) (x0 x1 x2 x3 x4 : Value) : World := ((((w.setCell ⟨b, 0, none⟩ x0).setCell ⟨b, 1, none⟩ x1).setCell ⟨b, 2, none⟩ x2).setCell ⟨b, 3, none⟩ x3).setCell ⟨b, 4, none⟩ x4
theorem set5_other (w : World) (b : Nat) (x0 x1 x2 x3 x4 : Value) (k : Nat) (h : k ≠ b) : (set5 w b x0 x1 x2 x3 x4).heap[k]? = w.heap[k]? := by
  unfold set5
  rw [Below.heap_setCell _ _ _ _ h, Below.heap_setCell _ _ _ _ h, Below.heap_setCell _ _ _ _ h, Below.heap_setCell _ _ _ _ h, Below.heap_setCell _ _ _ _ h]
theorem set5_size (w : World) (b : Nat) (x0 x1 x2 x3 x4 : Value) : (set5 w b x0 x1 x2 x3 x4).heap.size = w.heap.size := by simp [set5, World.setCell]
theorem set5_same {w : World} {b : Nat} {y0 y1 y2 y3 y4 : Value} (h : w.heap[b]? = some (.cells #[y0, y1, y2, y3, y4] 125 (0, 0))) (x0 x1 x2 x3 x4 : Value) :
    (set5 w b x0 x1 x2 x3 x4).heap[b]? = some (.cells #[x0, x1, x2, x3, x4] 125 (0, 0)) :=
  heap_setCell_same (heap_setCell_same (heap_setCell_same (heap_setCell_same (heap_setCell_same h))))
theorem Fr.set5 {bp : Nat} {v0 v1 : Value} {a w : World} (h : Fr bp v0 v1 a w) {b : Nat} (hb : a.heap.size ≤ b) (x0 x1 x2 x3 x4 : Value) : Fr bp v0 v1 a (set5 w b x0 x1 x2 x3 x4) :=
  ((((h.setNew hb _).setNew hb _).setNew hb _).setNew hb _).setNew hb _
theorem PIn.set5 {w : World} {bp : Nat} {toks : List Tok} {lv vv : Value} {st : PS} (h : PIn w bp toks lv vv st) {b : Nat} (h1 : b ≠ bp) (h2 : lv.ownBlock ≠ some b) (h3 : vv.ownBlock ≠ some b) (x0 x1 x2 x3 x4 : Value) : PIn (set5 w b x0 x1 x2 x3 x4) bp toks lv vv st :=
  h.keep fun _ e => set5_other _ _ _ _ _ _ _ _ (fun q => e.elim (fun e => h1 (q ▸ e)) (fun e => e.elim (fun e => h2 (q ▸ e)) (fun e => h3 (q ▸ e))))
theorem PIn.new {w : World} {bp : Nat} {toks : List Tok} {lv vv : Value} {st : PS} (h : PIn w bp toks lv vv st) {b : Nat} (hb : w.heap.size ≤ b) : b ≠ bp ∧ lv.ownBlock ≠ some b ∧ vv.ownBlock ≠ some b :=
  ⟨fun e => by have := h.blt b (.inl e); omega, fun e => by have := h.blt b (.inr (.inl e)); omega, fun e => by have := h.blt b (.inr (.inr e)); omega⟩
def varW (w : World) (t : Tok) : World := (w.alloc (.cells #[.int .u8 t.k, .string t.t, .int .i64 t.a] 133)).alloc (.cells exZero 125)
theorem below_at {n : Nat} {w w' : World} (h : Below n w w') (e : w.heap.size = n) : Below w.heap.size w w' := by rw [e]; exact h
theorem varW_size (w : World) (t : Tok) : (varW w t).heap.size = w.heap.size + 2 := by simp [varW]
theorem varW_b (w : World) (t : Tok) : Below w.heap.size w (varW w t) := ((Below.refl _ _).alloc (Nat.le_refl _) _).alloc (by simp) _
theorem varW_P {w : World} {t : Tok} {bp : Nat} {toks : List Tok} {lv vv : Value} {st : PS} (h : PIn w bp toks lv vv st) : PIn (varW w t) bp toks lv vv st := h.below (varW_b w t)
theorem varW_t {w wr : World} {t : Tok} (hb : Below (w.heap.size + 2) (varW w t) wr) :
    wr.cell? ⟨w.heap.size, 1, none⟩ = some (.string t.t) ∧ wr.cell? ⟨w.heap.size, 2, none⟩ = some (.int .i64 t.a) ∧
    wr.heap[w.heap.size + 1]? = some (.cells exZero 125 (0, 0)) := by
  have h1 : wr.heap[w.heap.size]? = some (.cells #[.int .u8 t.k, .string t.t, .int .i64 t.a] 133 (0, 0)) := by
    rw [hb.block _ (by omega), varW, Below.heap_alloc _ _ _ (by simp)]; exact heap_alloc_new w _
  have h2 : wr.heap[w.heap.size + 1]? = some (.cells exZero 125 (0, 0)) := by
    rw [hb.block _ (by omega), varW]
    have := heap_alloc_new (w.alloc (.cells #[.int .u8 t.k, .string t.t, .int .i64 t.a] 133)) (.cells exZero 125)
    simpa using this
  exact ⟨by rw [cell_of_block h1]; rfl, by rw [cell_of_block h1]; rfl, h2⟩
theorem row_form {w : World} {base : Nat} {e : TypeId} {size : Nat} {v : Value} {n : Nat} {xs : List Value} (h : w.ownsRow base e size v n xs) : ∃ ao cap, v = .slice ao n cap := by
  rcases h.2 with ⟨rfl, rfl⟩ | ⟨g, cap, cur, rfl, _⟩
  · exact ⟨none, 0, rfl⟩
  · exact ⟨_, cap, rfl⟩
theorem findVar_hit {vars : List ByteArray} {t : ByteArray} {k : Nat} (hk : k < vars.length) (hno : ∀ j (hj : j < vars.length), j < k → vars[j] ≠ t) (hu : t ≠ B [95]) (he : vars[k] = t) : findVar vars t = some k := by
  unfold findVar
  rw [if_neg hu, List.findIdx?_eq_some_iff_getElem]
  exact ⟨hk, by simpa using he, fun j hj => by simpa using hno j (by omega) hj⟩
theorem findVar_none {vars : List ByteArray} {t : ByteArray} (hno : t = B [95] ∨ ∀ j (hj : j < vars.length), vars[j] ≠ t) : findVar vars t = none := by
  unfold findVar
  rcases hno with h | h
  · rw [if_pos h]
  · split
    · rfl
    · rw [List.findIdx?_eq_none_iff]
      intro x hx
      obtain ⟨j, hj, rfl⟩ := List.getElem_of_mem hx
      simpa using h j hj
theorem us_ne {t : ByteArray} (h : (t.toList == [95]) = false) : t ≠ B [95] := by
  rintro rfl; rw [B_toList] at h; simp at h
theorem us_eq {t : ByteArray} (h : (t.toList == [95]) = true) : t = B [95] := BA_ext (by rw [B_toList]; simpa using h)
theorem varPost_hit {w wr : World} {bp : Nat} {toks : List Tok} {lv vv : Value} {st : PS} {t : Tok} {k nq : Nat} (h : PIn w bp toks lv vv st) (he : st.err = 0) (hv : st.vars.length ≤ 12)
    (hb : Below (w.heap.size + 2) (varW w t) wr) (hf : findVar st.vars t.t = some k) :
    EPost bp toks lv vv st w (varOf t (st.i, st.vars)) (.returned (.agg #[.int .u8 118, .string ByteArray.empty, .int .i64 0, .int .i64 k, .slice none 0 0]))
      (set5 (wr.drewN nq) (w.heap.size + 1) (.int .u8 118) (.string ByteArray.empty) (.int .i64 0) (.int .i64 k) (.slice none 0 0)) := by
  have hbw : Below w.heap.size w (wr.drewN nq) := below_drewN ((varW_b w t).trans (hb.mono (by omega))) nq
  obtain ⟨n1, n2, n3⟩ := h.new (b := w.heap.size + 1) (by omega)
  have hp : PIn (wr.drewN nq) bp toks lv vv st := h.below hbw
  refine ⟨_, vv, st, rfl, ⟨_, _, _, _, _, _, _, rfl⟩, hp.set5 n1 n2 n3 _ _ _ _ _, (Fr.of_below hbw).set5 (by omega) _ _ _ _ _, rfl, ?_⟩
  · unfold varOf; simp only [hf]
    exact ⟨he, rfl, rfl, Nat.le_refl _, hv, .var k⟩
theorem grown_cell {wc w2 : World} {bp : Nat} {vv : Value} {o : Obj} (h : ∃ cs T, wc.heap[bp]? = some (.cells cs T (0, 0)) ∧ cs[2]? = some vv) (hg : (wc.drew.alloc o).grownBy w2 vv.ownBlock) (hv : vv.ownBlock ≠ some bp) :
    w2.cell? ⟨bp, 2, none⟩ = some vv ∧ w2.frozen? ⟨bp, 2, none⟩ = false := by
  obtain ⟨cs, T, h1, h2⟩ := h
  have hlt := (Array.getElem?_eq_some_iff.1 h1).1
  have h3 : w2.heap[bp]? = some (.cells cs T (0, 0)) := by
    rw [hg.block bp (by simp; omega) (fun e => hv e.symm), Below.heap_alloc _ _ _ (by simpa using hlt)]; exact h1
  exact ⟨by rw [cell_of_block h3]; exact h2, by simp [World.frozen?, h3]⟩
def varSt (st : PS) (t : Tok) : PS := if st.vars.length = 12 then st.fault 4 t.a else st
theorem varSt_vars (st : PS) (t : Tok) : (varSt st t).vars = st.vars := by unfold varSt; split; exact PS.fault_vars _ _ _; rfl
theorem grown_box {wc w2 : World} {b : Nat} {vv : Value} {o : Obj} {cs : Array Value} {T : TypeId} (h : wc.heap[b]? = some (.cells cs T (0, 0))) (hg : (wc.drew.alloc o).grownBy w2 vv.ownBlock) (hv : vv.ownBlock ≠ some b) :
    w2.heap[b]? = some (.cells cs T (0, 0)) := by
  have hlt := (Array.getElem?_eq_some_iff.1 h).1
  rw [hg.block b (by simp; omega) (fun e => hv e.symm), Below.heap_alloc _ _ _ (by simpa using hlt)]; exact h
theorem PIn.grow {wc w2 : World} {bp : Nat} {toks : List Tok} {lv vv v' : Value} {st : PS} {o : Obj} {t : ByteArray} {n : Nat} (h : PIn wc bp toks lv vv st) (hg : (wc.drew.alloc o).grownBy w2 vv.ownBlock)
    (hn : ∀ b, v'.ownBlock = some b → vv.ownBlock = some b ∨ (wc.drew.alloc o).heap.size ≤ b) (hv : n = st.vars.length) (ho : w2.ownsRow 0 9 1 v' (n + 1) (st.vars.map Value.string ++ [Value.string t])) (hl : st.vars.length ≤ 12) :
    PIn (w2.setCell ⟨bp, 2, none⟩ v') bp toks lv v' { st with vars := st.vars ++ [t] } := by
  have hne : ∀ b, b ≠ bp → (w2.setCell ⟨bp, 2, none⟩ v').heap[b]? = w2.heap[b]? := fun b hb => Below.heap_setCell _ _ _ _ hb
  have hc := grown_box h.cells hg h.vb
  have hsz : wc.heap.size < (wc.drew.alloc o).heap.size := by simp
  have hvb : v'.ownBlock ≠ some bp := fun e => (hn bp e).elim h.vb (fun q => by have := h.lt_size; omega)
  subst hv
  refine ⟨?_, ?_, ?_, h.lb, hvb, ?_, h.lt, by simp; omega⟩
  · rw [heap_setCell_same hc]; rfl
  · refine ⟨h.l.1, ?_⟩
    rcases h.l.2 with hl | ⟨g, cap, cur, rfl, r1, r2, r3⟩
    · exact .inl hl
    · refine .inr ⟨g, cap, cur, rfl, r1, ?_, r3⟩
      rw [hne g (fun e => h.lb (by rw [e]; rfl))]
      refine grown_box r2 hg (fun e => ?_)
      rcases h.lvb with q | q
      · rw [q] at e; cases e
      · exact q e.symm
  · have : w2.ownsRow 0 9 1 v' (st.vars ++ [t]).length ((st.vars ++ [t]).map Value.string) := by simpa using ho
    refine ⟨this.1, ?_⟩
    rcases this.2 with hl | ⟨g, cap, cur, rfl, r1, r2, r3⟩
    · exact .inl hl
    · exact .inr ⟨g, cap, cur, rfl, r1, by rw [hne g (fun e => hvb (by rw [e]; rfl))]; exact r2, r3⟩
  · by_cases hn0 : v'.ownBlock = none
    · exact .inl hn0
    · right
      intro e
      cases hb : v'.ownBlock with
      | none => exact hn0 hb
      | some b =>
        rcases hn b hb with q | q
        · rcases h.lvb with x | x
          · rw [x] at q; cases q
          · exact x (by rw [e, hb, q])
        · have := h.blt b (.inr (.inl (by rw [e, hb]))); omega
theorem varPost_new {w w1 wc w2 : World} {bp : Nat} {toks : List Tok} {lv vv v' : Value} {st : PS} {t : Tok} {o : Obj} (h : PIn w bp toks lv vv st) (he : st.err = 0) (hv : st.vars.length ≤ 12)
    (hb : Below (w.heap.size + 2) (varW w t) w1) (hP2 : PIn wc bp toks lv vv (varSt st t)) (hfr : Fr bp vv vv w1 wc) (hf : findVar st.vars t.t = none)
    (ho : w2.ownsRow 0 9 1 v' (st.vars.length + 1) (st.vars.map Value.string ++ [Value.string t.t])) (hg : (wc.drew.alloc o).grownBy w2 vv.ownBlock)
    (hn : ∀ b, v'.ownBlock = some b → vv.ownBlock = some b ∨ (wc.drew.alloc o).heap.size ≤ b) :
    EPost bp toks lv vv st w (varOf t (st.i, st.vars)) (.returned (.agg #[.int .u8 118, .string ByteArray.empty, .int .i64 0, .int .i64 st.vars.length, .slice none 0 0]))
      (set5 (w2.setCell ⟨bp, 2, none⟩ v') (w.heap.size + 1) (.int .u8 118) (.string ByteArray.empty) (.int .i64 0) (.int .i64 st.vars.length) (.slice none 0 0)) := by
  have hbw : Below w.heap.size w w1 := (varW_b w t).trans (hb.mono (by omega))
  obtain ⟨n1, n2, n3⟩ := h.new (b := w.heap.size + 1) (by omega)
  have hw1 : w.heap.size + 2 ≤ w1.heap.size := by have := hb.size; rwa [varW_size] at this
  have hwc : w.heap.size + 2 ≤ wc.heap.size := Nat.le_trans hw1 hfr.size
  have hsz : (wc.drew.alloc o).heap.size = wc.heap.size + 1 := by simp
  have n4 : v'.ownBlock ≠ some (w.heap.size + 1) := fun e => (hn _ e).elim n3 (fun q => by omega)
  have hp := PIn.grow (st := varSt st t) (t := t.t) hP2 hg hn rfl (by rw [varSt_vars]; exact ho) (by rw [varSt_vars]; exact hv)
  have hfr2 : Fr bp vv v' wc w2 := ⟨hg.os, hg.tape, hg.output, by have := hg.size; omega, fun b hb1 _ hb3 => by
    rw [hg.block b (by omega) (fun e => hb3 e.symm), Below.heap_alloc _ _ _ (by simpa using hb1)]; rfl, fun b hb1 => (hn b hb1).elim .inl (fun q => .inr (by omega))⟩
  have hF : Fr bp vv v' w (w2.setCell ⟨bp, 2, none⟩ v') := ((Fr.of_below hbw).trans (hfr.trans hfr2)).setBp _ _
  refine ⟨_, v', _, rfl, ⟨_, _, _, _, _, _, _, rfl⟩, hp.set5 n1 n2 n4 _ _ _ _ _, hF.set5 (by omega) _ _ _ _ _, ?_, ?_⟩
  · show (varSt st t).deep = st.deep
    unfold varSt; split; exact PS.fault_deep _ _ _; rfl
  · unfold varOf varSt
    simp only [hf]
    split
    · refine ⟨?_, ?_, by decide⟩ <;> simp [PS.fault, he]
    · rename_i h12
      exact ⟨he, rfl, rfl, Nat.le_refl _, by simp; omega, .var _⟩
theorem variable_any {w : World} {bp : Nat} {toks : List Tok} {lv vv : Value} {st : PS} (h : PIn w bp toks lv vv st) (he : st.err = 0) (hv : st.vars.length ≤ 12) (t : Tok) :
    Calls Tryz.prog 234 #[.pointer (some ⟨bp, 0, none⟩), tokV t.k t.t t.a] w fun e w' => EPost bp toks lv vv st w (varOf t (st.i, st.vars)) e w' := by
  have hc2 := h.c2
  have hz := h.lt_size
  unfold tokV
  go_enter Tryz.func234, Tryz.ntmps234
  go_upto_block 0 with fail
  go_cut [5] (fun _ wx => findVar st.vars t.t = none ∧ Below (w.heap.size + 2) (varW w t) wx)
  case first =>
    go_wp2_with fail
    go_loopg [5] st.vars.length (fun g i wr => ∃ k : Nat, k + g = st.vars.length ∧ i = .int .i64 k ∧ (∀ j (hj : j < st.vars.length), j < k → st.vars[j] ≠ t.t) ∧ (k = 0 ∨ t.t ≠ B [95]) ∧ Below (w.heap.size + 2) (varW w t) wr)
    case atStart => exact ⟨0, by omega, rfl, fun _ _ h => absurd h (by omega), .inl rfl, Below.refl _ _⟩
    case round =>
      obtain ⟨k, hkg, rfl, hno, hund, hb⟩ := hrel
      obtain ⟨e1, e2, e3⟩ := varW_t hb
      have hP : PIn wr bp toks lv vv st := PIn.below (varW_P h) (below_at hb (varW_size w t))
      have d2 := hP.c2
      obtain ⟨b0, b1, b2, b3, b4, bf⟩ := box5 e3
      have HNO := hide hno
      have HUN := hide hund
      clear hno hund
      by_cases hlt : k < st.vars.length
      · obtain ⟨g, cap, rfl, hcap, hmx, hvc⟩ := varCell hP.vars k hlt
        cases hus : (t.t.toList == [95]) with
        | false =>
          cases heq : (st.vars[k].toList == t.t.toList) with
          | true =>
            have HF : Hid (findVar st.vars t.t = some k) := findVar_hit hlt HNO.out (us_ne hus) (BA_ext (by simpa using heq))
            go_wp2_with fail
            go_quiet (fail)
            go_wp2_with fail
            exact bodyPost_ret (v := .agg #[.int .u8 118, .string ByteArray.empty, .int .i64 0, .int .i64 k, .slice none 0 0]) (by simp [results, Tryz.results234, go_sem, b0, b1, b2, b3, b4]; rfl) rfl (varPost_hit h he hv hb HF.out)
          | false =>
            go_wp2_with fail
            go_quiet (fail)
            go_wp2_with fail
            go_roundg (gk - 1)
            case measure => omega
            case rel =>
              refine ⟨k + 1, by omega, by go_num, fun j hj hjk => ?_, .inr (us_ne hus), below_drewN hb nq⟩
              by_cases ejk : j = k
              · subst ejk; intro e; rw [e] at heq; simp at heq
              · exact HNO.out j hj (by omega)
        | true =>
          have HF : Hid (findVar st.vars t.t = none) := findVar_none (.inl (us_eq hus))
          go_wp2_with fail
          go_meet
          case rel => exact ⟨HF.out, hb⟩
      · have HF : Hid (findVar st.vars t.t = none) := findVar_none (by
          rcases HUN.out with e | e
          · exact .inr (fun j hj => absurd hj (by omega))
          · exact .inr (fun j hj => HNO.out j hj (by omega)))
        obtain ⟨ao, cap, hao⟩ := row_form hP.vars
        rw [hao] at d2
        go_wp2_with fail
        go_meet
        case rel => exact ⟨HF.out, hb⟩
  case rest =>
    obtain ⟨hfn, hb⟩ := hcut
    obtain ⟨e1, e2, e3⟩ := varW_t hb
    have hP : PIn wc bp toks lv vv st := PIn.below (varW_P h) (below_at hb (varW_size w t))
    have d2 := hP.c2
    obtain ⟨b0, b1, b2, b3, b4, bf⟩ := box5 e3
    have HFN := hide hfn
    clear hfn
    obtain ⟨w1, hw1⟩ : ∃ w1, w1 = wc := ⟨_, rfl⟩
    subst hw1
    obtain ⟨ao, cap, hao⟩ := row_form hP.vars
    have d2' := d2
    rw [hao] at d2'
    clear hao d2
    go_upto_if 37 with fail
    go_cut [] (fun wx => PIn wx bp toks lv vv (varSt st t) ∧ Fr bp vv vv w1 wx)
    case first =>
      by_cases h12 : st.vars.length = 12
      · have HS : Hid (varSt st t = st.fault 4 t.a) := by unfold Hid varSt; rw [if_pos h12]
        go_wp2_with (go_at_call 68; refine (fault_any hP _ _).mono ?_; rintro e w2 ⟨rfl, hp2, hfr2⟩)
        go_meet
        case rel => rw [HS.out]; exact ⟨hp2, hfr2⟩
      · have HS : Hid (varSt st t = st) := by unfold Hid varSt; rw [if_neg h12]
        go_wp2_with fail
        go_meet
        case rel => rw [HS.out]; exact ⟨hP, Fr.refl _ _ _⟩
    case rest =>
      obtain ⟨hP2, hfr⟩ := hcut
      obtain ⟨m1, m2, m3⟩ := h.new (b := w.heap.size) (by omega)
      obtain ⟨n1, n2, n3⟩ := h.new (b := w.heap.size + 1) (by omega)
      have g1 : wc.cell? ⟨w.heap.size, 1, none⟩ = some (.string t.t) := hfr.cell e1 m1 m3
      have g3 : wc.heap[w.heap.size + 1]? = some (.cells exZero 125 (0, 0)) := by
        rw [hfr.block _ (Array.getElem?_eq_some_iff.1 e3).1 n1 n3]; exact e3
      have hov : wc.ownsRow 0 9 1 vv st.vars.length (st.vars.map Value.string) := by have := hP2.vars; rwa [varSt_vars] at this
      have q2 := hP2.c2
      have qf := hP2.fz 2
      have hwz : w.heap.size + 2 ≤ wc.heap.size := by have := hb.size; rw [varW_size] at this; have := hfr.size; omega
      have hbz : bp < wc.heap.size := hP2.lt_size
      have hcel := hP2.cells
      have HC : Hid (∃ cs T, wc.heap[bp]? = some (.cells cs T (0, 0)) ∧ cs[2]? = some vv) := ⟨_, _, hcel, rfl⟩
      have hvb := h.vb
      clear b0 b1 b2 b3 b4 bf d2' e1 e2 e3 hc2 hcel
      obtain ⟨i0, hi, hz0, hz1, hz2⟩ := info_parts Tryz.infoStr
      go_wp2_with fail
      go_region_law (refine step_append_own2 rfl (.tmp 46) (.tmp 49) 48 rfl 0 9 i0 (.string ByteArray.empty) 1 16 Tryz.underlyingStrs hi hz0 hz1 hz2 rfl (by decide) vv _ _ (by simp [Act.eval]) ((own_below hov ((Below.refl _ _).drew)).alloc _) ⟨wc.heap.size, 0, none⟩ 1 1 [.string t.t] (by simp [Act.eval]) rfl (cell_one_new _ _ _) (by intro u hu; simp at hu; subst hu; rfl) (by unfold maxLen; omega) (by omega) (by simp) ?_; intro v' w2 ho hgr hnw; obtain ⟨zc, zf⟩ := grown_cell HC.out hgr hvb; obtain ⟨ao', cap', rfl⟩ := row_form ho; obtain ⟨b0, b1, b2, b3, b4, bf⟩ := box5 (grown_box g3 hgr n3))
      all_goals
        go_wp2_with fail
        exact bodyPost_ret (v := .agg #[.int .u8 118, .string ByteArray.empty, .int .i64 0, .int .i64 st.vars.length, .slice none 0 0]) (by simp [results, Tryz.results234, go_sem, b0, b1, b2, b3, b4]; rfl) rfl (varPost_new h he hv hb hP2 hfr HFN.out ho hgr hnw)
def Reads (fn : Nat) (toks : List Tok) (d : Int) (r : St → R Ex) : Prop :=
  ∀ (w : World) (bp : Nat) (lv vv : Value) (st : PS), PIn w bp toks lv vv st → st.err = 0 → st.vars.length ≤ 12 → st.deep = d →
    Calls Tryz.prog fn #[.pointer (some ⟨bp, 0, none⟩)] w fun e w' => EPost bp toks lv vv st w (r (st.i, st.vars)) e w'
def okB (w : World) (bp : Nat) (vv : Value) (br bx : Nat) (b : Nat) : Prop := w.heap.size ≤ b ∧ b ≠ bp ∧ vv.ownBlock ≠ some b ∧ b ≠ br ∧ b ≠ bx
structure Road (w : World) (bp : Nat) (toks : List Tok) (lv vv : Value) (st : PS) (br bx : Nat) (wr : World) (cs : List Value) (vv1 : Value) (st1 : PS) : Prop where
  shape : Shape5 cs
  box : wr.heap[bx]? = some (.cells cs.toArray 125 (0, 0))
  res : wr.heap[br]? = some (.cells exZero 125 (0, 0))
  P : PIn wr bp toks lv vv1 st1
  fr : Fr bp vv vv1 w wr
  deep : st1.deep = st.deep
  newR : w.heap.size ≤ br
  newX : w.heap.size ≤ bx
  ne : br ≠ bx
  vR : vv1.ownBlock ≠ some br
  vX : vv1.ownBlock ≠ some bx
  bpold : bp < w.heap.size
  lvold : ∀ b, lv.ownBlock = some b → b < w.heap.size
def Fin (w : World) (bp : Nat) (vv1 : Value) (st : PS) (br bx : Nat) (wr : World) (cs : List Value) (st1 : PS) : R Ex → Prop
  | .ok (x, s') => st1.err = 0 ∧ st1.i = s'.1 ∧ st1.vars = s'.2 ∧ st.i ≤ s'.1 ∧ s'.2.length ≤ 12 ∧ ERep wr (okB w bp vv1 br bx) x cs
  | .error (er, a) => st1.err = er ∧ st1.at_ = a ∧ er ≠ 0
theorem road_end {w : World} {bp : Nat} {toks : List Tok} {lv vv : Value} {st : PS} {br bx : Nat} {wr : World} {vv1 : Value} {st1 : PS} {x0 : Int} {x1 : ByteArray} {x2 x3 : Int} {x4 : Option Addr} {x5 x6 : Nat} {r : R Ex}
    (h : Road w bp toks lv vv st br bx wr [.int .u8 x0, .string x1, .int .i64 x2, .int .i64 x3, .slice x4 x5 x6] vv1 st1) (hf : Fin w bp vv1 st br bx wr [.int .u8 x0, .string x1, .int .i64 x2, .int .i64 x3, .slice x4 x5 x6] st1 r) :
    EPost bp toks lv vv st w r (.returned (.agg #[.int .u8 x0, .string x1, .int .i64 x2, .int .i64 x3, .slice x4 x5 x6])) (set5 wr br (.int .u8 x0) (.string x1) (.int .i64 x2) (.int .i64 x3) (.slice x4 x5 x6)) := by
  have n1 : br ≠ bp := by have := h.bpold; have := h.newR; omega
  have n2 : lv.ownBlock ≠ some br := fun e => by have := h.lvold br e; have := h.newR; omega
  refine ⟨_, vv1, st1, rfl, ⟨_, _, _, _, _, _, _, rfl⟩, h.P.set5 n1 n2 h.vR _ _ _ _ _, h.fr.set5 h.newR _ _ _ _ _, h.deep, ?_⟩
  cases r with
  | error e => exact hf
  | ok p =>
    obtain ⟨f1, f2, f3, f4, f5, f6⟩ := hf
    refine ⟨f1, f2, f3, f4, f5, ERep.frame (fun b hb _ => ?_) f6⟩
    exact ⟨set5_other _ _ _ _ _ _ _ _ hb.2.2.2.1, hb.1, hb.2.1, hb.2.2.1⟩
def OpsRel (w : World) (bp : Nat) (toks : List Tok) (lv vv : Value) (st : PS) (br bx : Nat) (part : St → R Ex) (isOp : Tok → Bool) (total : R Ex) (g : Nat) (wr : World) : Prop :=
  ∃ cs vv1 st1, Road w bp toks lv vv st br bx wr cs vv1 st1 ∧
    ((∃ f x, st1.err = 0 ∧ st1.vars.length ≤ 12 ∧ st.i ≤ st1.i ∧ toks.length - st1.i ≤ f ∧ toks.length - st1.i + 1 ≤ g ∧ opsLoop toks part isOp f x (st1.i, st1.vars) = total ∧ ERep wr (okB w bp vv1 br bx) x cs) ∨
     (∃ a : Nat, st1.err ≠ 0 ∧ total = .error (st1.err, a) ∧ st1.at_ = a))
theorem road_start {w w1 : World} {bp : Nat} {toks : List Tok} {lv vv vv1 : Value} {st st1 : PS} {cs : List Value} (h : PIn w bp toks lv vv st) (hs : Shape5 cs) (hP1 : PIn w1 bp toks lv vv1 st1)
    (hfr1 : Fr bp vv vv1 (w.alloc (.cells exZero 125)) w1) (hd : st1.deep = st.deep) :
    Road w bp toks lv vv st w.heap.size w1.heap.size (w1.alloc (.cells cs.toArray 125)) cs vv1 st1 := by
  have hz : w.heap.size + 1 ≤ w1.heap.size := by have := hfr1.size; simpa using this
  obtain ⟨n1, n2, n3⟩ := h.new (b := w.heap.size) (Nat.le_refl _)
  refine ⟨hs, heap_alloc_new _ _, ?_, hP1.alloc _, ?_, hd, Nat.le_refl _, by omega, by omega, ?_, ?_, h.lt_size, fun b e => h.blt b (.inr (.inl e))⟩
  · rw [Below.heap_alloc _ _ _ (by omega), hfr1.block _ (by simp) n1 n3]; exact heap_alloc_new _ _
  · exact ((Fr.of_below ((Below.refl _ _).alloc (Nat.le_refl _) _)).trans hfr1).alloc _
  · exact fun e => (hfr1.vnew _ e).elim n3 (fun q => by simp at q; omega)
  · exact (hP1.new (Nat.le_refl _)).2.2
theorem ops_start {w w1 : World} {bp : Nat} {toks : List Tok} {lv vv vv1 : Value} {st st1 : PS} {cs : List Value} {part part0 : St → R Ex} {isOp : Tok → Bool} {total : R Ex} (h : PIn w bp toks lv vv st) (hs : Shape5 cs) (hP1 : PIn w1 bp toks lv vv1 st1)
    (hfr1 : Fr bp vv vv1 (w.alloc (.cells exZero 125)) w1) (hd : st1.deep = st.deep) (hok : ErOk (part0 (st.i, st.vars)) st (w.alloc (.cells exZero 125)) w1 bp vv1 st1 cs)
    (ht : total = match part0 (st.i, st.vars) with | .error e => .error e | .ok (x, st') => opsLoop toks part isOp toks.length x st') :
    OpsRel w bp toks lv vv st w.heap.size w1.heap.size part isOp total (toks.length + 1) (w1.alloc (.cells cs.toArray 125)) := by
  refine ⟨cs, vv1, st1, road_start h hs hP1 hfr1 hd, ?_⟩
  cases hr : part0 (st.i, st.vars) with
  | error e =>
    rw [hr] at hok ht
    obtain ⟨e1, e2, e3⟩ := hok
    exact .inr ⟨e.2, by rw [e1]; exact e3, by rw [ht, e1], e2⟩
  | ok p =>
    rw [hr] at hok ht
    obtain ⟨f1, f2, f3, f4, f5, f6⟩ := hok
    refine .inl ⟨toks.length, p.1, f1, by rw [f3]; exact f5, by rw [f2]; exact f4, by omega, by omega, by rw [ht, f2, f3], ?_⟩
    refine ERep.frame (fun b hb hlt => ?_) f6
    have := hb.1
    simp at this
    exact ⟨Below.heap_alloc _ _ _ hlt, by omega, hb.2.1, hb.2.2, by omega, by omega⟩
theorem Road.bR {w : World} {bp : Nat} {toks : List Tok} {lv vv : Value} {st : PS} {br bx : Nat} {wr : World} {cs : List Value} {vv1 : Value} {st1 : PS} (h : Road w bp toks lv vv st br bx wr cs vv1 st1) : br < wr.heap.size := (Array.getElem?_eq_some_iff.1 h.res).1
theorem Road.bX {w : World} {bp : Nat} {toks : List Tok} {lv vv : Value} {st : PS} {br bx : Nat} {wr : World} {cs : List Value} {vv1 : Value} {st1 : PS} (h : Road w bp toks lv vv st br bx wr cs vv1 st1) : bx < wr.heap.size := (Array.getElem?_eq_some_iff.1 h.box).1
theorem Road.go {w : World} {bp : Nat} {toks : List Tok} {lv vv : Value} {st : PS} {br bx : Nat} {wr w' : World} {cs : List Value} {vv1 vv2 : Value} {st1 st2 : PS} (h : Road w bp toks lv vv st br bx wr cs vv1 st1)
    (hP : PIn w' bp toks lv vv2 st2) (hf : Fr bp vv1 vv2 wr w') (hd : st2.deep = st1.deep) : Road w bp toks lv vv st br bx w' cs vv2 st2 := by
  have hR := h.bR
  have hX := h.bX
  have n1 : br ≠ bp := by have := h.bpold; have := h.newR; omega
  have n2 : bx ≠ bp := by have := h.bpold; have := h.newX; omega
  exact ⟨h.shape, (hf.block bx hX n2 h.vX).trans h.box, (hf.block br hR n1 h.vR).trans h.res, hP, h.fr.trans hf, hd.trans h.deep, h.newR, h.newX, h.ne,
    fun e => (hf.vnew _ e).elim h.vR (fun q => by omega), fun e => (hf.vnew _ e).elim h.vX (fun q => by omega), h.bpold, h.lvold⟩
theorem ERep.go {w : World} {bp : Nat} {br bx : Nat} {wr w' : World} {cs : List Value} {vv1 vv2 : Value} {x : Ex} (h : ERep wr (okB w bp vv1 br bx) x cs) (hf : Fr bp vv1 vv2 wr w') : ERep w' (okB w bp vv2 br bx) x cs :=
  ERep.frame (fun b hb hlt => ⟨hf.block b hlt hb.2.1 hb.2.2.1, hb.1, hb.2.1, fun e => (hf.vnew _ e).elim hb.2.2.1 (fun q => by omega), hb.2.2.2.1, hb.2.2.2.2⟩) h
theorem ops_stop {w : World} {bp : Nat} {toks : List Tok} {lv vv : Value} {st : PS} {br bx : Nat} {wr w' : World} {cs : List Value} {vv1 : Value} {st1 : PS} {part : St → R Ex} {isOp : Tok → Bool} {total : R Ex} {f : Nat} {x : Ex}
    (h : Road w bp toks lv vv st br bx wr cs vv1 st1) (hb : Below wr.heap.size wr w') (e0 : st1.err = 0) (hv : st1.vars.length ≤ 12) (hi : st.i ≤ st1.i) (hops : opsLoop toks part isOp f x (st1.i, st1.vars) = total) (hE : ERep wr (okB w bp vv1 br bx) x cs)
    (hno : isOp (tk toks st1.i) = false) : ∃ cs vv1 st1, Road w bp toks lv vv st br bx w' cs vv1 st1 ∧ Fin w bp vv1 st br bx w' cs st1 total := by
  refine ⟨cs, vv1, st1, h.go (h.P.below hb) (Fr.of_below hb) rfl, ?_⟩
  have : total = .ok (x, (st1.i, st1.vars)) := by
    rw [← hops]
    cases f with
    | zero => rfl
    | succ f => rw [opsLoop, if_neg (by simp [hno])]
  rw [this]
  exact ⟨e0, rfl, rfl, hi, hv, hE.go (Fr.of_below hb)⟩
theorem ERep.two {w' : World} {Ok' : Nat → Prop} {x y : Ex} {cs ds : List Value} (n : ByteArray) {g : Nat} (hx : ERep w' Ok' x cs) (hy : ERep w' Ok' y ds) (hg : w'.heap[g]? = some (.cells (cs ++ ds).toArray 125 (0, 0))) (ho : Ok' g) :
    ERep w' Ok' (.cmp n [x, y]) [.int .u8 99, .string n, .int .i64 0, .int .i64 0, .slice (some ⟨g, 0, none⟩) 2 2] := by
  have h1 := hx.len
  have h2 := hy.len
  refine ERep.cmp n [x, y] g 2 (cs ++ ds).toArray (cs ++ ds) ho hg (Nat.le_refl _) (by unfold maxLen; omega) (by simp [h1, h2]) (by simp [List.take_of_length_le, h1, h2]) ?_
  have := ERepL.cons x [y] cs (ds ++ []) hx (ERepL.cons y [] ds [] hy .nil)
  simpa using this
theorem Road.fill {w : World} {bp : Nat} {toks : List Tok} {lv vv : Value} {st : PS} {br bx : Nat} {wr : World} {cs : List Value} {vv1 : Value} {st1 : PS} (h : Road w bp toks lv vv st br bx wr cs vv1 st1)
    (x0 : Int) (x1 : ByteArray) (x2 x3 : Int) (x4 : Option Addr) (x5 x6 : Nat) :
    Road w bp toks lv vv st br bx (set5 wr bx (.int .u8 x0) (.string x1) (.int .i64 x2) (.int .i64 x3) (.slice x4 x5 x6)) [.int .u8 x0, .string x1, .int .i64 x2, .int .i64 x3, .slice x4 x5 x6] vv1 st1 := by
  have n2 : bx ≠ bp := by have := h.bpold; have := h.newX; omega
  have n3 : lv.ownBlock ≠ some bx := fun e => by have := h.lvold bx e; have := h.newX; omega
  obtain ⟨y0, y1, y2, y3, y4, y5, y6, rfl⟩ := h.shape
  exact ⟨⟨_, _, _, _, _, _, _, rfl⟩, set5_same h.box _ _ _ _ _, (set5_other _ _ _ _ _ _ _ _ h.ne).trans h.res, h.P.set5 n2 n3 h.vX _ _ _ _ _, h.fr.set5 h.newX _ _ _ _ _, h.deep, h.newR, h.newX, h.ne, h.vR, h.vX, h.bpold, h.lvold⟩
theorem Road.alloc {w : World} {bp : Nat} {toks : List Tok} {lv vv : Value} {st : PS} {br bx : Nat} {wr : World} {cs : List Value} {vv1 : Value} {st1 : PS} (h : Road w bp toks lv vv st br bx wr cs vv1 st1) (o : Obj) : Road w bp toks lv vv st br bx (wr.alloc o) cs vv1 st1 :=
  h.go (h.P.alloc o) ((Fr.refl _ _ _).alloc o) rfl
theorem ERep.set5 {w : World} {bp : Nat} {br bx : Nat} {wr : World} {cs : List Value} {vv1 : Value} {x : Ex} (h : ERep wr (okB w bp vv1 br bx) x cs) (x0 x1 x2 x3 x4 : Value) : ERep (set5 wr bx x0 x1 x2 x3 x4) (okB w bp vv1 br bx) x cs :=
  ERep.frame (fun _ hb _ => ⟨set5_other _ _ _ _ _ _ _ _ hb.2.2.2.2, hb⟩) h
theorem ERep.alloc {wr : World} {Ok : Nat → Prop} {cs : List Value} {x : Ex} (h : ERep wr Ok x cs) (o : Obj) : ERep (wr.alloc o) Ok x cs :=
  ERep.frame (fun _ hb hlt => ⟨Below.heap_alloc _ _ _ hlt, hb⟩) h
theorem ops_step {w : World} {bp : Nat} {toks : List Tok} {lv vv : Value} {st : PS} {br bx : Nat} {wr W w4 : World} {vv2 vv3 : Value} {st2 st3 : PS} {part : St → R Ex} {isOp : Tok → Bool} {total : R Ex} {f gk : Nat} {x : Ex} {t : Tok}
    {y0 : Int} {y1 : ByteArray} {y2 y3 : Int} {y4 : Option Addr} {y5 y6 : Nat} {z0 : Int} {z1 : ByteArray} {z2 z3 : Int} {z4 : Option Addr} {z5 z6 : Nat}
    (hR : Road w bp toks lv vv st br bx wr [.int .u8 y0, .string y1, .int .i64 y2, .int .i64 y3, .slice y4 y5 y6] vv2 st2) (hW : Fr bp vv2 vv2 wr W)
    (hR3 : Road w bp toks lv vv st br bx w4 [.int .u8 y0, .string y1, .int .i64 y2, .int .i64 y3, .slice y4 y5 y6] vv3 st3) (hfr3 : Fr bp vv2 vv3 W w4)
    (hi : st.i ≤ st2.i) (hf : toks.length - st2.i ≤ f) (hgk : toks.length - st2.i + 1 ≤ gk) (hops : opsLoop toks part isOp f x (st2.i, st2.vars) = total) (hE : ERep wr (okB w bp vv2 br bx) x [.int .u8 y0, .string y1, .int .i64 y2, .int .i64 y3, .slice y4 y5 y6])
    (ht : t = tk toks st2.i) (hop : isOp t = true) (hok : ErOk (part (st2.i + 1, st2.vars)) st2.pass W w4 bp vv3 st3 [.int .u8 z0, .string z1, .int .i64 z2, .int .i64 z3, .slice z4 z5 z6]) :
    ∃ g', g' < gk ∧ OpsRel w bp toks lv vv st br bx part isOp total g'
      (((set5 w4 bx (.int .u8 99) (.string t.t) (.int .i64 0) (.int .i64 0) (.slice (some ⟨w4.heap.size + 1, 0, none⟩) 2 2)).alloc (.cells #[.int .u8 z0, .string z1, .int .i64 z2, .int .i64 z3, .slice z4 z5 z6] 125)).alloc
        (.cells #[.int .u8 y0, .string y1, .int .i64 y2, .int .i64 y3, .slice y4 y5 y6, .int .u8 z0, .string z1, .int .i64 z2, .int .i64 z3, .slice z4 z5 z6] 125)) := by
  have hlt := hR.P.lt
  obtain ⟨f, rfl⟩ : ∃ f', f = f' + 1 := ⟨f - 1, by omega⟩
  rw [opsLoop, ← ht, if_pos hop] at hops
  have hRn := ((hR3.fill 99 t.t 0 0 (some ⟨w4.heap.size + 1, 0, none⟩) 2 2).alloc (.cells #[.int .u8 z0, .string z1, .int .i64 z2, .int .i64 z3, .slice z4 z5 z6] 125)).alloc
    (.cells #[.int .u8 y0, .string y1, .int .i64 y2, .int .i64 y3, .slice y4 y5 y6, .int .u8 z0, .string z1, .int .i64 z2, .int .i64 z3, .slice z4 z5 z6] 125)
  have hbR := hR.bR
  have hbX := hR.bX
  have hWs := hW.size
  have h4s := hfr3.size
  cases hr : part (st2.i + 1, st2.vars) with
  | error e =>
    rw [hr] at hok hops
    obtain ⟨e1, e2, e3⟩ := hok
    exact ⟨0, by omega, _, _, _, hRn, .inr ⟨e.2, by rw [e1]; exact e3, by rw [← hops, e1], e2⟩⟩
  | ok p =>
    rw [hr] at hok hops
    obtain ⟨f1, f2, f3, f4, f5, f6⟩ := hok
    have f4' : st2.i + 1 ≤ p.2.1 := f4
    have hEx := (((hE.go hW).go hfr3).set5 (.int .u8 99) (.string t.t) (.int .i64 0) (.int .i64 0) (.slice (some ⟨w4.heap.size + 1, 0, none⟩) 2 2)).alloc (.cells #[.int .u8 z0, .string z1, .int .i64 z2, .int .i64 z3, .slice z4 z5 z6] 125) |>.alloc
      (.cells #[.int .u8 y0, .string y1, .int .i64 y2, .int .i64 y3, .slice y4 y5 y6, .int .u8 z0, .string z1, .int .i64 z2, .int .i64 z3, .slice z4 z5 z6] 125)
    have f6' : ERep w4 (okB w bp vv3 br bx) p.1 [.int .u8 z0, .string z1, .int .i64 z2, .int .i64 z3, .slice z4 z5 z6] :=
      ERep.frame (fun b hb _ => ⟨rfl, by have := hb.1; have := hR.fr.size; omega, hb.2.1, hb.2.2, by have := hb.1; omega, by have := hb.1; omega⟩) f6
    have hEy := (f6'.set5 (.int .u8 99) (.string t.t) (.int .i64 0) (.int .i64 0) (.slice (some ⟨w4.heap.size + 1, 0, none⟩) 2 2)).alloc (.cells #[.int .u8 z0, .string z1, .int .i64 z2, .int .i64 z3, .slice z4 z5 z6] 125) |>.alloc
      (.cells #[.int .u8 y0, .string y1, .int .i64 y2, .int .i64 y3, .slice y4 y5 y6, .int .u8 z0, .string z1, .int .i64 z2, .int .i64 z3, .slice z4 z5 z6] 125)
    refine ⟨toks.length - st3.i + 1, by rw [f2]; have := hR3.P.lt; omega, _, _, _, hRn, .inl ⟨f, .cmp t.t [x, p.1], f1, by rw [f3]; exact f5, by rw [f2]; omega, by rw [f2]; omega, by omega, by rw [f2, f3]; exact hops, ?_⟩⟩
    refine ERep.two t.t hEx hEy ?_ ?_
    · have := heap_alloc_new ((set5 w4 bx (.int .u8 99) (.string t.t) (.int .i64 0) (.int .i64 0) (.slice (some ⟨w4.heap.size + 1, 0, none⟩) 2 2)).alloc (.cells #[.int .u8 z0, .string z1, .int .i64 z2, .int .i64 z3, .slice z4 z5 z6] 125)) (.cells #[.int .u8 y0, .string y1, .int .i64 y2, .int .i64 y3, .slice y4 y5 y6, .int .u8 z0, .string z1, .int .i64 z2, .int .i64 z3, .slice z4 z5 z6] 125)
      rw [show ((set5 w4 bx (.int .u8 99) (.string t.t) (.int .i64 0) (.int .i64 0) (.slice (some ⟨w4.heap.size + 1, 0, none⟩) 2 2)).alloc (.cells #[.int .u8 z0, .string z1, .int .i64 z2, .int .i64 z3, .slice z4 z5 z6] 125)).heap.size = w4.heap.size + 1 by simp [set5_size]] at this
      exact this
    · have hsz := hR.fr.size
      have hbp := hR.bpold
      exact ⟨by omega, by omega, fun e => by have := hR3.P.blt _ (.inr (.inr e)); omega, by omega, by omega⟩
theorem B_beq (t : ByteArray) (l : List UInt8) : decide (t = B l) = (t.toList == l) := by
  rw [Bool.eq_iff_iff, decide_eq_true_iff, beq_iff_eq]
  constructor
  · rintro rfl; exact B_toList l
  · intro h; exact BA_ext (by rw [B_toList]; exact h)
theorem isMul_eq (t : Tok) : isMul t = ((t.k == 115 && (t.t.toList == [42] || t.t.toList == [47, 47])) || (t.k == 97 && t.t.toList == [109, 111, 100])) := by
  unfold isMul; rw [B_beq, B_beq, B_beq]
theorem isAdd_eq (t : Tok) : isAdd t = (t.k == 115 && (t.t.toList == [43] || t.t.toList == [45])) := by
  unfold isAdd; rw [B_beq, B_beq]
theorem set_alloc_cell (w : World) (a : Addr) (v : Value) (cs : Array Value) (T : TypeId) (j : Nat) : ((w.setCell a v).alloc (.cells cs T)).cell? ⟨w.heap.size, j, none⟩ = cs[j]? := by
  have e : (w.setCell a v).heap.size = w.heap.size := by simp [World.setCell]
  rw [← e]; exact cell_of_block (heap_alloc_new _ _) j
theorem isMul_end {t : Tok} (h : isMul t = true) : t.k ≠ 101 := by
  intro e; simp [isMul, e] at h
theorem isAdd_end {t : Tok} (h : isAdd t = true) : t.k ≠ 101 := by
  intro e; simp [isAdd, e] at h
theorem product_any {toks : List Tok} {d : Int} {prim : St → R Ex} (hg : GoodToks toks) (hp : Reads 146 toks d prim) : Reads 97 toks d (productOf toks prim) := by
  intro w bp lv vv st h he hv hd
  have HP := hide hp
  clear hp
  obtain ⟨total, htot⟩ : ∃ t, t = productOf toks prim (st.i, st.vars) := ⟨_, rfl⟩
  rw [← htot]
  have HT := hide htot
  clear htot
  go_enter Tryz.func97, Tryz.ntmps97
  go_upto_block 0 with (go_at_call 146; refine (HP.out _ _ _ _ _ (h.alloc _) he hv hd).mono ?_; rintro e w1 ⟨cs, vv1, st1, rfl, ⟨x0, x1, x2, x3, x4, x5, x6, rfl⟩, hP1, hfr1, hdp1, hok1⟩)
  have hS := ops_start (part := prim) (isOp := isMul) h ⟨_, _, _, _, _, _, _, rfl⟩ hP1 hfr1 hdp1 hok1 HT.out
  have hbx : w.heap.size < w1.heap.size := by have := hfr1.size; simp at this; omega
  obtain ⟨bx, hbx'⟩ : ∃ b, b = w1.heap.size := ⟨_, rfl⟩
  have HS := hide hS
  clear hS hok1 hfr1 hP1 hdp1
  go_cut [] (fun wx => ∃ cs vv1 st1, Road w bp toks lv vv st w.heap.size w1.heap.size wx cs vv1 st1 ∧ Fin w bp vv1 st w.heap.size w1.heap.size wx cs st1 total)
  case first =>
    go_wp2_with fail
    go_loopg [] (toks.length + 1) (fun g wr => OpsRel w bp toks lv vv st w.heap.size w1.heap.size prim isMul total g wr)
    case atStart => exact HS.out
    case round =>
      obtain ⟨cs, vv2, st2, hR, hrel⟩ := hrel
      obtain ⟨y0, y1, y2, y3, y4, y5, y6, rfl⟩ := hR.shape
      have c4 := hR.P.c4
      rcases hrel with ⟨f, x, e0, hv2, hi2, hf, hgk, hops, hE⟩ | ⟨a, e0, htt, hat⟩
      · have e0' : (st2.err == 0) = true := by simpa using e0
        have HN := hide (next_any hR.P hg)
        obtain ⟨t, ht⟩ : ∃ t, t = tk toks st2.i := ⟨_, rfl⟩
        rw [← ht] at HN
        have HOP := hide hops
        have HTK := hide ht
        have hR' := hide hR
        clear ht hops
        go_upto_region 4 with (go_at_call 67; refine HN.out.mono ?_; rintro e w2 ⟨rfl, hb2⟩; unfold tokV)
        go_cut [37] (fun b wx => b = .bool (!isMul t) ∧ w2.alloc (.cells #[.int .u8 t.k, .string t.t, .int .i64 t.a] 133) = wx)
        case first =>
          go_wp2_with fail
          all_goals
            go_meet
            case rel => go_light; rw [isMul_eq]; refine ⟨?_, ?_⟩ <;> simp [*]
        case rest =>
          obtain ⟨rfl, rfl⟩ := hcut
          cases hm : isMul t with
          | false =>
            go_wp2_with fail
            go_meet
            case rel => exact ops_stop hR (hb2.alloc hb2.size _) e0 hv2 hi2 HOP.out hE (by rw [← HTK.out]; exact hm)
          | true =>
            have h2 := hR.P.below hb2
            have p1 := h2.c1
            have pf := h2.fz 1
            have hz2 := h2.lt_size
            have hlt := h2.lt
            have hsm := hg.small
            have hnx : st2.i + 1 < toks.length := hg.next hlt (by rw [← HTK.out]; exact isMul_end hm)
            have hdp2 : st2.deep = d := hR.deep.trans hd
            have HR2 : Hid (Road w bp toks lv vv st w.heap.size w1.heap.size ((w2.setCell ⟨bp, 1, none⟩ (.int .i64 ((st2.i : Int) + 1))).alloc (.cells #[.int .u8 t.k, .string t.t, .int .i64 t.a] 133)) _ vv2 st2.pass) :=
              hR.go ((h2.pass hnx).alloc _) (((Fr.of_below hb2).setBp _ _).alloc _) rfl
            have HT2 : Hid (((w2.setCell ⟨bp, 1, none⟩ (.int .i64 ((st2.i : Int) + 1))).alloc (.cells #[.int .u8 t.k, .string t.t, .int .i64 t.a] 133)).cell? ⟨w2.heap.size, 1, none⟩ = some (.string t.t)) := by
              unfold Hid; rw [set_alloc_cell]; rfl
            obtain ⟨nt1, nt2, nt3⟩ := h2.new (b := w2.heap.size) (Nat.le_refl _)
            go_wp2_with (go_at_call 146; refine (HP.out _ _ _ _ _ ((h2.pass hnx).alloc _) e0 hv2 hdp2).mono ?_; rintro e w4 ⟨ds, vv3, st3, rfl, ⟨z0, z1, z2, z3, z4, z5, z6, rfl⟩, hP3, hfr3, hdp3, hok3⟩; have hR3 := HR2.out.go hP3 hfr3 hdp3; obtain ⟨c0, c1, c2, c3, c4, cf⟩ := box5 hR3.box; have ct := hfr3.cell HT2.out nt1 nt3; have hbx4 := hR3.bX; have ht4 : w2.heap.size < w4.heap.size := World.block_lt_of_cell? w4 _ ct)
            obtain ⟨g', hg', hrel'⟩ := ops_step hR (((Fr.of_below hb2).setBp _ _).alloc _) hR3 hfr3 hi2 hf hgk HOP.out hE HTK.out hm hok3
            go_roundg g'
            case measure => exact hg'
            case rel => exact hrel'
      · have e0' : (st2.err == 0) = false := by simpa using e0
        go_wp2_with fail
        go_meet
        case rel => exact ⟨_, vv2, st2, hR, by rw [htt]; exact ⟨rfl, hat, e0⟩⟩
  case rest =>
    obtain ⟨cs, vv2, st2, hR, hfin⟩ := hcut
    obtain ⟨y0, y1, y2, y3, y4, y5, y6, rfl⟩ := hR.shape
    obtain ⟨c0, c1, c2, c3, c4, cf⟩ := box5 hR.box
    obtain ⟨d0, d1, d2, d3, d4, df⟩ := box5 hR.res
    go_wp2_with fail
    exact bodyPost_ret (v := .agg #[.int .u8 y0, .string y1, .int .i64 y2, .int .i64 y3, .slice y4 y5 y6]) (by simp [results, Tryz.results97, go_sem, d0, d1, d2, d3, d4]) rfl (road_end hR hfin)
theorem expr_any {toks : List Tok} {d : Int} {prim : St → R Ex} (hg : GoodToks toks) (hp : Reads 97 toks d (productOf toks prim)) : Reads 64 toks d (exprOf toks prim) := by
  intro w bp lv vv st h he hv hd
  have HP := hide hp
  clear hp
  obtain ⟨total, htot⟩ : ∃ t, t = exprOf toks prim (st.i, st.vars) := ⟨_, rfl⟩
  rw [← htot]
  have HT := hide htot
  clear htot
  go_enter Tryz.func64, Tryz.ntmps64
  go_upto_block 0 with (go_at_call 97; refine (HP.out _ _ _ _ _ (h.alloc _) he hv hd).mono ?_; rintro e w1 ⟨cs, vv1, st1, rfl, ⟨x0, x1, x2, x3, x4, x5, x6, rfl⟩, hP1, hfr1, hdp1, hok1⟩)
  have hS := ops_start (part := productOf toks prim) (isOp := isAdd) h ⟨_, _, _, _, _, _, _, rfl⟩ hP1 hfr1 hdp1 hok1 HT.out
  have hbx : w.heap.size < w1.heap.size := by have := hfr1.size; simp at this; omega
  obtain ⟨bx, hbx'⟩ : ∃ b, b = w1.heap.size := ⟨_, rfl⟩
  have HS := hide hS
  clear hS hok1 hfr1 hP1 hdp1
  go_cut [] (fun wx => ∃ cs vv1 st1, Road w bp toks lv vv st w.heap.size w1.heap.size wx cs vv1 st1 ∧ Fin w bp vv1 st w.heap.size w1.heap.size wx cs st1 total)
  case first =>
    go_wp2_with fail
    go_loopg [] (toks.length + 1) (fun g wr => OpsRel w bp toks lv vv st w.heap.size w1.heap.size (productOf toks prim) isAdd total g wr)
    case atStart => exact HS.out
    case round =>
      obtain ⟨cs, vv2, st2, hR, hrel⟩ := hrel
      obtain ⟨y0, y1, y2, y3, y4, y5, y6, rfl⟩ := hR.shape
      have c4 := hR.P.c4
      rcases hrel with ⟨f, x, e0, hv2, hi2, hf, hgk, hops, hE⟩ | ⟨a, e0, htt, hat⟩
      · have e0' : (st2.err == 0) = true := by simpa using e0
        have HN := hide (next_any hR.P hg)
        obtain ⟨t, ht⟩ : ∃ t, t = tk toks st2.i := ⟨_, rfl⟩
        rw [← ht] at HN
        have HOP := hide hops
        have HTK := hide ht
        have hR' := hide hR
        clear ht hops
        go_upto_region 4 with (go_at_call 67; refine HN.out.mono ?_; rintro e w2 ⟨rfl, hb2⟩; unfold tokV)
        go_cut [27] (fun b wx => b = .bool (!isAdd t) ∧ w2.alloc (.cells #[.int .u8 t.k, .string t.t, .int .i64 t.a] 133) = wx)
        case first =>
          go_wp2_with fail
          all_goals
            go_meet
            case rel => go_light; rw [isAdd_eq]; refine ⟨?_, ?_⟩ <;> simp [*]
        case rest =>
          obtain ⟨rfl, rfl⟩ := hcut
          cases hm : isAdd t with
          | false =>
            go_wp2_with fail
            go_meet
            case rel => exact ops_stop hR (hb2.alloc hb2.size _) e0 hv2 hi2 HOP.out hE (by rw [← HTK.out]; exact hm)
          | true =>
            have h2 := hR.P.below hb2
            have p1 := h2.c1
            have pf := h2.fz 1
            have hz2 := h2.lt_size
            have hlt := h2.lt
            have hsm := hg.small
            have hnx : st2.i + 1 < toks.length := hg.next hlt (by rw [← HTK.out]; exact isAdd_end hm)
            have hdp2 : st2.deep = d := hR.deep.trans hd
            have HR2 : Hid (Road w bp toks lv vv st w.heap.size w1.heap.size ((w2.setCell ⟨bp, 1, none⟩ (.int .i64 ((st2.i : Int) + 1))).alloc (.cells #[.int .u8 t.k, .string t.t, .int .i64 t.a] 133)) _ vv2 st2.pass) :=
              hR.go ((h2.pass hnx).alloc _) (((Fr.of_below hb2).setBp _ _).alloc _) rfl
            have HT2 : Hid (((w2.setCell ⟨bp, 1, none⟩ (.int .i64 ((st2.i : Int) + 1))).alloc (.cells #[.int .u8 t.k, .string t.t, .int .i64 t.a] 133)).cell? ⟨w2.heap.size, 1, none⟩ = some (.string t.t)) := by
              unfold Hid; rw [set_alloc_cell]; rfl
            obtain ⟨nt1, nt2, nt3⟩ := h2.new (b := w2.heap.size) (Nat.le_refl _)
            go_wp2_with (go_at_call 97; refine (HP.out _ _ _ _ _ ((h2.pass hnx).alloc _) e0 hv2 hdp2).mono ?_; rintro e w4 ⟨ds, vv3, st3, rfl, ⟨z0, z1, z2, z3, z4, z5, z6, rfl⟩, hP3, hfr3, hdp3, hok3⟩; have hR3 := HR2.out.go hP3 hfr3 hdp3; obtain ⟨c0, c1, c2, c3, c4, cf⟩ := box5 hR3.box; have ct := hfr3.cell HT2.out nt1 nt3; have hbx4 := hR3.bX; have ht4 : w2.heap.size < w4.heap.size := World.block_lt_of_cell? w4 _ ct)
            obtain ⟨g', hg', hrel'⟩ := ops_step hR (((Fr.of_below hb2).setBp _ _).alloc _) hR3 hfr3 hi2 hf hgk HOP.out hE HTK.out hm hok3
            go_roundg g'
            case measure => exact hg'
            case rel => exact hrel'
      · have e0' : (st2.err == 0) = false := by simpa using e0
        go_wp2_with fail
        go_meet
        case rel => exact ⟨_, vv2, st2, hR, by rw [htt]; exact ⟨rfl, hat, e0⟩⟩
  case rest =>
    obtain ⟨cs, vv2, st2, hR, hfin⟩ := hcut
    obtain ⟨y0, y1, y2, y3, y4, y5, y6, rfl⟩ := hR.shape
    obtain ⟨c0, c1, c2, c3, c4, cf⟩ := box5 hR.box
    obtain ⟨d0, d1, d2, d3, d4, df⟩ := box5 hR.res
    go_wp2_with fail
    exact bodyPost_ret (v := .agg #[.int .u8 y0, .string y1, .int .i64 y2, .int .i64 y3, .slice y4 y5 y6]) (by simp [results, Tryz.results64, go_sem, d0, d1, d2, d3, d4]) rfl (road_end hR hfin)
end Go.Proofs.YtodpkdajbnceoaaGreatDoor
