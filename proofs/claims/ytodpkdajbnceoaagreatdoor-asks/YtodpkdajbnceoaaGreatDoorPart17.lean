import Derived.Test.YtodpkdajbnceoaaGreatDoorPart16
import Derived.Test.YtodpkdajbnceoaaGreatDoorPart12
set_option linter.all false
set_option maxHeartbeats 2000000
set_option maxRecDepth 100000
namespace Go.Proofs.YtodpkdajbnceoaaGreatDoor
open Go.RowKit
structure Gl where
  b : Bd
  cs : List Value
  only : Bool
  vv : Value
  vs : List Nat
  cut : Nat
  rest : Int
def Gl.cells (g : Gl) : List Value := g.cs ++ [.bool g.only, g.vv, .int .i64 g.cut, .int .i64 g.rest]
structure Ag where
  mark : Nat
  todo : Int
def Ag.cells (a : Ag) : List Value := [.int .i64 a.mark, .int .i64 a.todo, .bool false, .int .i64 0, .string ByteArray.empty, .slice none 0 0]
mutual
def bdOk (n : Nat) : Bd → Prop
  | .mk k _ args parts => exOkL n args ∧ szL args ≤ 2001 ∧ (k = 33 ∨ k = 44 ∨ (k = 59 ∧ parts.length = 2) ∨ (k = 63 ∧ parts.length = 3) ∨ (k = 126 ∧ parts.length = 1) ∨ k = 103) ∧ parts.length ≤ 3000 ∧ bdOkL n parts
def bdOkL (n : Nat) : List Bd → Prop
  | [] => True
  | x :: l => bdOk n x ∧ bdOkL n l
end
structure RowV (w : World) (hb : Nat) (V : _root_.Fin 6 → Value) (n : Nat) (v : Value) (vs : List Nat) : Prop where
  own : w.ownsRow 0 3 1 v vs.length (intsV vs)
  vn : ∀ b, v.ownBlock = some b → ¬ HM hb V b
  lt : ∀ a ∈ vs, a < n
  few : vs.length ≤ 13
structure GlOk (w : World) (H0 hb : Nat) (V : _root_.Fin 6 → Value) (n : Nat) (g : Gl) : Prop where
  shape : Shape4 g.cs
  row : RowV w hb V n g.vv g.vs
  body : g.only = false → BRep w (fun b => b < H0) g.b g.cs ∧ bdOk g.vs.length g.b
structure Wk where
  h : Hp
  ls : List Gl
  todo : Int
  bk : List Ag
structure Fix where
  a : Value
  b : Value
  c : Value
  x : Value
  xs : List Value
  q : Option Nat
  qc : Array Value
structure ExtIn (w : World) (H0 hb : Nat) (V : _root_.Fin 6 → Value) (fx : Fix) : Prop where
  own : w.ownsRow H0 9 1 fx.x fx.xs.length fx.xs
  nm : ∀ b, fx.x.ownBlock = some b → ¬ HM hb V b
  kept : ∀ b, fx.q = some b → w.heap[b]? = some (.cells fx.qc 80 (0, 0))
structure WkIn (H0 : Nat) (w : World) (wk hb : Nat) (V : _root_.Fin 6 → Value) (avs : List Value) (most : Int) (lv kv : Value) (fx : Fix) (s : Wk) : Prop where
  cells : w.heap[wk]? = some (.cells #[.pointer (some ⟨hb, 0, none⟩), fx.a, lv, .int .i64 s.todo, kv, fx.b, fx.c, .int .i64 0] 111 (0, 0))
  S : Sound hb most w V avs s.h
  lo : w.ownsRow H0 178 8 lv s.ls.length (s.ls.flatMap Gl.cells)
  bo : w.ownsRow H0 180 6 kv s.bk.length (s.bk.flatMap Ag.cells)
  gl : ∀ g ∈ s.ls, GlOk w H0 hb V s.h.T.length g
  nw : H0 ≤ wk
  nh : ∀ b, HM hb V b → H0 ≤ b
  ext : ExtIn w H0 hb V fx
theorem own_ty {w : World} {n m sz : Nat} {T T' : TypeId} {v : Value} {xs : List Value} {cs : Array Value} {fz : Nat × Nat} {b : Nat} (h : w.ownsRow n T sz v m xs) (hb : w.heap[b]? = some (.cells cs T' fz)) (hT : T ≠ T') : v.ownBlock ≠ some b := by
  intro e
  rcases h.2 with ⟨q, _⟩ | ⟨g, cap, cur, q, _, q4, _⟩
  · rw [q] at e; cases e
  · rw [q] at e
    have hg : g = b := Option.some.inj e
    rw [hg, hb] at q4
    injection q4 with q4
    injection q4 with _ q5
    exact hT q5.symm
theorem own_cells {w : World} {n m sz : Nat} {T : TypeId} {v : Value} {xs : List Value} {b : Nat} (h : w.ownsRow n T sz v m xs) (e : v.ownBlock = some b) : ∃ cs, w.heap[b]? = some (.cells cs T (0, 0)) := by
  rcases h.2 with ⟨q, _⟩ | ⟨g, cap, cur, q, _, q4, _⟩
  · rw [q] at e; cases e
  · rw [q] at e
    have hg : g = b := Option.some.inj e
    exact ⟨cur, hg ▸ q4⟩
theorem HM_ty {w : World} {hb : Nat} {V : _root_.Fin 6 → Value} {C : _root_.Fin 6 → List Value} {cost most err : Int} (h : HIn w hb V C cost most err) {b : Nat} (hm : HM hb V b) : ∃ cs T, w.heap[b]? = some (.cells cs T (0, 0)) ∧ (T = 119 ∨ ∃ i, T = rowT i) := by
  rcases hm with rfl | ⟨i, hi⟩
  · exact ⟨_, _, h.cells, .inl rfl⟩
  · obtain ⟨cs, q⟩ := own_cells (h.own i) hi
    exact ⟨cs, _, q, .inr ⟨i, rfl⟩⟩
theorem HM_not {w : World} {hb : Nat} {V : _root_.Fin 6 → Value} {C : _root_.Fin 6 → List Value} {cost most err : Int} (h : HIn w hb V C cost most err) {b : Nat} {cs : Array Value} {T : TypeId} (hb' : w.heap[b]? = some (.cells cs T (0, 0))) (hT : T = 178 ∨ T = 180 ∨ T = 111) : ¬ HM hb V b := by
  intro hm
  obtain ⟨cs', T', q, hT'⟩ := HM_ty h hm
  rw [hb'] at q
  injection q with q
  injection q with _ q
  subst q
  rcases hT' with e | ⟨i, e⟩
  · rcases hT with h | h | h <;> rw [h] at e <;> exact absurd e (by decide)
  · rcases hT with h | h | h <;> rw [h] at e <;> revert e <;> revert i <;> decide
theorem HM_notQ {w : World} {hb : Nat} {V : _root_.Fin 6 → Value} {C : _root_.Fin 6 → List Value} {cost most err : Int} (h : HIn w hb V C cost most err) {b : Nat} {cs : Array Value} (hb' : w.heap[b]? = some (.cells cs 80 (0, 0))) : ¬ HM hb V b := by
  intro hm
  obtain ⟨cs', T', q, hT'⟩ := HM_ty h hm
  rw [hb'] at q
  injection q with q
  injection q with _ q
  subst q
  rcases hT' with e | ⟨i, e⟩
  · exact absurd e (by decide)
  · revert e; revert i; decide
section
variable {H0 : Nat} {w w' : World} {wk hb : Nat} {V : _root_.Fin 6 → Value} {avs : List Value} {most : Int} {lv kv : Value} {fx : Fix} {s : Wk}
theorem WkIn.lt (h : WkIn H0 w wk hb V avs most lv kv fx s) : wk < w.heap.size := (Array.getElem?_eq_some_iff.1 h.cells).1
theorem WkIn.size (h : WkIn H0 w wk hb V avs most lv kv fx s) : H0 ≤ w.heap.size := Nat.le_trans h.nw (Nat.le_of_lt h.lt)
theorem Sound.keep {h : Hp} (S : Sound hb most w V avs h) (hk : ∀ b, HM hb V b → w'.heap[b]? = w.heap[b]?) (hk2 : ∀ u ∈ avs, ∀ b, u.ownBlock = some b → w'.heap[b]? = w.heap[b]?) : Sound hb most w' V avs h :=
  (S.tabB.keep hk hk2).sound S (List.prefix_refl _) S.nds S.H.small
theorem WkIn.others (h : WkIn H0 w wk hb V avs most lv kv fx s) (hk : ∀ (b : Nat) (cs : Array Value) (T : TypeId), w.heap[b]? = some (Obj.cells cs T (0, 0)) → T ≠ 178 → T ≠ 180 → T ≠ 111 → w'.heap[b]? = w.heap[b]?) (hB : Below H0 w w') :
    Sound hb most w' V avs s.h ∧ (∀ g, GlOk w H0 hb V s.h.T.length g → GlOk w' H0 hb V s.h.T.length g) ∧ ExtIn w' H0 hb V fx := by
  have hrow : ∀ {v : Value} {m : Nat} {xs : List Value}, w.ownsRow 0 3 1 v m xs → w'.ownsRow 0 3 1 v m xs := fun ho => own_keep ho fun b e => by
    obtain ⟨cs, q⟩ := own_cells ho e
    exact hk b cs _ q (by decide) (by decide) (by decide)
  refine ⟨h.S.keep (fun b q => ?_) (fun u hu b q => ?_), ⟨fun g hg => ⟨hg.shape, ⟨hrow hg.row.own, hg.row.vn, hg.row.lt, hg.row.few⟩, fun ho => ⟨(hg.body ho).1.frame (fun b q _ => ⟨hB.block b q, q⟩), (hg.body ho).2⟩⟩, ⟨own_keep h.ext.own fun b e => ?_, h.ext.nm, fun b e => (hk b _ _ (h.ext.kept b e) (by decide) (by decide) (by decide)).trans (h.ext.kept b e)⟩⟩⟩
  · obtain ⟨cs, T, q1, q2⟩ := HM_ty h.S.H.tab.H q
    have n1 : T ≠ 178 ∧ T ≠ 180 ∧ T ≠ 111 := by
      rcases q2 with e | ⟨i, e⟩
      · subst e; decide
      · subst e; clear q1; revert i; decide
    exact hk b cs T q1 n1.1 n1.2.1 n1.2.2
  · obtain ⟨i, hi, rfl⟩ := List.getElem_of_mem hu
    obtain ⟨cs, q1⟩ := own_cells (h.S.H.tab.args i (by rw [← h.S.H.tab.la]; exact hi) hi).1 q
    exact hk b cs _ q1 (by decide) (by decide) (by decide)
  · obtain ⟨cs, q⟩ := own_cells h.ext.own e
    exact hk b cs _ q (by decide) (by decide) (by decide)
end
theorem Tryz.infoGoals : (Tryz.prog.info? 178).map (fun i => (i.zero, i.size, i.bytes)) = some (some (.agg #[.int .u8 0, .string ByteArray.empty, .slice none 0 0, .slice none 0 0, .bool false, .slice none 0 0, .int .i64 0, .int .i64 0]), 8, 120) := by kernel_rfl
theorem Tryz.infoAgain : (Tryz.prog.info? 180).map (fun i => (i.zero, i.size, i.bytes)) = some (some (.agg #[.int .i64 0, .int .i64 0, .bool false, .int .i64 0, .string ByteArray.empty, .slice none 0 0]), 6, 72) := by kernel_rfl
theorem Tryz.underlyingGoals : Tryz.prog.underlying 108 = some (.slice 178) := by kernel_rfl
theorem Tryz.underlyingAgains : Tryz.prog.underlying 109 = some (.slice 180) := by kernel_rfl
structure KFr (wk : Nat) (lv lv' kv kv' : Value) (w w' : World) : Prop where
  block : ∀ b, b < w.heap.size → b ≠ wk → lv.ownBlock ≠ some b → kv.ownBlock ≠ some b → w'.heap[b]? = w.heap[b]?
  size : w.heap.size ≤ w'.heap.size
  lnew : ∀ b, lv'.ownBlock = some b → lv.ownBlock = some b ∨ w.heap.size ≤ b
  knew : ∀ b, kv'.ownBlock = some b → kv.ownBlock = some b ∨ w.heap.size ≤ b
theorem KFr.refl (wk : Nat) (lv kv : Value) (w : World) : KFr wk lv lv kv kv w w := ⟨fun _ _ _ _ _ => rfl, Nat.le_refl _, fun _ h => .inl h, fun _ h => .inl h⟩
theorem KFr.of_below {wk : Nat} {lv kv : Value} {w w' : World} (h : Below w.heap.size w w') : KFr wk lv lv kv kv w w' := ⟨fun b hb _ _ _ => h.block b hb, h.size, fun _ h => .inl h, fun _ h => .inl h⟩
theorem KFr.trans {wk : Nat} {l0 l1 l2 k0 k1 k2 : Value} {a b c : World} (h : KFr wk l0 l1 k0 k1 a b) (q : KFr wk l1 l2 k1 k2 b c) : KFr wk l0 l2 k0 k2 a c :=
  ⟨fun x hx n1 n2 n3 => by
      have hs := h.size
      rw [q.block x (by omega) n1 (fun e => (h.lnew x e).elim n2 (fun r => by omega)) (fun e => (h.knew x e).elim n3 (fun r => by omega))]
      exact h.block x hx n1 n2 n3, Nat.le_trans h.size q.size,
    fun x e => (q.lnew x e).elim (fun r => h.lnew x r) (fun r => .inr (Nat.le_trans h.size r)),
    fun x e => (q.knew x e).elim (fun r => h.knew x r) (fun r => .inr (Nat.le_trans h.size r))⟩
section
variable {H0 : Nat} {w w' : World} {wk hb : Nat} {V : _root_.Fin 6 → Value} {avs : List Value} {most : Int} {lv kv : Value} {fx : Fix} {s : Wk}
theorem WkIn.below (h : WkIn H0 w wk hb V avs most lv kv fx s) (hB : Below w.heap.size w w') : WkIn H0 w' wk hb V avs most lv kv fx s := by
  obtain ⟨h1, h2, h3⟩ := h.others (w' := w') (fun b cs T q _ _ _ => hB.block b (Array.getElem?_eq_some_iff.1 q).1) (hB.mono h.size)
  exact ⟨(hB.block wk h.lt).trans h.cells, h1, own_below h.lo hB, own_below h.bo hB, fun g hg => h2 g (h.gl g hg), h.nw, h.nh, h3⟩
theorem GlOk.below {n : Nat} {g : Gl} (h : GlOk w H0 hb V n g) (hB : Below w.heap.size w w') (hs : H0 ≤ w.heap.size) : GlOk w' H0 hb V n g :=
  ⟨h.shape, ⟨own_below h.row.own hB, h.row.vn, h.row.lt, h.row.few⟩, fun ho => ⟨(h.body ho).1.frame (fun b q _ => ⟨hB.block b (Nat.lt_of_lt_of_le q hs), q⟩), (h.body ho).2⟩⟩
theorem WkIn.pushed {w2 : World} {lv' : Value} {g : Gl} (h : WkIn H0 w wk hb V avs most lv kv fx s) (hg : GlOk w H0 hb V s.h.T.length g) (ho : w2.ownsRow H0 178 8 lv' (s.ls.length + 1) (s.ls.flatMap Gl.cells ++ g.cells)) (hgr : w.grownBy w2 lv.ownBlock) (hn : ∀ b, lv'.ownBlock = some b → lv.ownBlock = some b ∨ w.heap.size ≤ b) :
    WkIn H0 (w2.setCell ⟨wk, 2, none⟩ lv') wk hb V avs most lv' kv fx { s with ls := s.ls ++ [g] } ∧ Below H0 w (w2.setCell ⟨wk, 2, none⟩ lv') ∧ KFr wk lv lv' kv kv w (w2.setCell ⟨wk, 2, none⟩ lv') := by
  have hlw : lv.ownBlock ≠ some wk := own_ty h.lo h.cells (by decide)
  have hw2 := (hgr.block wk h.lt (fun e => hlw e.symm)).trans h.cells
  have hlw' : lv'.ownBlock ≠ some wk := own_ty ho hw2 (by decide)
  have hsame : ∀ b, b < w.heap.size → b ≠ wk → lv.ownBlock ≠ some b → (w2.setCell ⟨wk, 2, none⟩ lv').heap[b]? = w.heap[b]? := fun b h1 h2 h3 => by
    rw [Below.heap_setCell _ _ _ _ h2]
    exact hgr.block b h1 (fun e => h3 e.symm)
  have hB : Below H0 w (w2.setCell ⟨wk, 2, none⟩ lv') := ((Below.refl H0 w).grown hgr h.size (fun k e => (h.lo.lt k e).1)).setCell (p := ⟨wk, 2, none⟩) h.nw _
  have hne : ∀ (b : Nat) (cs : Array Value) (T : TypeId), w.heap[b]? = some (Obj.cells cs T (0, 0)) → T ≠ 178 → T ≠ 111 → (w2.setCell ⟨wk, 2, none⟩ lv').heap[b]? = w.heap[b]? := fun b cs T q n1 n2 => by
    refine hsame b (Array.getElem?_eq_some_iff.1 q).1 (fun e => ?_) (fun e => own_ty h.lo q (fun e2 => n1 e2.symm) e)
    rw [e, h.cells] at q
    injection q with q; injection q with _ q
    exact n2 q.symm
  obtain ⟨h1, h2, h3⟩ := h.others (w' := w2.setCell ⟨wk, 2, none⟩ lv') (fun b cs T q n1 _ n3 => hne b cs T q n1 n3) hB
  refine ⟨⟨by rw [heap_setCell_same hw2]; rfl, h1, ?_, ?_, fun x hx => ?_, h.nw, h.nh, h3⟩, hB, ⟨fun b q1 q2 q3 _ => hsame b q1 q2 q3, hB.size, hn, fun _ e => .inl e⟩⟩
  · have : w2.ownsRow H0 178 8 lv' (s.ls ++ [g]).length ((s.ls ++ [g]).flatMap Gl.cells) := by simpa using ho
    exact own_keep this fun b e => Below.heap_setCell _ _ _ _ (fun q => hlw' (by rw [e, q]))
  · exact own_keep h.bo fun b e => by
      obtain ⟨cs, q⟩ := own_cells h.bo e
      exact hne b cs _ q (by decide) (by decide)
  · rcases List.mem_append.1 hx with hx | hx
    · exact h2 x (h.gl x hx)
    · rw [List.mem_singleton.1 hx]; exact h2 g hg
theorem WkIn.came {w2 : World} {kv' : Value} {a : Ag} (h : WkIn H0 w wk hb V avs most lv kv fx s) (ho : w2.ownsRow H0 180 6 kv' (s.bk.length + 1) (s.bk.flatMap Ag.cells ++ a.cells)) (hgr : w.grownBy w2 kv.ownBlock) (hn : ∀ b, kv'.ownBlock = some b → kv.ownBlock = some b ∨ w.heap.size ≤ b) :
    WkIn H0 (w2.setCell ⟨wk, 4, none⟩ kv') wk hb V avs most lv kv' fx { s with bk := s.bk ++ [a] } ∧ Below H0 w (w2.setCell ⟨wk, 4, none⟩ kv') ∧ KFr wk lv lv kv kv' w (w2.setCell ⟨wk, 4, none⟩ kv') := by
  have hlw : kv.ownBlock ≠ some wk := own_ty h.bo h.cells (by decide)
  have hw2 := (hgr.block wk h.lt (fun e => hlw e.symm)).trans h.cells
  have hlw' : kv'.ownBlock ≠ some wk := own_ty ho hw2 (by decide)
  have hsame : ∀ b, b < w.heap.size → b ≠ wk → kv.ownBlock ≠ some b → (w2.setCell ⟨wk, 4, none⟩ kv').heap[b]? = w.heap[b]? := fun b h1 h2 h3 => by
    rw [Below.heap_setCell _ _ _ _ h2]
    exact hgr.block b h1 (fun e => h3 e.symm)
  have hB : Below H0 w (w2.setCell ⟨wk, 4, none⟩ kv') := ((Below.refl H0 w).grown hgr h.size (fun k e => (h.bo.lt k e).1)).setCell (p := ⟨wk, 4, none⟩) h.nw _
  have hne : ∀ (b : Nat) (cs : Array Value) (T : TypeId), w.heap[b]? = some (Obj.cells cs T (0, 0)) → T ≠ 180 → T ≠ 111 → (w2.setCell ⟨wk, 4, none⟩ kv').heap[b]? = w.heap[b]? := fun b cs T q n1 n2 => by
    refine hsame b (Array.getElem?_eq_some_iff.1 q).1 (fun e => ?_) (fun e => own_ty h.bo q (fun e2 => n1 e2.symm) e)
    rw [e, h.cells] at q
    injection q with q; injection q with _ q
    exact n2 q.symm
  obtain ⟨h1, h2, h3⟩ := h.others (w' := w2.setCell ⟨wk, 4, none⟩ kv') (fun b cs T q _ n2 n3 => hne b cs T q n2 n3) hB
  refine ⟨⟨by rw [heap_setCell_same hw2]; rfl, h1, ?_, ?_, fun x hx => h2 x (h.gl x hx), h.nw, h.nh, h3⟩, hB, ⟨fun b q1 q2 _ q3 => hsame b q1 q2 q3, hB.size, fun _ e => .inl e, hn⟩⟩
  · exact own_keep h.lo fun b e => by
      obtain ⟨cs, q⟩ := own_cells h.lo e
      exact hne b cs _ q (by decide) (by decide)
  · have : w2.ownsRow H0 180 6 kv' (s.bk ++ [a]).length ((s.bk ++ [a]).flatMap Ag.cells) := by simpa using ho
    exact own_keep this fun b e => Below.heap_setCell _ _ _ _ (fun q => hlw' (by rw [e, q]))
theorem WkIn.cs (h : WkIn H0 w wk hb V avs most lv kv fx s) : w.cell? ⟨wk, 0, none⟩ = some (.pointer (some ⟨hb, 0, none⟩)) ∧ w.cell? ⟨wk, 1, none⟩ = some fx.a ∧ w.cell? ⟨wk, 2, none⟩ = some lv ∧ w.cell? ⟨wk, 3, none⟩ = some (.int .i64 s.todo) ∧ w.cell? ⟨wk, 4, none⟩ = some kv ∧ ∀ j, w.frozen? ⟨wk, j, none⟩ = false :=
  ⟨by rw [cell_of_block h.cells]; rfl, by rw [cell_of_block h.cells]; rfl, by rw [cell_of_block h.cells]; rfl, by rw [cell_of_block h.cells]; rfl, by rw [cell_of_block h.cells]; rfl, fun j => by simp [World.frozen?, h.cells]⟩
theorem WkIn.grownL {w2 : World} (h : WkIn H0 w wk hb V avs most lv kv fx s) (hgr : w.grownBy w2 lv.ownBlock) : (∀ j, w2.cell? ⟨wk, j, none⟩ = w.cell? ⟨wk, j, none⟩) ∧ (∀ j, w2.frozen? ⟨wk, j, none⟩ = false) ∧ wk < w2.heap.size := by
  have hb2 := hgr.block wk h.lt (fun e => own_ty h.lo h.cells (by decide) e.symm)
  exact ⟨fun j => by unfold World.cell?; rw [hb2], fun j => by rw [h.cells] at hb2; simp [World.frozen?, hb2], Nat.lt_of_lt_of_le h.lt hgr.size⟩
end
section
variable {H0 : Nat} {w : World} {wk hb : Nat} {V : _root_.Fin 6 → Value} {avs : List Value} {most : Int} {lv kv : Value} {fx : Fix} {s : Wk}
theorem cells8n (w : World) (x0 x1 x2 x3 x4 x5 x6 x7 : Value) (T : TypeId) : ∀ j u, [x0, x1, x2, x3, x4, x5, x6, x7][j]? = some u → (w.alloc (.cells #[x0, x1, x2, x3, x4, x5, x6, x7] T)).cell? ((⟨w.heap.size, 0, none⟩ : Addr).add j) = some u := by
  intro j u h
  have hadd : (⟨w.heap.size, 0, none⟩ : Addr).add j = ⟨w.heap.size, j, none⟩ := by unfold Addr.add; split <;> simp_all
  rw [hadd, cell_of_block (heap_alloc_new w _)]
  simpa using h
theorem cells6n (w : World) (x0 x1 x2 x3 x4 x5 : Value) (T : TypeId) : ∀ j u, [x0, x1, x2, x3, x4, x5][j]? = some u → (w.alloc (.cells #[x0, x1, x2, x3, x4, x5] T)).cell? ((⟨w.heap.size, 0, none⟩ : Addr).add j) = some u := by
  intro j u h
  have hadd : (⟨w.heap.size, 0, none⟩ : Addr).add j = ⟨w.heap.size, j, none⟩ := by unfold Addr.add; split <;> simp_all
  rw [hadd, cell_of_block (heap_alloc_new w _)]
  simpa using h
theorem cutting_z (h : WkIn H0 w wk hb V avs most lv kv fx s) (hs : s.ls.length ≤ 1000000000) (cut : Nat) (rest : Int) :
    Calls Tryz.prog 133 #[.pointer (some ⟨wk, 0, none⟩), .int .i64 cut, .int .i64 rest] w fun e w' => e = .returned (.int .i64 s.ls.length) ∧
      ∃ lv', WkIn H0 w' wk hb V avs most lv' kv fx { s with ls := s.ls ++ [⟨.mk 0 ByteArray.empty [] [], [.int .u8 0, .string ByteArray.empty, .slice none 0 0, .slice none 0 0], true, .slice none 0 0, [], cut, rest⟩] } ∧ Below H0 w w' ∧ KFr wk lv lv' kv kv w w' := by
  obtain ⟨i0, hi, hz0, hz1, hz2⟩ := info_parts Tryz.infoGoals
  obtain ⟨c0, c1, c2, c3, c4, cf⟩ := h.cs
  have hlt := h.lt
  have hsz := h.size
  have hlo := h.lo
  obtain ⟨ao, cap, hlv⟩ := row_form hlo
  subst hlv
  have HH := hide h
  have f2 := cf 2
  clear h cf
  go_enter Tryz.func133, Tryz.ntmps133
  go_wp2_with (first | (at_builtin; (refine wpList_append_own2 rfl _ _ 108 rfl H0 178 i0 _ 8 120 Tryz.underlyingGoals hi hz0 hz1 hz2 rfl (by decide) _ _ _ rfl (hlo.alloc _) (⟨w.heap.size, 0, none⟩ : Addr) 1 1 [.int .u8 0, .string ByteArray.empty, .slice none 0 0, .slice none 0 0, .bool true, .slice none 0 0, .int .i64 cut, .int .i64 rest] rfl rfl ?_ ?_ ?_ ?_ ?_ ?_)))
  · exact cells8n _ _ _ _ _ _ _ _ _ _
  · intro u hu
    simp only [List.mem_cons, List.not_mem_nil, or_false] at hu
    rcases hu with rfl | rfl | rfl | rfl | rfl | rfl | rfl | rfl <;> rfl
  · unfold maxLen; omega
  · omega
  · simp; omega
  intro v' w2 ho hgr hnw
  have hA : Below w.heap.size w (w.alloc (.cells #[.int .u8 0, .string ByteArray.empty, .slice none 0 0, .slice none 0 0, .bool true, .slice none 0 0, .int .i64 cut, .int .i64 rest] 178)) := (Below.refl _ _).alloc (Nat.le_refl _) _
  have hW := HH.out.below hA
  obtain ⟨z1, z2, z3⟩ := hW.grownL hgr
  have y2 := (z1 2).trans hW.cs.2.2.1
  have x2 := z2 2
  have HP := hide (hW.pushed (g := ⟨.mk 0 ByteArray.empty [] [], [.int .u8 0, .string ByteArray.empty, .slice none 0 0, .slice none 0 0], true, .slice none 0 0, [], cut, rest⟩) ⟨⟨_, _, _, _, _, _, _, _, rfl⟩, ⟨World.ownsRow_nil _ _ _ _, by simp [Value.ownBlock], by simp, by simp⟩, fun e => by cases e⟩ ho hgr (by simpa using hnw))
  obtain ⟨ao', cap', hvf⟩ := row_form ho
  clear ho hgr hnw hW z1 z2 hA
  subst hvf
  go_wp2_with fail
  go_ret
  exact ⟨rfl, _, HP.out.1, (((Below.refl _ _).alloc hsz _).trans HP.out.2.1), (KFr.of_below ((Below.refl _ _).alloc (Nat.le_refl _) _)).trans HP.out.2.2⟩
end
section
variable {H0 : Nat} {w : World} {wk hb : Nat} {V : _root_.Fin 6 → Value} {avs : List Value} {most : Int} {lv kv : Value} {fx : Fix} {s : Wk}
theorem push_z (h : WkIn H0 w wk hb V avs most lv kv fx s) (hs : s.ls.length ≤ 1000000000) (b : Bd) (cs : List Value) (hb' : BRep w (fun b => b < H0) b cs) (vv : Value) (vs : List Nat) (hv : RowV w hb V s.h.T.length vv vs) (hbo : bdOk vs.length b) (cut : Nat) (rest : Int) :
    Calls Tryz.prog 58 #[.pointer (some ⟨wk, 0, none⟩), .agg cs.toArray, vv, .int .i64 cut, .int .i64 rest] w fun e w' => e = .returned (.int .i64 s.ls.length) ∧
      ∃ lv', WkIn H0 w' wk hb V avs most lv' kv fx { s with ls := s.ls ++ [⟨b, cs, false, vv, vs, cut, rest⟩] } ∧ Below H0 w w' ∧ KFr wk lv lv' kv kv w w' := by
  obtain ⟨i0, hi, hz0, hz1, hz2⟩ := info_parts Tryz.infoGoals
  have hsh := hb'.shape
  have hgl : GlOk w H0 hb V s.h.T.length ⟨b, cs, false, vv, vs, cut, rest⟩ := ⟨hsh, hv, fun _ => ⟨hb', hbo⟩⟩
  obtain ⟨k, nm, a0, a1, a2, p0, p1, p2, rfl⟩ := hsh
  obtain ⟨vo, vc, hvf⟩ := row_form hv.own
  subst hvf
  obtain ⟨w1, hw1⟩ : ∃ w1, w1 = w.alloc (.cells #[.int .u8 k, .string nm, .slice a0 a1 a2, .slice p0 p1 p2] 47) := ⟨_, rfl⟩
  have hB1 : Below w.heap.size w w1 := by rw [hw1]; exact (Below.refl _ _).alloc (Nat.le_refl _) _
  have hbx : w1.heap[w.heap.size]? = some (.cells #[.int .u8 k, .string nm, .slice a0 a1 a2, .slice p0 p1 p2] 47 (0, 0)) := by rw [hw1]; exact heap_alloc_new _ _
  have x0 : w1.cell? ⟨w.heap.size, 0, none⟩ = some (.int .u8 k) := by rw [cell_of_block hbx]; rfl
  have x1 : w1.cell? ⟨w.heap.size, 1, none⟩ = some (.string nm) := by rw [cell_of_block hbx]; rfl
  have x2 : w1.cell? ⟨w.heap.size, 2, none⟩ = some (.slice a0 a1 a2) := by rw [cell_of_block hbx]; rfl
  have x3 : w1.cell? ⟨w.heap.size, 3, none⟩ = some (.slice p0 p1 p2) := by rw [cell_of_block hbx]; rfl
  have h1 := h.below hB1
  have hgl1 := hgl.below hB1 h.size
  obtain ⟨c0, c1, c2, c3, c4, cf⟩ := h1.cs
  have hlt := h1.lt
  have hsz := h1.size
  have hsw : w.heap.size < w1.heap.size := (Array.getElem?_eq_some_iff.1 hbx).1
  have hlo := h1.lo
  obtain ⟨ao, cap, hlv⟩ := row_form hlo
  subst hlv
  have HH := hide h1
  have HG := hide hgl1
  have HB1 := hide hB1
  have HS := hide h.size
  have f2 := cf 2
  have HGR : Hid (∀ o w2, (w1.drew.alloc o).grownBy w2 (Value.slice ao s.ls.length cap).ownBlock → w2.cell? ⟨wk, 2, none⟩ = some (.slice ao s.ls.length cap) ∧ w2.frozen? ⟨wk, 2, none⟩ = false ∧ wk < w2.heap.size) := fun o w2 hgr => by
    have hW := h1.below (w' := w1.drew.alloc o) (((Below.refl _ _).drew).alloc (Nat.le_refl _) o)
    obtain ⟨z1, z2, z3⟩ := hW.grownL hgr
    exact ⟨(z1 2).trans hW.cs.2.2.1, z2 2, z3⟩
  clear h h1 cf hgl hgl1 hb' hv hbx hB1
  go_enter Tryz.func58, Tryz.ntmps58
  go_upto_region 1 with fail
  rw [← hw1]
  clear hw1
  go_wp2_with fail
  go_region_law (refine step_append_own2 rfl _ _ 108 rfl H0 178 i0 _ 8 120 Tryz.underlyingGoals hi hz0 hz1 hz2 rfl (by decide) (.slice ao s.ls.length cap) _ _ (by simp [Act.eval]) ((own_below hlo ((Below.refl _ _).drew)).alloc _) ⟨w1.heap.size, 0, none⟩ 1 1 [.int .u8 k, .string nm, .slice a0 a1 a2, .slice p0 p1 p2, .bool false, .slice vo vs.length vc, .int .i64 cut, .int .i64 rest] (by simp [Act.eval]) rfl (cells8n _ _ _ _ _ _ _ _ _ _) (by intro u hu; simp only [List.mem_cons, List.not_mem_nil, or_false] at hu; rcases hu with rfl | rfl | rfl | rfl | rfl | rfl | rfl | rfl <;> rfl) (by unfold maxLen; omega) (by omega) (by simp; omega) ?_; intro v' w2 ho hgr hnw; obtain ⟨y2, z2, z3⟩ := HGR.out _ _ hgr; obtain ⟨ao', cap', hvf⟩ := row_form ho; subst hvf)
  all_goals
    have hBa : Below w1.heap.size w1 (w1.drew.alloc (.cells #[.int .u8 k, .string nm, .slice a0 a1 a2, .slice p0 p1 p2, .bool false, .slice vo vs.length vc, .int .i64 cut, .int .i64 rest] 178)) := ((Below.refl _ _).drew).alloc (Nat.le_refl _) _
    have HP := hide ((HH.out.below hBa).pushed (g := ⟨b, [.int .u8 k, .string nm, .slice a0 a1 a2, .slice p0 p1 p2], false, .slice vo vs.length vc, vs, cut, rest⟩) (HG.out.below hBa hsz) ho hgr (by simpa using hnw))
    clear ho hgr hnw hBa
    go_wp2_with fail
    go_ret
    exact ⟨rfl, _, HP.out.1, (HB1.out.mono HS.out).trans ((((Below.refl _ _).drew).alloc hsz _).trans HP.out.2.1), (KFr.of_below HB1.out).trans ((KFr.of_below (((Below.refl _ _).drew).alloc (Nat.le_refl _) _)).trans HP.out.2.2)⟩
end
section
variable {H0 : Nat} {w : World} {wk hb : Nat} {V : _root_.Fin 6 → Value} {avs : List Value} {most : Int} {lv kv : Value} {fx : Fix} {s : Wk}
theorem Sound.trail {h : Hp} (S : Sound hb most w V avs h) : ∃ ao cap, V 5 = .slice ao h.bs.length cap ∧ w.cell? ⟨hb, 5, none⟩ = some (.slice ao h.bs.length cap) ∧ hb < w.heap.size := by
  have ho := S.H.tab.H.own 5
  have hl : (tabC h.T avs (tosOf h.T.length h.bs) (trOf h.bs) 5).length = h.bs.length := by simp [tabC, trOf_len]
  rw [hl] at ho
  obtain ⟨ao, cap, e⟩ := row_form ho
  exact ⟨ao, cap, e, by rw [cell_of_block S.H.tab.H.cells, ← e]; rfl, (Array.getElem?_eq_some_iff.1 S.H.tab.H.cells).1⟩
theorem WkIn.grownK {w2 : World} (h : WkIn H0 w wk hb V avs most lv kv fx s) (hgr : w.grownBy w2 kv.ownBlock) : (∀ j, w2.cell? ⟨wk, j, none⟩ = w.cell? ⟨wk, j, none⟩) ∧ (∀ j, w2.frozen? ⟨wk, j, none⟩ = false) ∧ wk < w2.heap.size := by
  have hb2 := hgr.block wk h.lt (fun e => own_ty h.bo h.cells (by decide) e.symm)
  exact ⟨fun j => by unfold World.cell?; rw [hb2], fun j => by rw [h.cells] at hb2; simp [World.frozen?, hb2], Nat.lt_of_lt_of_le h.lt hgr.size⟩
theorem come_z (h : WkIn H0 w wk hb V avs most lv kv fx s) (hs : s.bk.length ≤ 1000000000) (todo : Int) :
    Calls Tryz.prog 132 #[.pointer (some ⟨wk, 0, none⟩), .int .i64 todo] w fun e w' => e = .returned (.tuple #[]) ∧
      ∃ kv', WkIn H0 w' wk hb V avs most lv kv' fx { s with bk := s.bk ++ [⟨s.h.bs.length, todo⟩] } ∧ Below H0 w w' ∧ KFr wk lv lv kv kv' w w' := by
  obtain ⟨i0, hi, hz0, hz1, hz2⟩ := info_parts Tryz.infoAgain
  obtain ⟨c0, c1, c2, c3, c4, cf⟩ := h.cs
  obtain ⟨tao, tc, _, t5, hhb⟩ := h.S.trail
  have hlt := h.lt
  have hsz := h.size
  have hbo := h.bo
  obtain ⟨ao, cap, hkv⟩ := row_form hbo
  subst hkv
  have HH := hide h
  have f4 := cf 4
  have HGR : Hid (∀ o w2, (w.drew.alloc o).grownBy w2 (Value.slice ao s.bk.length cap).ownBlock → w2.cell? ⟨wk, 4, none⟩ = some (.slice ao s.bk.length cap) ∧ w2.frozen? ⟨wk, 4, none⟩ = false ∧ wk < w2.heap.size) := fun o w2 hgr => by
    have hW := h.below (w' := w.drew.alloc o) (((Below.refl _ _).drew).alloc (Nat.le_refl _) o)
    obtain ⟨z1, z2, z3⟩ := hW.grownK hgr
    exact ⟨(z1 4).trans hW.cs.2.2.2.2.1, z2 4, z3⟩
  clear h cf
  go_enter Tryz.func132, Tryz.ntmps132
  go_wp2_with fail
  go_region_law (refine step_append_own2 rfl _ _ 109 rfl H0 180 i0 _ 6 72 Tryz.underlyingAgains hi hz0 hz1 hz2 rfl (by decide) (.slice ao s.bk.length cap) _ _ (by simp [Act.eval]) ((own_below hbo ((Below.refl _ _).drew)).alloc _) ⟨w.heap.size, 0, none⟩ 1 1 [.int .i64 s.h.bs.length, .int .i64 todo, .bool false, .int .i64 0, .string ByteArray.empty, .slice none 0 0] (by simp [Act.eval]) rfl (cells6n _ _ _ _ _ _ _ _) (by intro u hu; simp only [List.mem_cons, List.not_mem_nil, or_false] at hu; rcases hu with rfl | rfl | rfl | rfl | rfl | rfl <;> rfl) (by unfold maxLen; omega) (by omega) (by simp; omega) ?_; intro v' w2 ho hgr hnw; obtain ⟨y2, z2, z3⟩ := HGR.out _ _ hgr; obtain ⟨ao', cap', hvf⟩ := row_form ho; subst hvf)
  all_goals
    have hBa : Below w.heap.size w (w.drew.alloc (.cells #[.int .i64 s.h.bs.length, .int .i64 todo, .bool false, .int .i64 0, .string ByteArray.empty, .slice none 0 0] 180)) := ((Below.refl _ _).drew).alloc (Nat.le_refl _) _
    have HP := hide ((HH.out.below hBa).came (a := ⟨s.h.bs.length, todo⟩) ho hgr (by simpa using hnw))
    clear ho hgr hnw hBa
    go_wp2_with fail
    go_end0
    exact ⟨rfl, _, HP.out.1, (((Below.refl _ _).drew).alloc hsz _).trans HP.out.2.1, (KFr.of_below (((Below.refl _ _).drew).alloc (Nat.le_refl _) _)).trans HP.out.2.2⟩
end
end Go.Proofs.YtodpkdajbnceoaaGreatDoor
