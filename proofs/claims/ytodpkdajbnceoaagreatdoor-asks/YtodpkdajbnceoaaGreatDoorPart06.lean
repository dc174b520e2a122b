import Derived.Test.YtodpkdajbnceoaaGreatDoorPart05
set_option linter.all false
set_option maxHeartbeats 1000000
set_option maxRecDepth 100000
namespace Go.Proofs.YtodpkdajbnceoaaGreatDoor
open Go.RowKit
def upd {α : Type} (f : _root_.Fin 6 → α) (i : _root_.Fin 6) (v : α) : _root_.Fin 6 → α := fun j => if j = i then v else f j
theorem upd_same {α : Type} (f : _root_.Fin 6 → α) (i : _root_.Fin 6) (v : α) : upd f i v i = v := by simp [upd]
theorem upd_other {α : Type} (f : _root_.Fin 6 → α) {i j : _root_.Fin 6} (v : α) (h : j ≠ i) : upd f i v j = f j := by simp [upd, h]
def rowT : _root_.Fin 6 → TypeId
  | 0 => 5 | 1 => 9 | 2 => 2 | 3 => 65 | 4 => 3 | 5 => 3
def heapCells (V : _root_.Fin 6 → Value) (cost most err : Int) : Array Value := #[V 0, V 1, V 2, V 3, V 4, V 5, .int .i64 cost, .int .i64 most, .int .i64 err]
structure HIn (w : World) (hb : Nat) (V : _root_.Fin 6 → Value) (C : _root_.Fin 6 → List Value) (cost most err : Int) : Prop where
  cells : w.heap[hb]? = some (.cells (heapCells V cost most err) 119 (0, 0))
  own : ∀ i, w.ownsRow 0 (rowT i) 1 (V i) (C i).length (C i)
  dist : ∀ i j, i ≠ j → (V i).ownBlock = none ∨ (V i).ownBlock ≠ (V j).ownBlock
  nb : ∀ i, (V i).ownBlock ≠ some hb
def HM (hb : Nat) (V : _root_.Fin 6 → Value) (b : Nat) : Prop := b = hb ∨ ∃ i, (V i).ownBlock = some b
structure HFr (hb : Nat) (V V' : _root_.Fin 6 → Value) (w w' : World) : Prop where
  os : w'.os = w.os
  tape : w'.tape = w.tape
  output : w'.output = w.output
  size : w.heap.size ≤ w'.heap.size
  block : ∀ b, b < w.heap.size → ¬ HM hb V b → w'.heap[b]? = w.heap[b]?
  mnew : ∀ b, HM hb V' b → HM hb V b ∨ w.heap.size ≤ b
theorem HFr.refl (hb : Nat) (V : _root_.Fin 6 → Value) (w : World) : HFr hb V V w w := ⟨rfl, rfl, rfl, Nat.le_refl _, fun _ _ _ => rfl, fun _ h => .inl h⟩
theorem HFr.trans {hb : Nat} {V0 V1 V2 : _root_.Fin 6 → Value} {a b c : World} (h : HFr hb V0 V1 a b) (k : HFr hb V1 V2 b c) : HFr hb V0 V2 a c := by
  refine ⟨k.os.trans h.os, k.tape.trans h.tape, k.output.trans h.output, Nat.le_trans h.size k.size, fun x hx h1 => ?_, fun x hx => ?_⟩
  · rw [k.block x (Nat.lt_of_lt_of_le hx h.size) (fun e => (h.mnew x e).elim h1 (fun q => by omega))]
    exact h.block x hx h1
  · rcases k.mnew x hx with e | e
    · exact h.mnew x e
    · exact .inr (Nat.le_trans h.size e)
theorem HFr.of_below {hb : Nat} {V : _root_.Fin 6 → Value} {w w' : World} (h : Below w.heap.size w w') : HFr hb V V w w' :=
  ⟨h.os, h.tape, h.output, h.size, fun b hb _ => h.block b hb, fun _ e => .inl e⟩
section
variable {w : World} {hb : Nat} {V : _root_.Fin 6 → Value} {C : _root_.Fin 6 → List Value} {cost most err : Int}
theorem HIn.lt_size (h : HIn w hb V C cost most err) : hb < w.heap.size := (Array.getElem?_eq_some_iff.1 h.cells).1
theorem HIn.c (h : HIn w hb V C cost most err) (j : Nat) : w.cell? ⟨hb, j, none⟩ = (heapCells V cost most err)[j]? := cell_of_block h.cells j
theorem HIn.fz (h : HIn w hb V C cost most err) (j : Nat) : w.frozen? ⟨hb, j, none⟩ = false := by simp [World.frozen?, h.cells]
theorem HIn.mlt (h : HIn w hb V C cost most err) : ∀ b, HM hb V b → b < w.heap.size := by
  rintro b (rfl | ⟨i, e⟩)
  · exact h.lt_size
  · exact ((h.own i).lt b e).2
theorem own_keep {w w' : World} {base n sz : Nat} {T : TypeId} {v : Value} {xs : List Value} (h : w.ownsRow base T sz v n xs) (hk : ∀ b, v.ownBlock = some b → w'.heap[b]? = w.heap[b]?) : w'.ownsRow base T sz v n xs := by
  refine ⟨h.1, ?_⟩
  rcases h.2 with hn | ⟨g, cap, cur, rfl, r1, r2, r3⟩
  · exact .inl hn
  · exact .inr ⟨g, cap, cur, rfl, r1, by rw [hk g rfl]; exact r2, r3⟩
theorem HIn.keep {w' : World} (h : HIn w hb V C cost most err) (hk : ∀ b, HM hb V b → w'.heap[b]? = w.heap[b]?) : HIn w' hb V C cost most err :=
  ⟨by rw [hk hb (.inl rfl)]; exact h.cells, fun i => own_keep (h.own i) (fun b e => hk b (.inr ⟨i, e⟩)), h.dist, h.nb⟩
theorem HIn.below {w' : World} (h : HIn w hb V C cost most err) (hB : Below w.heap.size w w') : HIn w' hb V C cost most err := h.keep fun b e => hB.block b (h.mlt b e)
theorem heapCells_set (V : _root_.Fin 6 → Value) (cost most err : Int) (i : _root_.Fin 6) (v : Value) : (heapCells V cost most err).setIfInBounds i.val v = heapCells (upd V i v) cost most err := by
  match i with
  | 0 => rfl
  | 1 => rfl
  | 2 => rfl
  | 3 => rfl
  | 4 => rfl
  | 5 => rfl
theorem HIn.grow {w' : World} {o : Obj} {v' : Value} {u : Value} (h : HIn w hb V C cost most err) (i : _root_.Fin 6) (hg : (w.alloc o).grownBy w' (V i).ownBlock)
    (hn : ∀ b, v'.ownBlock = some b → (V i).ownBlock = some b ∨ w.heap.size + 1 ≤ b) (ho : w'.ownsRow 0 (rowT i) 1 v' ((C i).length + 1) (C i ++ [u])) :
    HIn (w'.setCell ⟨hb, i.val, none⟩ v') hb (upd V i v') (upd C i (C i ++ [u])) cost most err ∧ HFr hb V (upd V i v') w (w'.setCell ⟨hb, i.val, none⟩ v') := by
  have hsz : (w.alloc o).heap.size = w.heap.size + 1 := by simp
  have hs' := hg.size
  have hold : ∀ b, b < w.heap.size → (V i).ownBlock ≠ some b → w'.heap[b]? = w.heap[b]? := fun b hb1 hb2 => by
    rw [hg.block b (by omega) (fun e => hb2 e.symm)]; exact Below.heap_alloc _ _ _ hb1
  have hv' : v'.ownBlock ≠ some hb := fun e => (hn hb e).elim (h.nb i) (fun q => by have := h.lt_size; omega)
  have hne : ∀ b, b ≠ hb → (w'.setCell ⟨hb, i.val, none⟩ v').heap[b]? = w'.heap[b]? := fun b hb1 => Below.heap_setCell _ _ _ _ hb1
  have hc : w'.heap[hb]? = some (.cells (heapCells V cost most err) 119 (0, 0)) := by rw [hold hb h.lt_size (h.nb i)]; exact h.cells
  constructor
  · refine ⟨by rw [heap_setCell_same hc, heapCells_set], fun j => ?_, fun j k hjk => ?_, fun j => ?_⟩
    · by_cases e : j = i
      · subst e
        rw [upd_same, upd_same]
        have : w'.ownsRow 0 (rowT j) 1 v' (C j ++ [u]).length (C j ++ [u]) := by simpa using ho
        exact own_keep this (fun b e => hne b (fun q => hv' (by rw [e, q])))
      · rw [upd_other V v' e, upd_other C _ e]
        refine own_keep (h.own j) (fun b q => ?_)
        rw [hne b (fun r => h.nb j (by rw [q, r]))]
        refine hold b ((h.own j).lt b q).2 (fun r => ?_)
        rcases h.dist j i e with s | s
        · rw [s] at q; cases q
        · exact s (by rw [q, r])
    · by_cases e : j = i
      · subst e
        rw [upd_same, upd_other V v' (fun q => hjk q.symm)]
        cases hx : v'.ownBlock with
        | none => exact .inl rfl
        | some b =>
          right; intro q
          rcases hn b hx with r | r
          · rcases h.dist j k hjk with s | s
            · rw [s] at r; cases r
            · exact s (by rw [r, q])
          · have := ((h.own k).lt b q.symm).2; omega
      · rw [upd_other V v' e]
        by_cases e2 : k = i
        · subst e2
          rw [upd_same]
          cases hx : (V j).ownBlock with
          | none => exact .inl rfl
          | some b =>
            right; intro q
            rcases hn b q.symm with r | r
            · rcases h.dist j k hjk with s | s
              · rw [s] at hx; cases hx
              · exact s (by rw [hx, r])
            · have := ((h.own j).lt b hx).2; omega
        · rw [upd_other V v' e2]; exact h.dist j k hjk
    · by_cases e : j = i
      · subst e; rw [upd_same]; exact hv'
      · rw [upd_other V v' e]; exact h.nb j
  · refine ⟨hg.os, hg.tape, hg.output, by simp [World.setCell]; omega, fun b hb1 hb2 => ?_, fun b hb1 => ?_⟩
    · rw [hne b (fun q => hb2 (.inl q))]
      exact hold b hb1 (fun q => hb2 (.inr ⟨i, q⟩))
    · rcases hb1 with q | ⟨j, q⟩
      · exact .inl (.inl q)
      · by_cases e : j = i
        · subst e
          rw [upd_same] at q
          rcases hn b q with r | r
          · exact .inl (.inr ⟨j, r⟩)
          · exact .inr (by omega)
        · rw [upd_other V v' e] at q
          exact .inl (.inr ⟨j, q⟩)
theorem HIn.setNum (h : HIn w hb V C cost most err) (j : Nat) (u : Value) (c m e : Int) (hc : (heapCells V cost most err).setIfInBounds j u = heapCells V c m e) :
    HIn (w.setCell ⟨hb, j, none⟩ u) hb V C c m e ∧ HFr hb V V w (w.setCell ⟨hb, j, none⟩ u) := by
  have hne : ∀ b, b ≠ hb → (w.setCell ⟨hb, j, none⟩ u).heap[b]? = w.heap[b]? := fun b hb1 => Below.heap_setCell _ _ _ _ hb1
  refine ⟨⟨by rw [heap_setCell_same h.cells, hc], fun i => own_keep (h.own i) (fun b q => hne b (fun r => h.nb i (by rw [q, r]))), h.dist, h.nb⟩, rfl, rfl, rfl, by simp [World.setCell], fun b _ q => hne b (fun r => q (.inl r)), fun _ q => .inl q⟩
end
theorem Tryz.infoU8 : (Tryz.prog.info? 5).map (fun i => (i.zero, i.size, i.bytes)) = some (some (.int .u8 0), 1, 1) := by kernel_rfl
theorem Tryz.infoI64 : (Tryz.prog.info? 2).map (fun i => (i.zero, i.size, i.bytes)) = some (some (.int .i64 0), 1, 8) := by kernel_rfl
theorem Tryz.infoInt : (Tryz.prog.info? 3).map (fun i => (i.zero, i.size, i.bytes)) = some (some (.int .i64 0), 1, 8) := by kernel_rfl
theorem Tryz.infoInts : (Tryz.prog.info? 65).map (fun i => (i.zero, i.size, i.bytes)) = some (some (.slice none 0 0), 1, 24) := by kernel_rfl
theorem Tryz.underlyingU8s : Tryz.prog.underlying 115 = some (.slice 5) := by kernel_rfl
theorem Tryz.underlyingI64s : Tryz.prog.underlying 116 = some (.slice 2) := by kernel_rfl
theorem Tryz.underlyingInts : Tryz.prog.underlying 65 = some (.slice 3) := by kernel_rfl
theorem Tryz.underlyingIntss : Tryz.prog.underlying 117 = some (.slice 65) := by kernel_rfl
theorem grown_hb {w w' : World} {hb : Nat} {V : _root_.Fin 6 → Value} {C : _root_.Fin 6 → List Value} {cost most err : Int} {o : Obj} (h : HIn w hb V C cost most err) (i : _root_.Fin 6) (hg : (w.alloc o).grownBy w' (V i).ownBlock) :
    (∀ j, w'.cell? ⟨hb, j, none⟩ = (heapCells V cost most err)[j]?) ∧ ∀ j, w'.frozen? ⟨hb, j, none⟩ = false := by
  have hc : w'.heap[hb]? = some (.cells (heapCells V cost most err) 119 (0, 0)) := by
    rw [hg.block hb (by have := h.lt_size; simp; omega) (fun e => h.nb i e.symm), Below.heap_alloc _ _ _ h.lt_size]; exact h.cells
  exact ⟨fun j => cell_of_block hc j, fun j => by simp [World.frozen?, hc]⟩
def addC (C : _root_.Fin 6 → List Value) (k : Int) (nm : ByteArray) (n : Int) (av : Value) : _root_.Fin 6 → List Value
  | 0 => C 0 ++ [.int .u8 k] | 1 => C 1 ++ [.string nm] | 2 => C 2 ++ [.int .i64 n] | 3 => C 3 ++ [av] | 4 => C 4 ++ [.int .i64 (-1)] | 5 => C 5
theorem addC_eq (C : _root_.Fin 6 → List Value) (k : Int) (nm : ByteArray) (n : Int) (av : Value) :
    upd (upd (upd (upd (upd C 0 (C 0 ++ [.int .u8 k])) 1 (C 1 ++ [.string nm])) 2 (C 2 ++ [.int .i64 n])) 3 (C 3 ++ [av])) 4 (C 4 ++ [.int .i64 (-1)]) = addC C k nm n av := by
  funext j
  match j with
  | 0 => rfl
  | 1 => rfl
  | 2 => rfl
  | 3 => rfl
  | 4 => rfl
  | 5 => rfl
theorem add_any {w : World} {hb : Nat} {V : _root_.Fin 6 → Value} {C : _root_.Fin 6 → List Value} {cost most err : Int} (h : HIn w hb V C cost most err) (hl : ∀ i, (C i).length ≤ 1000000000) (k : Int) (nm : ByteArray) (n : Int) (ao : Option Addr) (am ac : Nat) :
    Calls Tryz.prog 87 #[.pointer (some ⟨hb, 0, none⟩), .int .u8 k, .string nm, .int .i64 n, .slice ao am ac] w fun e w' =>
      e = .returned (.int .i64 (C 0).length) ∧ ∃ V', HIn w' hb V' (addC C k nm n (.slice ao am ac)) cost most err ∧ HFr hb V V' w w' := by
  obtain ⟨i0, hi0, z00, z01, z02⟩ := info_parts Tryz.infoU8
  obtain ⟨i1, hi1, z10, z11, z12⟩ := info_parts Tryz.infoStr
  obtain ⟨i2, hi2, z20, z21, z22⟩ := info_parts Tryz.infoI64
  obtain ⟨i3, hi3, z30, z31, z32⟩ := info_parts Tryz.infoInts
  obtain ⟨i4, hi4, z40, z41, z42⟩ := info_parts Tryz.infoInt
  have hl0 := hl 0
  have c0 : w.cell? ⟨hb, 0, none⟩ = some (V 0) := h.c 0
  go_enter Tryz.func87, Tryz.ntmps87
  go_upto_region 1 with fail
  have o0 : w.ownsRow 0 5 1 (V 0) (C 0).length (C 0) := h.own 0
  have l0 := hl 0
  go_cut [] (fun wx => ∃ V', HIn wx hb V' (upd C 0 (C 0 ++ [.int .u8 k])) cost most err ∧ HFr hb V V' w wx)
  case first =>
    go_wp2_with (first | (at_builtin; refine wpList_append_own2 rfl (.tmp 15) (.tmp 17) 115 rfl 0 5 i0 (.int .u8 0) 1 1 Tryz.underlyingU8s hi0 z00 z01 z02 rfl (by decide) (V 0) _ _ rfl (o0.alloc _) ⟨w.heap.size, 0, none⟩ 1 1 [.int .u8 k] rfl rfl (cell_one_new _ _ _) ?_ ?_ ?_ ?_ ?_) | go_in)
    · intro u hu; simp at hu; subst hu; rfl
    · unfold maxLen; omega
    · omega
    · exact Nat.zero_le _
    intro v' w' ho hg hn
    obtain ⟨zc, zf⟩ := grown_hb h 0 hg
    have zz : w'.cell? ⟨hb, 0, none⟩ = some (V 0) := zc 0
    have G := h.grow (u := .int .u8 k) 0 hg hn ho
    obtain ⟨ao', cap', rfl⟩ := row_form ho
    have HG := hide G
    clear zc hn hg ho G
    go_wp2_with fail
    go_meet
    case rel => exact ⟨_, HG.out.1, HG.out.2⟩
  case rest =>
    obtain ⟨V1, h1, f1⟩ := hcut
    obtain ⟨w1, hw1⟩ : ∃ x, x = wc := ⟨_, rfl⟩
    subst hw1
    go_upto_region 2 with fail
    have o1 : w1.ownsRow 0 9 1 (V1 1) (C 1).length (C 1) := h1.own 1
    have l1 := hl 1
    have c1 : w1.cell? ⟨hb, 1, none⟩ = some (V1 1) := h1.c 1
    go_cut [] (fun wx => ∃ V', HIn wx hb V' (upd (upd C 0 (C 0 ++ [.int .u8 k])) 1 (C 1 ++ [.string nm])) cost most err ∧ HFr hb V V' w wx)
    case first =>
      go_wp2_with (first | (at_builtin; refine wpList_append_own2 rfl (.tmp 25) (.tmp 27) 48 rfl 0 9 i1 (.string ByteArray.empty) 1 16 Tryz.underlyingStrs hi1 z10 z11 z12 rfl (by decide) (V1 1) _ _ rfl (o1.alloc _) ⟨w1.heap.size, 0, none⟩ 1 1 [.string nm] rfl rfl (cell_one_new _ _ _) ?_ ?_ ?_ ?_ ?_) | go_in)
      · intro u hu; simp at hu; subst hu; rfl
      · unfold maxLen; omega
      · omega
      · exact Nat.zero_le _
      intro v' w' ho hg hn
      obtain ⟨zc, zf⟩ := grown_hb h1 1 hg
      have zz : w'.cell? ⟨hb, 1, none⟩ = some (V1 1) := zc 1
      have G := h1.grow (u := .string nm) 1 hg hn ho
      obtain ⟨ao', cap', rfl⟩ := row_form ho
      have HG := hide G
      clear zc hn hg ho G
      go_wp2_with fail
      go_meet
      case rel => exact ⟨_, HG.out.1, f1.trans HG.out.2⟩
    case rest =>
      obtain ⟨V2, h2, f2⟩ := hcut
      obtain ⟨w2, hw2⟩ : ∃ x, x = wc := ⟨_, rfl⟩
      subst hw2
      go_upto_region 3 with fail
      have o2 : w2.ownsRow 0 2 1 (V2 2) (C 2).length (C 2) := h2.own 2
      have l2 := hl 2
      have c2 : w2.cell? ⟨hb, 2, none⟩ = some (V2 2) := h2.c 2
      go_cut [] (fun wx => ∃ V', HIn wx hb V' (upd (upd (upd C 0 (C 0 ++ [.int .u8 k])) 1 (C 1 ++ [.string nm])) 2 (C 2 ++ [.int .i64 n])) cost most err ∧ HFr hb V V' w wx)
      case first =>
        go_wp2_with (first | (at_builtin; refine wpList_append_own2 rfl (.tmp 35) (.tmp 37) 116 rfl 0 2 i2 (.int .i64 0) 1 8 Tryz.underlyingI64s hi2 z20 z21 z22 rfl (by decide) (V2 2) _ _ rfl (o2.alloc _) ⟨w2.heap.size, 0, none⟩ 1 1 [.int .i64 n] rfl rfl (cell_one_new _ _ _) ?_ ?_ ?_ ?_ ?_) | go_in)
        · intro u hu; simp at hu; subst hu; rfl
        · unfold maxLen; omega
        · omega
        · exact Nat.zero_le _
        intro v' w' ho hg hn
        obtain ⟨zc, zf⟩ := grown_hb h2 2 hg
        have zz : w'.cell? ⟨hb, 2, none⟩ = some (V2 2) := zc 2
        have G := h2.grow (u := .int .i64 n) 2 hg hn ho
        obtain ⟨ao', cap', rfl⟩ := row_form ho
        have HG := hide G
        clear zc hn hg ho G
        go_wp2_with fail
        go_meet
        case rel => exact ⟨_, HG.out.1, f2.trans HG.out.2⟩
      case rest =>
        obtain ⟨V3, h3, f3⟩ := hcut
        obtain ⟨w3, hw3⟩ : ∃ x, x = wc := ⟨_, rfl⟩
        subst hw3
        go_upto_region 4 with fail
        have o3 : w3.ownsRow 0 65 1 (V3 3) (C 3).length (C 3) := h3.own 3
        have l3 := hl 3
        have c3 : w3.cell? ⟨hb, 3, none⟩ = some (V3 3) := h3.c 3
        go_cut [] (fun wx => ∃ V', HIn wx hb V' (upd (upd (upd (upd C 0 (C 0 ++ [.int .u8 k])) 1 (C 1 ++ [.string nm])) 2 (C 2 ++ [.int .i64 n])) 3 (C 3 ++ [.slice ao am ac])) cost most err ∧ HFr hb V V' w wx)
        case first =>
          go_wp2_with (first | (at_builtin; refine wpList_append_own2 rfl (.tmp 45) (.tmp 47) 117 rfl 0 65 i3 (.slice none 0 0) 1 24 Tryz.underlyingIntss hi3 z30 z31 z32 rfl (by decide) (V3 3) _ _ rfl (o3.alloc _) ⟨w3.heap.size, 0, none⟩ 1 1 [.slice ao am ac] rfl rfl (cell_one_new _ _ _) ?_ ?_ ?_ ?_ ?_) | go_in)
          · intro u hu; simp at hu; subst hu; rfl
          · unfold maxLen; omega
          · omega
          · exact Nat.zero_le _
          intro v' w' ho hg hn
          obtain ⟨zc, zf⟩ := grown_hb h3 3 hg
          have zz : w'.cell? ⟨hb, 3, none⟩ = some (V3 3) := zc 3
          have G := h3.grow (u := .slice ao am ac) 3 hg hn ho
          obtain ⟨ao', cap', rfl⟩ := row_form ho
          have HG := hide G
          clear zc hn hg ho G
          go_wp2_with fail
          go_meet
          case rel => exact ⟨_, HG.out.1, f3.trans HG.out.2⟩
        case rest =>
          obtain ⟨V4, h4, f4⟩ := hcut
          obtain ⟨w4, hw4⟩ : ∃ x, x = wc := ⟨_, rfl⟩
          subst hw4
          go_upto_region 5 with fail
          have o4 : w4.ownsRow 0 3 1 (V4 4) (C 4).length (C 4) := h4.own 4
          have l4 := hl 4
          have c4 : w4.cell? ⟨hb, 4, none⟩ = some (V4 4) := h4.c 4
          go_cut [] (fun wx => ∃ V', HIn wx hb V' (upd (upd (upd (upd (upd C 0 (C 0 ++ [.int .u8 k])) 1 (C 1 ++ [.string nm])) 2 (C 2 ++ [.int .i64 n])) 3 (C 3 ++ [.slice ao am ac])) 4 (C 4 ++ [.int .i64 (-1)])) cost most err ∧ HFr hb V V' w wx)
          case first =>
            go_wp2_with (first | (at_builtin; refine wpList_append_own2 rfl (.tmp 55) (.tmp 56) 65 rfl 0 3 i4 (.int .i64 0) 1 8 Tryz.underlyingInts hi4 z40 z41 z42 rfl (by decide) (V4 4) _ _ rfl (o4.alloc _) ⟨w4.heap.size, 0, none⟩ 1 1 [.int .i64 (-1)] rfl rfl (cell_one_new _ _ _) ?_ ?_ ?_ ?_ ?_) | go_in)
            · intro u hu; simp at hu; subst hu; rfl
            · unfold maxLen; omega
            · omega
            · exact Nat.zero_le _
            intro v' w' ho hg hn
            obtain ⟨zc, zf⟩ := grown_hb h4 4 hg
            have zz : w'.cell? ⟨hb, 4, none⟩ = some (V4 4) := zc 4
            have G := h4.grow (u := .int .i64 (-1)) 4 hg hn ho
            obtain ⟨ao', cap', rfl⟩ := row_form ho
            have HG := hide G
            clear zc hn hg ho G
            go_wp2_with fail
            go_meet
            case rel => exact ⟨_, HG.out.1, f4.trans HG.out.2⟩
          case rest =>
            obtain ⟨V5, h5, f5⟩ := hcut
            obtain ⟨w5, hw5⟩ : ∃ x, x = wc := ⟨_, rfl⟩
            subst hw5
            have hlen : w5.ownsRow 0 5 1 (V5 0) (C 0 ++ [Value.int .u8 k]).length (C 0 ++ [Value.int .u8 k]) := h5.own 0
            obtain ⟨ao5, cap5, e5⟩ := row_form hlen
            have c5 : w5.cell? ⟨hb, 0, none⟩ = some (V5 0) := h5.c 0
            rw [e5] at c5
            have hF : HIn w5 hb V5 (addC C k nm n (.slice ao am ac)) cost most err := by rw [← addC_eq]; exact h5
            have e6 : (C 0 ++ [Value.int .u8 k]).length = (C 0).length + 1 := by simp
            rw [e6] at c5
            clear e5 e6 hlen
            go_wp2_with fail
            go_ret
            exact ⟨by simp, V5, hF, f5⟩
structure Nd where
  k : Int
  nm : ByteArray
  n : Int
  ags : List Nat
def tabC (T : List Nd) (avs : List Value) (tos tr : List Int) : _root_.Fin 6 → List Value
  | 0 => T.map fun t => .int .u8 t.k | 1 => T.map fun t => .string t.nm | 2 => T.map fun t => .int .i64 t.n | 3 => avs | 4 => tos.map fun t => .int .i64 t | 5 => tr.map fun t => .int .i64 t
def intsV (l : List Nat) : List Value := l.map fun (a : Nat) => Value.int .i64 a
structure Tab (w : World) (hb : Nat) (V : _root_.Fin 6 → Value) (T : List Nd) (avs : List Value) (tos tr : List Int) (cost most err : Int) : Prop where
  H : HIn w hb V (tabC T avs tos tr) cost most err
  la : avs.length = T.length
  lt : tos.length = T.length
  args : ∀ i (h : i < T.length) (h' : i < avs.length), w.ownsRow 0 3 1 avs[i] T[i].ags.length (intsV T[i].ags) ∧ ∀ b, avs[i].ownBlock = some b → ¬ HM hb V b
theorem own_hfr {w w' : World} {hb : Nat} {V V' : _root_.Fin 6 → Value} {base n sz : Nat} {T : TypeId} {v : Value} {xs : List Value} (h : w.ownsRow base T sz v n xs) (hf : HFr hb V V' w w') (hn : ∀ b, v.ownBlock = some b → ¬ HM hb V b) : w'.ownsRow base T sz v n xs :=
  own_keep h (fun b e => hf.block b (h.lt b e).2 (hn b e))
theorem not_HM {w w' : World} {hb : Nat} {V V' : _root_.Fin 6 → Value} {b : Nat} (hf : HFr hb V V' w w') (hl : b < w.heap.size) (hn : ¬ HM hb V b) : ¬ HM hb V' b := fun e => (hf.mnew b e).elim hn (fun q => by omega)
theorem Tab.add {w w' : World} {hb : Nat} {V V' : _root_.Fin 6 → Value} {T : List Nd} {avs : List Value} {tos tr : List Int} {cost most err : Int} {k : Int} {nm : ByteArray} {n : Int} {av : Value} {ags : List Nat}
    (h : Tab w hb V T avs tos tr cost most err) (ho : w.ownsRow 0 3 1 av ags.length (intsV ags)) (hn : ∀ b, av.ownBlock = some b → ¬ HM hb V b)
    (hH : HIn w' hb V' (addC (tabC T avs tos tr) k nm n av) cost most err) (hf : HFr hb V V' w w') : Tab w' hb V' (T ++ [⟨k, nm, n, ags⟩]) (avs ++ [av]) (tos ++ [-1]) tr cost most err := by
  have hC : addC (tabC T avs tos tr) k nm n av = tabC (T ++ [⟨k, nm, n, ags⟩]) (avs ++ [av]) (tos ++ [-1]) tr := by
    funext j
    match j with
    | 0 => simp [addC, tabC]
    | 1 => simp [addC, tabC]
    | 2 => simp [addC, tabC]
    | 3 => simp [addC, tabC]
    | 4 => simp [addC, tabC]
    | 5 => simp [addC, tabC]
  refine ⟨by rw [← hC]; exact hH, by simp [h.la], by simp [h.lt], fun i hi hi' => ?_⟩
  by_cases e : i < T.length
  · have e' : i < avs.length := by rw [h.la]; exact e
    have hA := h.args i e e'
    rw [List.getElem_append_left e', List.getElem_append_left e]
    exact ⟨own_hfr hA.1 hf hA.2, fun b q => not_HM hf (hA.1.lt b q).2 (hA.2 b q)⟩
  · have e2 : i = T.length := by simp at hi; omega
    subst e2
    have e3 : (avs ++ [av])[T.length]'hi' = av := by simp [← h.la]
    rw [e3]
    simp only [List.getElem_concat_length]
    exact ⟨own_hfr ho hf hn, fun b q => not_HM hf (ho.lt b q).2 (hn b q)⟩
def varNd : Nd := ⟨118, ByteArray.empty, 0, []⟩
theorem tabC_len {T : List Nd} {avs : List Value} {tos tr : List Int} (h1 : avs.length = T.length) (h2 : tos.length = T.length) (B : Nat) (hT : T.length ≤ B) (hr : tr.length ≤ B) : ∀ i, (tabC T avs tos tr i).length ≤ B
  | 0 => by simpa [tabC] using hT | 1 => by simpa [tabC] using hT | 2 => by simpa [tabC] using hT | 3 => by simpa [tabC, h1] using hT | 4 => by simpa [tabC, h2] using hT | 5 => by simpa [tabC] using hr
theorem as_own_nil (w : World) : w.ownsRow 0 3 1 (.slice none 0 0) ([] : List Nat).length (intsV []) := World.ownsRow_nil _ _ _ _
mutual
def madeS (vl : List Nat) : Ex → List Nd → Nat × List Nd
  | .atom n, T => (T.length, T ++ [⟨97, n, 0, []⟩])
  | .num v, T => (T.length, T ++ [⟨110, ByteArray.empty, v, []⟩])
  | .var k, T => (vl.getD k 0, T)
  | .cmp n args, T => ((madeL vl args T).2.length, (madeL vl args T).2 ++ [⟨99, n, 0, (madeL vl args T).1⟩])
def madeL (vl : List Nat) : List Ex → List Nd → List Nat × List Nd
  | [], T => ([], T)
  | x :: l, T => ((madeS vl x T).1 :: (madeL vl l (madeS vl x T).2).1, (madeL vl l (madeS vl x T).2).2)
end
mutual
def szE : Ex → Nat
  | .atom _ => 1
  | .num _ => 1
  | .var _ => 1
  | .cmp _ args => 1 + szL args
def szL : List Ex → Nat
  | [] => 0
  | x :: l => szE x + szL l
end
mutual
def varsIn (n : Nat) : Ex → Prop
  | .atom _ => True
  | .num _ => True
  | .var k => k < n
  | .cmp _ args => varsInL n args
def varsInL (n : Nat) : List Ex → Prop
  | [] => True
  | x :: l => varsIn n x ∧ varsInL n l
end
theorem madeL_snoc (vl : List Nat) : ∀ (l : List Ex) (x : Ex) (T : List Nd), madeL vl (l ++ [x]) T = ((madeL vl l T).1 ++ [(madeS vl x (madeL vl l T).2).1], (madeS vl x (madeL vl l T).2).2)
  | [], x, T => by simp [madeL]
  | y :: l, x, T => by
    have := madeL_snoc vl l x (madeS vl y T).2
    simp [madeL, this]
mutual
theorem madeS_len (vl : List Nat) : ∀ (x : Ex) (T : List Nd), (madeS vl x T).2.length ≤ T.length + szE x
  | .atom n, T => by simp [madeS, szE]
  | .num v, T => by simp [madeS, szE]
  | .var k, T => by simp [madeS]
  | .cmp n args, T => by have := madeL_len vl args T; simp [madeS, szE]; omega
theorem madeL_len (vl : List Nat) : ∀ (l : List Ex) (T : List Nd), (madeL vl l T).2.length ≤ T.length + szL l
  | [], T => by simp [madeL]
  | x :: l, T => by
    have h1 := madeS_len vl x T
    have h2 := madeL_len vl l (madeS vl x T).2
    simp [madeL, szL]; omega
end
theorem szL_take (l : List Ex) : ∀ k, szL (l.take k) ≤ szL l := by
  induction l with
  | nil => intro k; simp
  | cons x l ih => intro k; cases k with
    | zero => simp [szL]
    | succ k => have := ih k; simp [szL]; omega
theorem szL_get (l : List Ex) : ∀ k (h : k < l.length), szL (l.take k) + szE l[k] ≤ szL l := by
  induction l with
  | nil => intro k h; simp at h
  | cons x l ih => intro k h; cases k with
    | zero => simp [szL]
    | succ k => have := ih k (by simpa using h); simp [szL]; omega
theorem varsInL_get {n : Nat} (l : List Ex) (h : varsInL n l) : ∀ k (hk : k < l.length), varsIn n l[k] := by
  induction l with
  | nil => intro k h; simp at h
  | cons x l ih => intro k hk; cases k with
    | zero => exact h.1
    | succ k => exact ih h.2 k (by simpa using hk)
theorem sizeOf_get (l : List Ex) (n : ByteArray) : ∀ k (h : k < l.length), szE l[k] < szE (.cmp n l) := by
  intro k h
  have := szL_get l k h
  simp [szE]; omega
theorem szE_pos (x : Ex) : 1 ≤ szE x := by cases x <;> simp [szE]
theorem szL_len : ∀ l : List Ex, l.length ≤ szL l
  | [] => by simp
  | x :: l => by have := szL_len l; have := szE_pos x; simp [szL]; omega
theorem madeL_len1 (vl : List Nat) : ∀ (l : List Ex) (T : List Nd), (madeL vl l T).1.length = l.length
  | [], T => by simp [madeL]
  | x :: l, T => by simp [madeL, madeL_len1 vl l]
def ARow (w : World) (Ok : Nat → Prop) (l : List Ex) (ao : Option Addr) (ac : Nat) : Prop :=
  (l = [] ∧ ao = none ∧ ac = 0) ∨ ∃ g cur cs, ao = some ⟨g, 0, none⟩ ∧ Ok g ∧ w.heap[g]? = some (.cells cur 125 (0, 0)) ∧ l.length ≤ ac ∧ ac ≤ maxLen ∧ cur.size = ac * 5 ∧ cur.toList.take (l.length * 5) = cs ∧ ERepL w Ok l cs
theorem arow_elem {w wr : World} {Ok : Nat → Prop} {l : List Ex} {ao : Option Addr} {ac j : Nat} (h : ARow w Ok l ao ac) (hk : ∀ b, Ok b → b < w.heap.size → wr.heap[b]? = w.heap[b]?) (hj : j < l.length) :
    ∃ g a b c d x y z, ao = some ⟨g, 0, none⟩ ∧ l.length ≤ ac ∧ ac ≤ maxLen ∧ g < wr.heap.size ∧ ERep wr Ok l[j] [.int .u8 a, .string b, .int .i64 c, .int .i64 d, .slice x y z] ∧
      wr.cell? ⟨g, j * 5, none⟩ = some (.int .u8 a) ∧ wr.cell? ⟨g, j * 5 + 1, none⟩ = some (.string b) ∧ wr.cell? ⟨g, j * 5 + 2, none⟩ = some (.int .i64 c) ∧ wr.cell? ⟨g, j * 5 + 3, none⟩ = some (.int .i64 d) ∧ wr.cell? ⟨g, j * 5 + 4, none⟩ = some (.slice x y z) := by
  rcases h with ⟨rfl, _⟩ | ⟨g, cur, cs, rfl, hg, hh, h1, h2, h3, h4, h5⟩
  · simp at hj
  · have hgl := (Array.getElem?_eq_some_iff.1 hh).1
    have hh' : wr.heap[g]? = some (.cells cur 125 (0, 0)) := by rw [hk g hg hgl]; exact hh
    have hel := h5.get j hj
    obtain ⟨a, b, c, d, x, y, z, e⟩ := hel.shape
    obtain ⟨t0, t1, t2, t3, t4⟩ := drop_take_get e
    rw [e] at hel
    exact ⟨g, a, b, c, d, x, y, z, rfl, h1, h2, (Array.getElem?_eq_some_iff.1 hh').1, ERep.frame (fun q hq hlt => ⟨hk q hq hlt, hq⟩) hel, rowCell hh' h4 t0, rowCell hh' h4 t1, rowCell hh' h4 t2, rowCell hh' h4 t3, rowCell hh' h4 t4⟩
def dg (d : Nat) : UInt8 := UInt8.ofNat (48 + d)
def decN (n : Nat) : List UInt8 := if _h : n < 10 then [dg n] else decN (n / 10) ++ [dg (n % 10)]
termination_by n
decreasing_by omega
def decS (v : Int) : List UInt8 := if v < 0 then 45 :: decN v.natAbs else decN v.natAbs
theorem decN_len : ∀ (k n : Nat), n < 10 ^ k → (decN n).length ≤ max k 1
  | 0, n, h => by
    have : n = 0 := by simpa using h
    subst this; rw [decN]; simp
  | k + 1, n, h => by
    rw [decN]
    split
    · simp
    · have := decN_len k (n / 10) (by rw [Nat.pow_succ] at h; omega)
      simp
      have hk : 1 ≤ k := by
        rcases Nat.eq_zero_or_pos k with e | e
        · subst e; simp at h; omega
        · exact e
      omega
theorem B_append (a b : List UInt8) : B a ++ B b = B (a ++ b) := ByteArray.mk_append_mk a b
def digits10 : ByteArray := ⟨#[48, 49, 50, 51, 52, 53, 54, 55, 56, 57]⟩
theorem digit_at (d : Nat) (h : d < 10) : digits10.extract d (d + 1) = B [dg d] := by
  have : d = 0 ∨ d = 1 ∨ d = 2 ∨ d = 3 ∨ d = 4 ∨ d = 5 ∨ d = 6 ∨ d = 7 ∨ d = 8 ∨ d = 9 := by omega
  rcases this with h | h | h | h | h | h | h | h | h | h <;> subst h <;> rfl
theorem ret_str {a b : ByteArray} (h : a = b) : Ending.returned (.string a) = .returned (.string b) := by rw [h]
theorem wrap_div (n : Nat) (h : n < 9223372036854775808) : wrap64 ((n : Int) / 10) = ((n / 10 : Nat) : Int) := by
  unfold wrap64; omega
theorem decimal_small (n : Nat) (hn : n < 10) (w : World) : Calls Tryz.prog 99 #[.int .i64 n] w fun e w' => e = .returned (.string (B (decN n))) ∧ w' = w := by
  have h0 : (0 : Int) ≤ (n : Int) := by omega
  have h10 : (n : Int) < 10 := by omega
  have HD : Hid (decN n = [dg n]) := by unfold Hid; rw [decN, dif_pos hn]
  go_enter Tryz.func99, Tryz.ntmps99
  go_wp2_with fail
  go_ret
  exact ⟨ret_str (by rw [HD.out, Nat.mod_eq_of_lt hn]; exact digit_at n hn), rfl⟩
theorem decN_lt19 (n : Nat) (h : n < 9223372036854775808) : (B (decN n)).size ≤ 19 := by
  rw [B_size]
  have := decN_len 19 n (by omega)
  omega
theorem decimal_step (n : Nat) (hn : 10 ≤ n) (hb : n < 9223372036854775808) (ih : ∀ w, Calls Tryz.prog 99 #[.int .i64 ((n / 10 : Nat) : Int)] w fun e w' => e = .returned (.string (B (decN (n / 10)))) ∧ w' = w) (w : World) :
    Calls Tryz.prog 99 #[.int .i64 n] w fun e w' => e = .returned (.string (B (decN n))) ∧ w' = w := by
  have h0 : (0 : Int) ≤ (n : Int) := by omega
  have h10 : ¬ (n : Int) < 10 := by omega
  have HB : Hid (n < 9223372036854775808) := hb
  have hsz := decN_lt19 (n / 10) (by omega)
  have HD : Hid (decN n = decN (n / 10) ++ [dg (n % 10)]) := by unfold Hid; rw [decN, dif_neg (by omega)]
  have HI := hide ih
  have hd := digit_at (n % 10) (by omega)
  have HDG := hide hd
  clear ih hb hd
  go_enter Tryz.func99, Tryz.ntmps99
  go_wp2_with fail
  rw [wrap_div n HB.out]
  refine (HI.out _).mono ?_
  rintro e w1 ⟨rfl, rfl⟩
  have hds : ({ data := #[48, 49, 50, 51, 52, 53, 54, 55, 56, 57] } : ByteArray).extract (n % 10) (n % 10 + 1) = B [dg (n % 10)] := HDG.out
  rw [hds]
  clear hds
  have hs1 : (B [dg (n % 10)]).size ≤ 1 := by rw [B_size]; simp
  go_wp2_with fail
  go_ret
  exact ⟨ret_str (by rw [HD.out, ← B_append]), rfl⟩
theorem decimal_nat : ∀ (n : Nat), n < 9223372036854775808 → ∀ w, Calls Tryz.prog 99 #[.int .i64 n] w fun e w' => e = .returned (.string (B (decN n))) ∧ w' = w := by
  intro n
  induction n using Nat.strongRecOn with
  | _ n ih =>
    intro hb w
    by_cases h : n < 10
    · exact decimal_small n h w
    · exact decimal_step n (by omega) hb (ih (n / 10) (by omega) (by omega)) w
theorem decS_nat (n : Nat) : decS n = decN n := by
  unfold decS; rw [if_neg (by omega)]; simp
theorem decimal_neg (n : Nat) (hn : 0 < n) (hb : n < 9223372036854775808) (w : World) : Calls Tryz.prog 99 #[.int .i64 (-(n : Int))] w fun e w' => e = .returned (.string (B (decS (-(n : Int))))) ∧ w' = w := by
  have h0 : -(n : Int) < 0 := by omega
  have hne : (-(n : Int) == (n : Int)) = false := by simp; omega
  have hsz := decN_lt19 n hb
  have HI := hide (decimal_nat n hb)
  have HD : Hid (decS (-(n : Int)) = 45 :: decN n) := by unfold Hid decS; rw [if_pos h0]; simp
  have HB : Hid (n < 9223372036854775808) := hb
  have hwr : wrap64 (n : Int) = (n : Int) := by unfold wrap64; omega
  clear hb
  go_enter Tryz.func99, Tryz.ntmps99
  go_wp2_with (go_at_call 99; refine (HI.out _).mono ?_; rintro e w1 ⟨rfl, rfl⟩)
  go_ret
  exact ⟨ret_str (by rw [HD.out]; exact B_append [45] (decN n)), rfl⟩
theorem decimal_any (v : Int) (h1 : -9223372036854775808 < v) (h2 : v < 9223372036854775808) (w : World) : Calls Tryz.prog 99 #[.int .i64 v] w fun e w' => e = .returned (.string (B (decS v))) ∧ w' = w := by
  by_cases h : v < 0
  · obtain ⟨n, rfl⟩ : ∃ n : Nat, v = -(n : Int) := ⟨v.natAbs, by omega⟩
    exact decimal_neg n (by omega) (by omega) w
  · obtain ⟨n, rfl⟩ : ∃ n : Nat, v = (n : Int) := ⟨v.natAbs, by omega⟩
    rw [decS_nat]
    exact decimal_nat n (by omega) w
theorem own_cell {w : World} {base n j : Nat} {T : TypeId} {v u : Value} {xs : List Value} (h : w.ownsRow base T 1 v n xs) (hj : xs[j]? = some u) :
    ∃ g cap, v = .slice (some ⟨g, 0, none⟩) n cap ∧ n ≤ cap ∧ cap ≤ maxLen ∧ g < w.heap.size ∧ j < n ∧ w.cell? ⟨g, j, none⟩ = some u := by
  have hjl : j < xs.length := (List.getElem?_eq_some_iff.1 hj).1
  have hl := h.1
  rcases h.2 with ⟨_, h0⟩ | ⟨g, cap, cur, rfl, _, hgg, hcap, hmx, hsz, htk⟩
  · omega
  · exact ⟨g, cap, rfl, hcap, hmx, (Array.getElem?_eq_some_iff.1 hgg).1, by omega, rowCell hgg htk hj⟩
def powS (n : ByteArray) (m : Nat) : Int :=
  if m ≠ 2 then 0 else if n = B [43] ∨ n = B [45] then 1 else if n = B [42] ∨ n = B [47, 47] ∨ n = B [109, 111, 100] then 2 else 0
end Go.Proofs.YtodpkdajbnceoaaGreatDoor
