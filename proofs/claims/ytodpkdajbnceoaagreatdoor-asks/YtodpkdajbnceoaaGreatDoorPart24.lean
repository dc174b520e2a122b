import Derived.Test.YtodpkdajbnceoaaGreatDoorPart18
import Derived.Test.YtodpkdajbnceoaaGreatDoorPart07
set_option linter.all false
set_option maxHeartbeats 4000000
set_option maxRecDepth 100000
namespace Go.Proofs.YtodpkdajbnceoaaGreatDoor
open Go.RowKit
structure WrB (w : World) (wb hb : Nat) (V : _root_.Fin 6 → Value) (avs : List Value) (most : Int) (sv : Value) (seen : List Nat) (h : Hp) : Prop where
  S : Sound hb most w V avs h
  cells : w.heap[wb]? = some (.cells #[.pointer (some ⟨hb, 0, none⟩), sv] 130 (0, 0))
  own : w.ownsRow 0 3 1 sv seen.length (intsV seen)
  wn : ¬ HM hb V wb
  sn : ∀ b, sv.ownBlock = some b → ¬ HM hb V b ∧ b ≠ wb ∧ ∀ u ∈ avs, u.ownBlock ≠ some b
  wa : ∀ u ∈ avs, u.ownBlock ≠ some wb
  sl : (seen.length : Int) ≤ h.cost
theorem hp_row {w : World} {hb : Nat} {V : _root_.Fin 6 → Value} {avs : List Value} {most : Int} {h : Hp} (H : HpIn w hb V avs most h) (t : Nat) (ht : t < h.T.length) :
    ∃ g0 p0 g1 p1 g2 p2 g3 p3 a c, w.cell? ⟨hb, 0, none⟩ = some (.slice (some ⟨g0, 0, none⟩) h.T.length p0) ∧ w.cell? ⟨g0, t, none⟩ = some (.int .u8 (nd h.T t).k) ∧ h.T.length ≤ p0 ∧
      w.cell? ⟨hb, 1, none⟩ = some (.slice (some ⟨g1, 0, none⟩) h.T.length p1) ∧ w.cell? ⟨g1, t, none⟩ = some (.string (nd h.T t).nm) ∧ h.T.length ≤ p1 ∧
      w.cell? ⟨hb, 2, none⟩ = some (.slice (some ⟨g2, 0, none⟩) h.T.length p2) ∧ w.cell? ⟨g2, t, none⟩ = some (.int .i64 (nd h.T t).n) ∧ h.T.length ≤ p2 ∧
      w.cell? ⟨hb, 3, none⟩ = some (.slice (some ⟨g3, 0, none⟩) h.T.length p3) ∧ w.cell? ⟨g3, t, none⟩ = some (.slice a (nd h.T t).ags.length c) ∧ h.T.length ≤ p3 ∧
      w.ownsRow 0 3 1 (.slice a (nd h.T t).ags.length c) (nd h.T t).ags.length (intsV (nd h.T t).ags) ∧ (.slice a (nd h.T t).ags.length c) ∈ avs ∧ hb < w.heap.size ∧ g0 < w.heap.size ∧ g1 < w.heap.size ∧ g2 < w.heap.size ∧ g3 < w.heap.size := by
  have hta : t < avs.length := by rw [H.tab.la]; exact ht
  have e : nd h.T t = h.T[t] := by simp [nd, ht]
  rw [e]
  obtain ⟨g0, p0, e0, a0, b0, l0, j0, k0⟩ := own_cell (j := t) (u := .int .u8 h.T[t].k) (H.tab.H.own 0) (by simp [tabC, ht])
  obtain ⟨g1, p1, e1, a1, b1, l1, j1, k1⟩ := own_cell (j := t) (u := .string h.T[t].nm) (H.tab.H.own 1) (by simp [tabC, ht])
  obtain ⟨g2, p2, e2, a2, b2, l2, j2, k2⟩ := own_cell (j := t) (u := .int .i64 h.T[t].n) (H.tab.H.own 2) (by simp [tabC, ht])
  obtain ⟨g3, p3, e3, a3, b3, l3, j3, k3⟩ := own_cell (j := t) (u := avs[t]) (H.tab.H.own 3) (by simp [tabC, hta])
  have hA := (H.tab.args t ht hta).1
  obtain ⟨a, c, ea⟩ := row_form hA
  have x0 : (tabC h.T avs (tosOf h.T.length h.bs) (trOf h.bs) 0).length = h.T.length := by simp [tabC]
  have x1 : (tabC h.T avs (tosOf h.T.length h.bs) (trOf h.bs) 1).length = h.T.length := by simp [tabC]
  have x2 : (tabC h.T avs (tosOf h.T.length h.bs) (trOf h.bs) 2).length = h.T.length := by simp [tabC]
  have x3 : (tabC h.T avs (tosOf h.T.length h.bs) (trOf h.bs) 3).length = h.T.length := by simp [tabC, H.tab.la]
  refine ⟨g0, p0, g1, p1, g2, p2, g3, p3, a, c, ?_, k0, by omega, ?_, k1, by omega, ?_, k2, by omega, ?_, by rw [← ea]; exact k3, by omega, by rw [← ea]; exact hA, by rw [← ea]; exact List.getElem_mem hta, H.tab.H.lt_size, l0, l1, l2, l3⟩
  · have := H.tab.H.c 0; rw [← x0, ← e0]; exact this
  · have := H.tab.H.c 1; rw [← x1, ← e1]; exact this
  · have := H.tab.H.c 2; rw [← x2, ← e2]; exact this
  · have := H.tab.H.c 3; rw [← x3, ← e3]; exact this
section
variable {w w' : World} {wb hb : Nat} {V : _root_.Fin 6 → Value} {avs : List Value} {most : Int} {sv : Value} {seen : List Nat} {h : Hp}
theorem WrB.w0 (W : WrB w wb hb V avs most sv seen h) : w.cell? ⟨wb, 0, none⟩ = some (.pointer (some ⟨hb, 0, none⟩)) := by rw [cell_of_block W.cells]; rfl
theorem WrB.w1 (W : WrB w wb hb V avs most sv seen h) : w.cell? ⟨wb, 1, none⟩ = some sv := by rw [cell_of_block W.cells]; rfl
theorem WrB.wlt (W : WrB w wb hb V avs most sv seen h) : wb < w.heap.size := (Array.getElem?_eq_some_iff.1 W.cells).1
theorem WrB.below (W : WrB w wb hb V avs most sv seen h) (hB : Below w.heap.size w w') : WrB w' wb hb V avs most sv seen h :=
  ⟨⟨W.S.H.below hB, W.S.f4, W.S.nums, W.S.c0⟩, by rw [hB.block _ W.wlt]; exact W.cells, own_below W.own hB, W.wn, W.sn, W.wa, W.sl⟩
theorem WrB.count (W : WrB w wb hb V avs most sv seen h) (c : Int) (hc : h.cost ≤ c) : WrB (w.setCell ⟨hb, 6, none⟩ (.int .i64 c)) wb hb V avs most sv seen { h with cost := c } ∧ WFr wb hb sv sv w (w.setCell ⟨hb, 6, none⟩ (.int .i64 c)) := by
  have hne : ∀ b, b ≠ hb → (w.setCell ⟨hb, 6, none⟩ (.int .i64 c)).heap[b]? = w.heap[b]? := fun b hb1 => Below.heap_setCell _ _ _ _ hb1
  have hwb : wb ≠ hb := fun e => W.wn (.inl e)
  have hc0 := W.S.c0
  refine ⟨⟨(W.S.count c (by omega)).1, by rw [hne wb hwb]; exact W.cells, own_keep W.own (fun b q => hne b (fun e => (W.sn b q).1 (.inl e))), W.wn, W.sn, W.wa, by have := W.sl; show (seen.length : Int) ≤ c; omega⟩, rfl, rfl, rfl, by simp [World.setCell], fun b _ q _ _ => hne b q, fun _ e => .inl e⟩
theorem WrB.avs_nm {v : Value} (W : WrB w wb hb V avs most sv seen h) (hm : v ∈ avs) : ∀ b, v.ownBlock = some b → ¬ HM hb V b := by
  obtain ⟨i, hi, rfl⟩ := List.getElem_of_mem hm
  exact (W.S.H.tab.args i (by rw [← W.S.H.tab.la]; exact hi) hi).2
end
def TextB (wb hb : Nat) (V : _root_.Fin 6 → Value) (avs : List Value) (most : Int) (h : Hp) (sv : Value) (w : World) (M : Int) (e : Ending) (w' : World) : Prop :=
  ∃ (x : ByteArray) (sv' : Value) (seen' : List Nat) (c : Int), e = .returned (.string x) ∧ (x.size : Int) + 10 ≤ 2100 * (c - h.cost) ∧ WrB w' wb hb V avs most sv' seen' { h with cost := c } ∧ h.cost + 1 ≤ c ∧ c ≤ M ∧ WFr wb hb sv sv' w w'
theorem decimal_least (w : World) : Calls Tryz.prog 99 #[.int .i64 (-9223372036854775808)] w fun e w' => e = .returned (.string (B [45, 57, 50, 50, 51, 51, 55, 50, 48, 51, 54, 56, 53, 52, 55, 55, 53, 56, 48, 56])) ∧ w' = w := by
  have hwr : wrap64 9223372036854775808 = -9223372036854775808 := by unfold wrap64; omega
  go_enter Tryz.func99, Tryz.ntmps99
  go_wp2_with fail
  go_ret
  exact ⟨rfl, rfl⟩
theorem decimal_b (v : Int) (hv : I64 v) (w : World) : Calls Tryz.prog 99 #[.int .i64 v] w fun e w' => (∃ x : ByteArray, e = .returned (.string x) ∧ x.size ≤ 20) ∧ w' = w := by
  by_cases h : v = -9223372036854775808
  · subst h
    refine (decimal_least w).mono ?_
    rintro e w' ⟨rfl, rfl⟩
    exact ⟨⟨_, rfl, by rw [B_size]; simp⟩, rfl⟩
  · have h1 : -9223372036854775808 < v := by have := hv.1; omega
    have h2 : v < 9223372036854775808 := by have := hv.2; omega
    refine (decimal_any v h1 h2 w).mono ?_
    rintro e w' ⟨rfl, rfl⟩
    exact ⟨⟨_, rfl, by rw [B_size]; exact decS_len v h1 h2⟩, rfl⟩
theorem power_b {w : World} {wb hb : Nat} {V : _root_.Fin 6 → Value} {avs : List Value} {most : Int} {sv : Value} {seen : List Nat} {h : Hp} (W : WrB w wb hb V avs most sv seen h) (t : Nat) (ht : t < h.T.length) :
    ∃ P : Int, (P = 0 ∨ ((nd h.T t).ags.length = 2 ∧ 0 < P ∧ P ≤ 2)) ∧ ∀ w' sv' seen' c, WrB w' wb hb V avs most sv' seen' { h with cost := c } → Calls Tryz.prog 100 #[.pointer (some ⟨wb, 0, none⟩), .int .i64 t] w' fun e w'' => e = .returned (.int .i64 P) ∧ w'' = w' := by
  have hsm := W.S.H.small
  by_cases hk : (nd h.T t).k = 99
  · refine ⟨powS (nd h.T t).nm (nd h.T t).ags.length, ?_, fun w' sv' seen' c W' => ?_⟩
    · unfold powS
      by_cases e : (nd h.T t).ags.length = 2
      · rw [if_neg (by omega)]
        split
        · exact .inr ⟨e, by omega, by omega⟩
        · split
          · exact .inr ⟨e, by omega, by omega⟩
          · exact .inl rfl
      · rw [if_pos e]; exact .inl rfl
    · obtain ⟨g0, p0, g1, p1, g2, p2, g3, p3, a, cc, c0, k0, l0, c1, k1, l1, c2, k2, l2, c3, k3, l3, ho, hmem, hhb, z0, z1, z2, z3⟩ := hp_row (h := { h with cost := c }) W'.S.H t ht
      have w0 := W'.w0
      have hwl := W'.wlt
      have hl4 := W.S.f4 t ht
      have k0' : w'.cell? ⟨g0, t, none⟩ = some (.int .u8 99) := by rw [k0]; show some (Value.int .u8 (nd h.T t).k) = _; rw [hk]
      have HP := hide (pow_eq (nd h.T t).nm (nd h.T t).ags.length)
      generalize powS (nd h.T t).nm (nd h.T t).ags.length = P at *
      generalize (nd h.T t).nm = nm at *
      generalize (nd h.T t).ags.length = ln at *
      clear ho hmem k0 hk W W' k2
      by_cases h2 : ln = 2
      · subst h2
        go_enter Tryz.func100, Tryz.ntmps100
        go_wp2_with fail
        all_goals
          go_ret
          refine ⟨ret_int ?_, rfl⟩
          go_light
          rw [HP.out]
          clear HP c0 k0' l0 c1 k1 l1 c2 l2 c3 k3 l3 w0
          simp_all
      · have h2' : ((ln : Int) == 2) = false := by simp; omega
        have h2n : (ln != 2) = true := by simpa using h2
        go_enter Tryz.func100, Tryz.ntmps100
        go_wp2_with fail
        all_goals
          go_ret
          refine ⟨ret_int ?_, rfl⟩
          go_light
          rw [HP.out]
          clear HP c0 k0' l0 c1 k1 l1 c2 l2 c3 k3 l3 w0
          simp_all
  · refine ⟨0, .inl rfl, fun w' sv' seen' c W' => ?_⟩
    obtain ⟨g0, p0, g1, p1, g2, p2, g3, p3, a, cc, c0, k0, l0, c1, k1, l1, c2, k2, l2, c3, k3, l3, ho, hmem, hhb, z0, z1, z2, z3⟩ := hp_row (h := { h with cost := c }) W'.S.H t ht
    have w0 := W'.w0
    have hwl := W'.wlt
    have k0' : w'.cell? ⟨g0, t, none⟩ = some (.int .u8 (nd h.T t).k) := k0
    generalize (nd h.T t).k = K at *
    have hk' : (K == 99) = false := by simpa using hk
    have hk2 : (K != 99) = true := by simpa using hk
    clear ho hmem k0 W W' k1 k2 k3
    go_enter Tryz.func100, Tryz.ntmps100
    go_wp2_with fail
    go_ret
    exact ⟨rfl, rfl⟩
section
variable {w : World} {wb hb : Nat} {V : _root_.Fin 6 → Value} {avs : List Value} {most : Int} {sv : Value} {seen : List Nat} {h : Hp}
theorem spent_b {c : Int} (W : WrB w wb hb V avs most sv seen { h with cost := c }) {b : Bool} (hb' : spentB c most h.err = b) :
    Calls Tryz.prog 88 #[.pointer (some ⟨hb, 0, none⟩)] w fun e w' => e = .returned (.bool b) ∧ Below w.heap.size w w' := by
  have hsp := spent_x W.S.H.tab.H
  rw [show (decide (most < c) || !(h.err == 0)) = b from hb'] at hsp
  refine hsp.mono ?_
  rintro e w' ⟨rfl, n, rfl⟩
  exact ⟨rfl, below_drewN (Below.refl _ _) n⟩
theorem text_spent (W : WrB w wb hb V avs most sv seen h) (hc : h.cost ≤ 100000000) (hs : spentB (h.cost + 1) most h.err = true) (t : Nat) (least M : Int) (hM : h.cost + 1 ≤ M) :
    Calls Tryz.prog 66 #[.pointer (some ⟨wb, 0, none⟩), .int .i64 t, .int .i64 least] w fun e w' => TextB wb hb V avs most h sv w M e w' := by
  have w0 := W.w0
  have c6 : w.cell? ⟨hb, 6, none⟩ = some (.int .i64 h.cost) := W.S.H.tab.H.c 6
  have f6 := W.S.H.tab.H.fz 6
  have hwz := W.wlt
  have hhz := W.S.H.tab.H.lt_size
  have hc0 := W.S.c0
  have hwh : wb ≠ hb := fun e => W.wn (.inl e)
  obtain ⟨h1, hf1⟩ := W.count (h.cost + 1) (by omega)
  have HSP := hide (spent_b h1 hs)
  have H1 := hide h1
  have HF1 := hide hf1
  clear W h1 hf1
  go_enter Tryz.func66, Tryz.ntmps66
  go_wp2_with (go_at_call 88; refine HSP.out.mono ?_; rintro e w2 ⟨rfl, hB2⟩)
  go_ret
  exact ⟨_, sv, seen, h.cost + 1, rfl, by show ((0 : Nat) : Int) + 10 ≤ _; omega, H1.out.below hB2, by omega, hM, HF1.out.trans (WFr.of_below hB2)⟩
theorem text_leaf (W : WrB w wb hb V avs most sv seen h) (hc : h.cost ≤ 100000000) (hs : spentB (h.cost + 1) most h.err = false) (t : Nat) (ht : t < h.T.length) (hk : (nd h.T (wk h.bs t)).k = 97 ∨ (nd h.T (wk h.bs t)).k = 110) (least M : Int) (hM : h.cost + 1 ≤ M) :
    Calls Tryz.prog 66 #[.pointer (some ⟨wb, 0, none⟩), .int .i64 t, .int .i64 least] w fun e w' => TextB wb hb V avs most h sv w M e w' := by
  have w0 := W.w0
  have c6 : w.cell? ⟨hb, 6, none⟩ = some (.int .i64 h.cost) := W.S.H.tab.H.c 6
  have f6 := W.S.H.tab.H.fz 6
  have hwz := W.wlt
  have hhz := W.S.H.tab.H.lt_size
  have hsm := W.S.H.small
  have hc0 := W.S.c0
  have hwh : wb ≠ hb := fun e => W.wn (.inl e)
  have hrl := wk_lt W.S.H.ok t ht
  obtain ⟨hn1, hn2⟩ := W.S.nums _ hrl
  obtain ⟨h1, hf1⟩ := W.count (h.cost + 1) (by omega)
  have HSP := hide (spent_b h1 hs)
  have HW : Hid (∀ w3, WrB w3 wb hb V avs most sv seen { h with cost := h.cost + 1 } → Calls Tryz.prog 98 #[.pointer (some ⟨hb, 0, none⟩), .int .i64 t] w3 fun e w' => e = .returned (.int .i64 (wk h.bs t)) ∧ w' = w3) := fun w3 h3 => walk_x (h := { h with cost := h.cost + 1 }) h3.S.H t ht
  have HC : Hid (∀ w3, WrB w3 wb hb V avs most sv seen { h with cost := h.cost + 1 } → _) := fun w3 h3 => hp_row (h := { h with cost := h.cost + 1 }) h3.S.H _ hrl
  have H1 := hide h1
  have HF1 := hide hf1
  clear W h1 hf1
  have HN2 := hide hn2
  have HD := hide (decimal_b _ hn1)
  have HFN : Hid (∀ (x : ByteArray) (w2 : World), x.size ≤ 2000 → Below (w.setCell ⟨hb, 6, none⟩ (.int .i64 (h.cost + 1))).heap.size (w.setCell ⟨hb, 6, none⟩ (.int .i64 (h.cost + 1))) w2 → TextB wb hb V avs most h sv w M (.returned (.string x)) w2) := fun x w2 hx hB2 => ⟨x, sv, seen, h.cost + 1, rfl, by omega, H1.out.below hB2, by omega, hM, HF1.out.trans (WFr.of_below hB2)⟩
  generalize wk h.bs t = r at *
  rcases hk with hk | hk
  · rw [hk] at HC
    go_enter Tryz.func66, Tryz.ntmps66
    go_wp2_with (first | (go_at_call 88; refine HSP.out.mono ?_; rintro e w2 ⟨rfl, hB2⟩; have h2 := H1.out.below hB2; obtain ⟨g0, p0, g1, p1, g2, p2, g3, p3, a, cc, c0, k0, l0, c1, k1, l1, c2, k2, l2, c3, k3, l3, ho, hmem, hhb2, z0, z1, z2, z3⟩ := HC.out _ h2; have w02 := h2.w0; have hwl2 := h2.wlt) | (go_at_call 98; refine (HW.out _ h2).mono ?_; rintro e w3 ⟨rfl, rfl⟩))
    go_ret
    exact HFN.out _ _ HN2.out hB2
  · rw [hk] at HC
    go_enter Tryz.func66, Tryz.ntmps66
    go_wp2_with (first | (go_at_call 88; refine HSP.out.mono ?_; rintro e w2 ⟨rfl, hB2⟩; have h2 := H1.out.below hB2; obtain ⟨g0, p0, g1, p1, g2, p2, g3, p3, a, cc, c0, k0, l0, c1, k1, l1, c2, k2, l2, c3, k3, l3, ho, hmem, hhb2, z0, z1, z2, z3⟩ := HC.out _ h2; have w02 := h2.w0; have hwl2 := h2.wlt) | (go_at_call 98; refine (HW.out _ h2).mono ?_; rintro e w3 ⟨rfl, rfl⟩) | (go_at_call 99; refine (HD.out _).mono ?_; rintro e w4 ⟨⟨x, rfl, hx⟩, rfl⟩))
    go_ret
    exact HFN.out _ _ (by omega) hB2
end
section
variable {w w' : World} {wb hb : Nat} {V : _root_.Fin 6 → Value} {avs : List Value} {most : Int} {sv v' : Value} {seen : List Nat} {h : Hp}
theorem avs_lt {u : Value} (S : Sound hb most w V avs h) (hu : u ∈ avs) : ∀ b, u.ownBlock = some b → b < w.heap.size := fun b q => by
  obtain ⟨i, hi, rfl⟩ := List.getElem_of_mem hu
  exact ((S.H.tab.args i (by rw [← S.H.tab.la]; exact hi) hi).1.lt b q).2
theorem WrB.grow {o : Obj} {t : Nat} {c0 : Int} (W : WrB w wb hb V avs most sv seen h) (hsl : (seen.length : Int) ≤ c0) (hcc : c0 + 1 ≤ h.cost)
    (hg : (w.alloc o).grownBy w' sv.ownBlock) (ho : w'.ownsRow 0 3 1 v' (seen.length + 1) (intsV seen ++ [.int .i64 t])) (hn : ∀ b, v'.ownBlock = some b → sv.ownBlock = some b ∨ w.heap.size + 1 ≤ b) :
    WrB (w'.setCell ⟨wb, 1, none⟩ v') wb hb V avs most v' (seen ++ [t]) h ∧ WFr wb hb sv v' w (w'.setCell ⟨wb, 1, none⟩ v') := by
  have hsz : (w.alloc o).heap.size = w.heap.size + 1 := by simp
  have hs' := hg.size
  have hold : ∀ b, b < w.heap.size → sv.ownBlock ≠ some b → w'.heap[b]? = w.heap[b]? := fun b hb1 hb2 => by
    rw [hg.block b (by omega) (fun e => hb2 e.symm)]; exact Below.heap_alloc _ _ _ hb1
  have hne : ∀ b, b ≠ wb → (w'.setCell ⟨wb, 1, none⟩ v').heap[b]? = w'.heap[b]? := fun b hb1 => Below.heap_setCell _ _ _ _ hb1
  have hwl := W.wlt
  have hwb : w'.heap[wb]? = some (.cells #[.pointer (some ⟨hb, 0, none⟩), sv] 130 (0, 0)) := by
    rw [hold wb hwl (fun e => (W.sn wb e).2.1 rfl)]; exact W.cells
  have hmk : ∀ b, HM hb V b → (w'.setCell ⟨wb, 1, none⟩ v').heap[b]? = w.heap[b]? := fun b q => by
    rw [hne b (fun e => W.wn (e ▸ q)), hold b (W.S.H.tab.H.mlt b q) (fun e => (W.sn b e).1 q)]
  have hak : ∀ u ∈ avs, ∀ b, u.ownBlock = some b → (w'.setCell ⟨wb, 1, none⟩ v').heap[b]? = w.heap[b]? := fun u hu b q => by
    rw [hne b (fun e => W.wa u hu (e ▸ q)), hold b (avs_lt W.S hu b q) (fun e => (W.sn b e).2.2 u hu q)]
  have hv'w : ∀ b, v'.ownBlock = some b → b ≠ wb := fun b q e => (hn b q).elim (fun r => (W.sn b r).2.1 e) (fun r => by omega)
  refine ⟨⟨W.S.keep hmk hak, by rw [heap_setCell_same hwb]; rfl, ?_, W.wn, fun b q => ⟨fun e => ?_, hv'w b q, fun u hu e => ?_⟩, W.wa, ?_⟩, ?_⟩
  · have e1 : intsV seen ++ [.int .i64 (t : Int)] = intsV (seen ++ [t]) := by simp [intsV]
    rw [e1] at ho
    have : w'.ownsRow 0 3 1 v' (seen ++ [t]).length (intsV (seen ++ [t])) := by simpa using ho
    exact own_keep this (fun b q => hne b (hv'w b q))
  · rcases hn b q with r | r
    · exact (W.sn b r).1 e
    · have := W.S.H.tab.H.mlt b e; omega
  · rcases hn b q with r | r
    · exact (W.sn b r).2.2 u hu e
    · have := avs_lt W.S hu b e; omega
  · rw [List.length_append, List.length_singleton]; omega
  · refine ⟨hg.os, hg.tape, hg.output, by simp [World.setCell]; omega, fun b hb1 hb2 hb3 hb4 => ?_, fun b q => (hn b q).elim .inl (fun r => .inr (by omega))⟩
    rw [hne b hb3]; exact hold b hb1 hb4
theorem grown_wbB {o : Obj} (W : WrB w wb hb V avs most sv seen h) (hg : (w.alloc o).grownBy w' sv.ownBlock) :
    w'.cell? ⟨wb, 1, none⟩ = some sv ∧ (∀ j, w'.frozen? ⟨wb, j, none⟩ = false) ∧ wb < w'.heap.size := by
  have hwl := W.wlt
  have hwb : w'.heap[wb]? = some (.cells #[.pointer (some ⟨hb, 0, none⟩), sv] 130 (0, 0)) := by
    rw [hg.block wb (by simp; omega) (fun e => (W.sn wb e.symm).2.1 rfl), Below.heap_alloc _ _ _ hwl]; exact W.cells
  exact ⟨by rw [cell_of_block hwb]; rfl, fun j => by simp [World.frozen?, hwb], (Array.getElem?_eq_some_iff.1 hwb).1⟩
theorem text_varB (W : WrB w wb hb V avs most sv seen h) (hc : h.cost ≤ 100000000) (hs : spentB (h.cost + 1) most h.err = false) (t : Nat) (ht : t < h.T.length) (hk : (nd h.T (wk h.bs t)).k = 118) (least M : Int) (hM : h.cost + 1 ≤ M) :
    Calls Tryz.prog 66 #[.pointer (some ⟨wb, 0, none⟩), .int .i64 t, .int .i64 least] w fun e w' => TextB wb hb V avs most h sv w M e w' := by
  have w0 := W.w0
  have c6 : w.cell? ⟨hb, 6, none⟩ = some (.int .i64 h.cost) := W.S.H.tab.H.c 6
  have f6 := W.S.H.tab.H.fz 6
  have hwz := W.wlt
  have hhz := W.S.H.tab.H.lt_size
  have hsm := W.S.H.small
  have hc0 := W.S.c0
  have hsl := W.sl
  have hwh : wb ≠ hb := fun e => W.wn (.inl e)
  have hrl := wk_lt W.S.H.ok t ht
  obtain ⟨h1, hf1⟩ := W.count (h.cost + 1) (by omega)
  have HSP := hide (spent_b h1 hs)
  have HW : Hid (∀ w3, WrB w3 wb hb V avs most sv seen { h with cost := h.cost + 1 } → Calls Tryz.prog 98 #[.pointer (some ⟨hb, 0, none⟩), .int .i64 t] w3 fun e w' => e = .returned (.int .i64 (wk h.bs t)) ∧ w' = w3) := fun w3 h3 => walk_x (h := { h with cost := h.cost + 1 }) h3.S.H t ht
  have HC : Hid (∀ w3, WrB w3 wb hb V avs most sv seen { h with cost := h.cost + 1 } → _) := fun w3 h3 => hp_row (h := { h with cost := h.cost + 1 }) h3.S.H _ hrl
  have H1 := hide h1
  have HF1 := hide hf1
  obtain ⟨so, sc, hso⟩ := row_form W.own
  subst hso
  clear W h1 hf1
  obtain ⟨i0, hi, hz0, hz1, hz2⟩ := info_parts Tryz.infoInt
  generalize wk h.bs t = r at *
  rw [hk] at HC
  go_enter Tryz.func66, Tryz.ntmps66
  go_wp2_with (first | (go_at_call 88; refine HSP.out.mono ?_; rintro e w2 ⟨rfl, hB2⟩; have h2 := H1.out.below hB2; obtain ⟨g0, p0, g1, p1, g2, p2, g3, p3, a, cc, c0, k0, l0, c1, k1, l1, c2, k2, l2, c3, k3, l3, ho, hmem, hhb2, z0, z1, z2, z3⟩ := HC.out _ h2; have w02 := h2.w0; have w12 := h2.w1; have hwl2 := h2.wlt) | (go_at_call 98; refine (HW.out _ h2).mono ?_; rintro e w3 ⟨rfl, hw3⟩; subst w3))
  have H2 := hide h2
  have HF2 : Hid (WFr wb hb (.slice so seen.length sc) (.slice so seen.length sc) w w2) := HF1.out.trans (WFr.of_below hB2)
  clear h2 ho hmem c0 k0 c1 k1 c2 k2 c3 k3 hB2 c6 f6 w0
  go_loopg [8] (seen.length + 1) (fun g i wr => w2 = wr ∧ ∃ j : Nat, seen.length - j < g ∧ j ≤ seen.length ∧ i = .int .i64 j)
  case atStart => exact ⟨rfl, 0, by omega, by omega, rfl⟩
  case round =>
    obtain ⟨rfl, j, hj, hjl, rfl⟩ := hrel
    by_cases hlt : j < seen.length
    · obtain ⟨gs, ps, es, asm, bs, ls, js, ks⟩ := own_cell (j := j) (u := .int .i64 seen[j]) H2.out.own (by simp [intsV, hlt])
      cases es
      by_cases heq : seen[j] = r
      · have heq' : ((seen[j] : Int) == (r : Int)) = true := by simp [heq]
        have HD := hide (decimal_b ((j : Int) + 1) ⟨by omega, by omega⟩)
        clear heq
        go_wp2_with (go_at_call 99; refine (HD.out _).mono ?_; rintro e w4 ⟨⟨x, rfl, hx⟩, hw4⟩; subst w4)
        go_ret
        exact ⟨_, _, seen, h.cost + 1, rfl, by simp only [ByteArray.size_append]; show (((1 : Nat) + x.size : Nat) : Int) + 10 ≤ _; omega, H2.out, by omega, hM, HF2.out⟩
      · have heq' : ((seen[j] : Int) == (r : Int)) = false := by simp; omega
        go_wp2_with fail
        go_roundg (gk - 1)
        case measure => omega
        case rel => exact ⟨rfl, j + 1, by omega, by omega, by go_num⟩
    · have hjn : j = seen.length := by omega
      subst hjn
      have HD := hide (decimal_b ((seen.length : Int) + 1) ⟨by omega, by omega⟩)
      have how := H2.out.own
      go_wp2_with (first | (at_builtin; refine wpList_append_own2 rfl (.tmp 105) (.tmp 107) 65 rfl 0 3 i0 (.int .i64 0) 1 8 Tryz.underlyingInts hi hz0 hz1 hz2 rfl (by decide) (.slice so seen.length sc) _ _ rfl (how.alloc _) ⟨w2.heap.size, 0, none⟩ 1 1 [.int .i64 r] rfl rfl ?_ ?_ ?_ ?_ ?_ ?_) | go_in)
      · exact cell_one_new _ _ _
      · intro u hu; simp at hu; subst hu; rfl
      · unfold maxLen; omega
      · omega
      · exact Nat.zero_le _
      intro v' w5 ho5 hg5 hn5
      have HG := hide (H2.out.grow (c0 := h.cost) hsl (Int.le_refl _) hg5 ho5 hn5)
      obtain ⟨zc, zf, zl⟩ := grown_wbB H2.out hg5
      obtain ⟨vo, vc, hvo⟩ := row_form ho5
      subst hvo
      have zf1 := zf 1
      clear hn5 ho5 hg5 zf how
      go_wp2_with (go_at_call 99; refine (HD.out _).mono ?_; rintro e w4 ⟨⟨x, rfl, hx⟩, hw4⟩; subst w4)
      go_ret
      exact ⟨_, _, _, h.cost + 1, rfl, by simp only [ByteArray.size_append]; show (((1 : Nat) + x.size : Nat) : Int) + 10 ≤ _; omega, HG.out.1, by omega, hM, HF2.out.trans HG.out.2⟩
end
def TextI (wb hb : Nat) (V : _root_.Fin 6 → Value) (avs : List Value) (most : Int) (h : Hp) (f : Nat) : Prop :=
  ∀ (w : World) (c : Int) (sv : Value) (seen : List Nat) (t : Nat) (least : Int), WrB w wb hb V avs most sv seen { h with cost := c } → 0 ≤ c → most ≤ c + f → c ≤ 20000000 → t < h.T.length →
    Calls Tryz.prog 66 #[.pointer (some ⟨wb, 0, none⟩), .int .i64 t, .int .i64 least] w fun e w' => TextB wb hb V avs most { h with cost := c } sv w (max (c + 1) (most + 1 + 4 * f)) e w'
section
variable {w w' : World} {wb hb : Nat} {V : _root_.Fin 6 → Value} {avs : List Value} {most : Int} {sv sv' : Value} {seen : List Nat} {h : Hp}
theorem args_keepB {v : Value} {n : Nat} {xs : List Value} (W : WrB w wb hb V avs most sv seen h) (hf : WFr wb hb sv sv' w w') (hm : v ∈ avs) (ho : w.ownsRow 0 3 1 v n xs) : w'.ownsRow 0 3 1 v n xs :=
  own_keep ho (fun b q => hf.block b (ho.lt b q).2 (fun e => W.avs_nm hm b q (.inl e)) (fun e => W.wa v hm (e ▸ q)) (fun e => (W.sn b e).2.2 v hm q))
theorem text_opB (W : WrB w wb hb V avs most sv seen h) (hc : h.cost + 1 ≤ most) (hm : most ≤ 1000000) (f : Nat) (hf : f ≤ 1000000) (hfc : most ≤ h.cost + (f + 1)) (hs : spentB (h.cost + 1) most h.err = false) (t : Nat) (ht : t < h.T.length)
    (hk1 : (nd h.T (wk h.bs t)).k ≠ 97) (hk2 : (nd h.T (wk h.bs t)).k ≠ 110) (hk3 : (nd h.T (wk h.bs t)).k ≠ 118) (hI : TextI wb hb V avs most h f)
    (P : Int) (hP0 : 0 < P) (hP2 : P ≤ 2) (hl2 : (nd h.T (wk h.bs t)).ags.length = 2)
    (hP : ∀ w' sv' seen' c, WrB w' wb hb V avs most sv' seen' { h with cost := c } → Calls Tryz.prog 100 #[.pointer (some ⟨wb, 0, none⟩), .int .i64 (wk h.bs t)] w' fun e w'' => e = .returned (.int .i64 P) ∧ w'' = w') (least : Int) :
    Calls Tryz.prog 66 #[.pointer (some ⟨wb, 0, none⟩), .int .i64 t, .int .i64 least] w fun e w' => TextB wb hb V avs most h sv w (most + 1 + 4 * (f + 1 : Nat)) e w' := by
  have w0 := W.w0
  have c6 : w.cell? ⟨hb, 6, none⟩ = some (.int .i64 h.cost) := W.S.H.tab.H.c 6
  have f6 := W.S.H.tab.H.fz 6
  have hwz := W.wlt
  have hhz := W.S.H.tab.H.lt_size
  have hsm := W.S.H.small
  have hc0 := W.S.c0
  have hwh : wb ≠ hb := fun e => W.wn (.inl e)
  have hrl := wk_lt W.S.H.ok t ht
  obtain ⟨hn1, hn2⟩ := W.S.nums _ hrl
  have hin := W.S.H.ags _ hrl
  obtain ⟨h1, hf1⟩ := W.count (h.cost + 1) (by omega)
  have HSP := hide (spent_b h1 hs)
  have HW : Hid (∀ w3, WrB w3 wb hb V avs most sv seen { h with cost := h.cost + 1 } → Calls Tryz.prog 98 #[.pointer (some ⟨hb, 0, none⟩), .int .i64 t] w3 fun e w' => e = .returned (.int .i64 (wk h.bs t)) ∧ w' = w3) := fun w3 h3 => walk_x (h := { h with cost := h.cost + 1 }) h3.S.H t ht
  have HC : Hid (∀ w3 sv3 seen3 c3, WrB w3 wb hb V avs most sv3 seen3 { h with cost := c3 } → _) := fun w3 sv3 seen3 c3 h3 => hp_row (h := { h with cost := c3 }) h3.S.H _ hrl
  have H1 := hide h1
  have HF1 := hide hf1
  have HI := hide hI
  have HP := hide hP
  clear W h1 hf1 hI hP
  obtain ⟨i1, i2, hags⟩ : ∃ i1 i2, (nd h.T (wk h.bs t)).ags = [i1, i2] := by
    match hq : (nd h.T (wk h.bs t)).ags, hl2 with
    | [a, b], _ => exact ⟨a, b, rfl⟩
  rw [hags] at hin
  have hi1 := hin i1 (by simp)
  have hi2 := hin i2 (by simp)
  simp only [hags, List.length_cons, List.length_nil] at HC
  generalize (nd h.T (wk h.bs t)).nm = nm at *
  generalize (nd h.T (wk h.bs t)).n = nn at *
  generalize (nd h.T (wk h.bs t)).k = K at *
  generalize wk h.bs t = r at *
  have e1 : (K == 97) = false := by simpa using hk1
  have e2 : (K == 110) = false := by simpa using hk2
  have e3 : (K == 118) = false := by simpa using hk3
  clear hags hin hk1 hk2 hk3 hl2
  go_enter Tryz.func66, Tryz.ntmps66
  go_wp2_with (first | (go_at_call 88; refine HSP.out.mono ?_; rintro e w2 ⟨rfl, hB2⟩; have h2 := H1.out.below hB2; obtain ⟨g0, p0, g1, p1, g2, p2, g3, p3, a, cc, c0, k0, l0, c1, k1, l1, c2, k2, l2, c3, k3, l3, ho, hmem, hhb2, z0, z1, z2, z3⟩ := HC.out _ _ _ _ h2; have w02 := h2.w0; have hwl2 := h2.wlt) | (go_at_call 98; refine (HW.out _ h2).mono ?_; rintro e w3 ⟨rfl, hw3⟩; subst w3; obtain ⟨ga, pa, ea, aam, abm, al, aj, ka1⟩ := own_cell (j := 0) (u := .int .i64 i1) ho rfl; cases ea) | (go_at_call 100; refine (HP.out _ _ _ _ h2).mono ?_; rintro e w3 ⟨rfl, hw3⟩; subst w3))
  have HO2 := hide ho
  have HMEM := hide hmem
  have H2 := hide h2
  have HB2 := hide hB2
  clear ho hmem c0 k0 c1 k1 c2 k2 c3 k3 w02 w0 c6 f6 h2 hB2
  refine (HI.out w2 (h.cost + 1) sv seen i1 P H2.out (by omega) (by omega) (by omega) hi1).mono ?_
  rintro e w4 ⟨xa, sv4, seen4, cA, rfl, hxa, h4, hc4, hc4', hf4⟩
  have hxa' : (xa.size : Int) + 10 ≤ 2100 * (cA - (h.cost + 1)) := hxa
  have hc5 : h.cost + 1 + 1 ≤ cA := hc4
  have h4' : WrB w4 wb hb V avs most sv4 seen4 { h with cost := cA } := h4
  obtain ⟨ga', pa', ea', -, -, al4, -, ka4⟩ := own_cell (j := 1) (u := .int .i64 i2) (args_keepB H2.out hf4 HMEM.out HO2.out) rfl
  cases ea'
  have w40 := h4'.w0
  have hwl4 := h4'.wlt
  have H4 := hide h4'
  have HF4 : Hid (WFr wb hb sv sv4 w w4) := HF1.out.trans ((WFr.of_below HB2.out).trans hf4)
  clear hxa hc4 h4 h4' hf4
  go_wp2_with fail
  refine (HI.out w4 cA sv4 seen4 i2 (P + 1) H4.out (by omega) (by omega) (by omega) hi2).mono ?_
  rintro e w6 ⟨xb, sv6, seen6, cB, rfl, hxb, h6, hc6, hc6', hf6⟩
  have hxb' : (xb.size : Int) + 10 ≤ 2100 * (cB - cA) := hxb
  have hc7 : cA + 1 ≤ cB := hc6
  have h6' : WrB w6 wb hb V avs most sv6 seen6 { h with cost := cB } := h6
  obtain ⟨y0, q0, y1, q1, y2, q2, y3, q3, aa', m', d0, v0, o0, d1, v1, o1, -, -, -, -, -, -, -, -, hh6, -, x1, -, -⟩ := HC.out _ _ _ _ h6'
  have v1' : w6.cell? ⟨y1, r, none⟩ = some (.string nm) := v1
  have w60 := h6'.w0
  have hwl6 := h6'.wlt
  have HFN : Hid (∀ x : ByteArray, x.size ≤ xa.size + xb.size + 2010 → TextB wb hb V avs most h sv w (most + 1 + 4 * (f + 1 : Nat)) (.returned (.string x)) w6) := fun x hx => ⟨x, sv6, seen6, cB, rfl, by omega, h6', by omega, by omega, HF4.out.trans hf6⟩
  clear hxb hc6 h6 h6' hf6 d0 v0 v1
  by_cases hlt : P < least
  · cases hmd : (nm.toList == [109, 111, 100]) with
    | true =>
      go_wp2_with fail
      go_ret
      exact HFN.out _ (by simp only [ByteArray.size_append]; show (1 : Nat) + xa.size + 5 + xb.size + 1 ≤ _; omega)
    | false =>
      go_wp2_with fail
      go_ret
      exact HFN.out _ (by simp only [ByteArray.size_append]; show (1 : Nat) + xa.size + nm.size + xb.size + 1 ≤ _; omega)
  · cases hmd : (nm.toList == [109, 111, 100]) with
    | true =>
      go_wp2_with fail
      go_ret
      exact HFN.out _ (by simp only [ByteArray.size_append]; show xa.size + 5 + xb.size ≤ _; omega)
    | false =>
      go_wp2_with fail
      go_ret
      exact HFN.out _ (by simp only [ByteArray.size_append]; omega)
end
end Go.Proofs.YtodpkdajbnceoaaGreatDoor
