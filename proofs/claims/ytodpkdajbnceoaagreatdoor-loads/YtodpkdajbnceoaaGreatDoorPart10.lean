import Derived.Test.YtodpkdajbnceoaaGreatDoorPart09
set_option linter.unusedVariables false
set_option linter.unusedSimpArgs false
namespace Go.Proofs.YtodpkdajbnceoaaGreatDoor
open Go.RowKit

/-- a variable more has been seen -/
theorem WIn.grow {w w' : World} {wb hb : Nat} {V : _root_.Fin 6 → Value} {T : List Nd} {avs : List Value} {cost most : Int} {sv v' : Value} {seen : List Nat} {o : Obj} {t : Nat} (h : WIn w wb hb V T avs cost most sv seen)
    (hg : (w.alloc o).grownBy w' sv.ownBlock) (ho : w'.ownsRow 0 3 1 v' (seen.length + 1) (intsV seen ++ [.int .i64 t])) (hn : ∀ b, v'.ownBlock = some b → sv.ownBlock = some b ∨ w.heap.size + 1 ≤ b) :
    WIn (w'.setCell ⟨wb, 1, none⟩ v') wb hb V T avs cost most v' (seen ++ [t]) ∧ WFr wb hb sv v' w (w'.setCell ⟨wb, 1, none⟩ v') := by
  have hsz : (w.alloc o).heap.size = w.heap.size + 1 := by simp
  have hs' := hg.size
  have hold : ∀ b, b < w.heap.size → sv.ownBlock ≠ some b → w'.heap[b]? = w.heap[b]? := fun b hb1 hb2 => by
    rw [hg.block b (by omega) (fun e => hb2 e.symm)]; exact Below.heap_alloc _ _ _ hb1
  have hne : ∀ b, b ≠ wb → (w'.setCell ⟨wb, 1, none⟩ v').heap[b]? = w'.heap[b]? := fun b hb1 => Below.heap_setCell _ _ _ _ hb1
  have hwl := h.wlt
  have hwb : w'.heap[wb]? = some (.cells #[.pointer (some ⟨hb, 0, none⟩), sv] 130 (0, 0)) := by
    rw [hold wb hwl (fun e => (h.sn wb e).2.1 rfl)]; exact h.cells
  have hmk : ∀ b, HM hb V b → (w'.setCell ⟨wb, 1, none⟩ v').heap[b]? = w.heap[b]? := fun b q => by
    rw [hne b (fun e => h.wn (e ▸ q)), hold b (h.T.H.mlt b q) (fun e => (h.sn b e).1 q)]
  have hak : ∀ u ∈ avs, ∀ b, u.ownBlock = some b → (w'.setCell ⟨wb, 1, none⟩ v').heap[b]? = w.heap[b]? := fun u hu b q => by
    rw [hne b (fun e => h.wa u hu (e ▸ q)), hold b (h.T.alt u hu b q) (fun e => (h.sn b e).2.2 u hu q)]
  have hv'w : ∀ b, v'.ownBlock = some b → b ≠ wb := fun b q e => (hn b q).elim (fun r => (h.sn b r).2.1 e) (fun r => by omega)
  refine ⟨⟨h.T.keep hmk hak, by rw [heap_setCell_same hwb]; rfl, ?_, h.wn, fun b q => ⟨fun e => ?_, hv'w b q, fun u hu e => ?_⟩, h.wa⟩, ?_⟩
  · have e1 : intsV seen ++ [.int .i64 (t : Int)] = intsV (seen ++ [t]) := by simp [intsV]
    rw [e1] at ho
    have : w'.ownsRow 0 3 1 v' (seen ++ [t]).length (intsV (seen ++ [t])) := by simpa using ho
    exact own_keep this (fun b q => hne b (hv'w b q))
  · rcases hn b q with r | r
    · exact (h.sn b r).1 e
    · have := h.T.H.mlt b e; omega
  · rcases hn b q with r | r
    · exact (h.sn b r).2.2 u hu e
    · have := h.T.alt u hu b e; omega
  · refine ⟨hg.os, hg.tape, hg.output, by simp [World.setCell]; omega, fun b hb1 hb2 hb3 hb4 => ?_, fun b q => (hn b q).elim .inl (fun r => .inr (by omega))⟩
    rw [hne b hb3]; exact hold b hb1 hb4

theorem grown_wb {w w' : World} {wb hb : Nat} {V : _root_.Fin 6 → Value} {T : List Nd} {avs : List Value} {cost most : Int} {sv : Value} {seen : List Nat} {o : Obj} (h : WIn w wb hb V T avs cost most sv seen) (hg : (w.alloc o).grownBy w' sv.ownBlock) :
    w'.cell? ⟨wb, 1, none⟩ = some sv ∧ ∀ j, w'.frozen? ⟨wb, j, none⟩ = false := by
  have hwl := h.wlt
  have hwb : w'.heap[wb]? = some (.cells #[.pointer (some ⟨hb, 0, none⟩), sv] 130 (0, 0)) := by
    rw [hg.block wb (by simp; omega) (fun e => (h.sn wb e.symm).2.1 rfl), Below.heap_alloc _ _ _ hwl]; exact h.cells
  exact ⟨by rw [cell_of_block hwb]; rfl, fun j => by simp [World.frozen?, hwb]⟩

theorem idx_some {s : List Nat} {k j : Nat} (hj : j < s.length) (he : s[j] = k) (hno : ∀ p (hp : p < s.length), p < j → s[p] ≠ k) : s.idxOf? k = some j := by
  rw [List.idxOf?_eq_some_iff]
  exact ⟨hj, by simpa using he, fun p hp => by simpa using hno p (by omega) hp⟩

theorem idx_none {s : List Nat} {k : Nat} (hno : ∀ p (hp : p < s.length), s[p] ≠ k) : s.idxOf? k = none := by
  rw [List.idxOf?_eq_none_iff]
  intro h
  obtain ⟨p, hp, e⟩ := List.getElem_of_mem h
  exact hno p hp e

set_option maxRecDepth 100000 in
set_option maxHeartbeats 1000000 in
theorem text_var {w : World} {wb hb : Nat} {V : _root_.Fin 6 → Value} {T : List Nd} {avs : List Value} {cost most : Int} {sv : Value} {seen : List Nat} {t : Nat} (least : Int)
    (h : WIn w wb hb V T avs cost most sv seen) (hh : T[t]? = some varNd) (hc0 : 0 ≤ cost) (hc : cost + 1 ≤ most) (hmx : most ≤ 2147483648) (hsm : T.length ≤ 100000) (hsl : seen.length ≤ 100000) :
    Calls Tryz.prog 66 #[.pointer (some ⟨wb, 0, none⟩), .int .i64 t, .int .i64 least] w fun e w' => TextPost wb hb V T avs cost most sv w 1 (varOut t seen) e w' := by
  obtain ⟨ht, hn⟩ := List.getElem?_eq_some_iff.1 hh
  have w0 := h.w0
  have w1 := h.w1
  have c6 : w.cell? ⟨hb, 6, none⟩ = some (.int .i64 cost) := h.T.H.c 6
  have f6 := h.T.H.fz 6
  have hwz := h.wlt
  have hhz := h.T.H.lt_size
  have hwh : wb ≠ hb := fun e => h.wn (.inl e)
  obtain ⟨h1, hf1⟩ := h.count (cost + 1)
  obtain ⟨g0, p0, g1, p1, g2, p2, g3, p3, a, m, c, c0, k0, l0, c1, k1, l1, c2, k2, l2, c3, k3, l3, ho, em, hmem, n0, n1, n2, n3⟩ := h.T.row t ht
  rw [hn] at k0
  have k0' : w.cell? ⟨g0, t, none⟩ = some (.int .u8 118) := k0
  clear ho em hmem k3 k1 k2 k0
  go_enter Tryz.func66, Tryz.ntmps66
  go_wp2_with (first | (go_at_call 88; refine (spent_no h1.T.H hc).mono ?_; rintro e w2 ⟨rfl, nn, rfl⟩; have h2 := h1.below (below_drewN (Below.refl _ _) nn)) | (go_at_call 98; refine (walk_any h2.T t ht hsm).mono ?_; rintro e w3 ⟨rfl, rfl⟩))
  have hfr2 := hf1.trans (WFr.of_below (sv := sv) (wb := wb) (hb := hb) (below_drewN (Below.refl _ _) nn))
  go_loopg [8] seen.length (fun g i wr => (w.setCell ⟨hb, 6, none⟩ (.int .i64 (cost + 1))).drewN nn = wr ∧ ∃ j : Nat, j + g = seen.length ∧ i = .int .i64 j ∧ ∀ p (hp : p < seen.length), p < j → seen[p] ≠ t)
  case atStart => exact ⟨rfl, 0, by omega, rfl, fun _ _ q => absurd q (by omega)⟩
  case round =>
    obtain ⟨rfl, j, hj, rfl, hno⟩ := hrel
    have HNO := hide hno
    clear hno
    by_cases hlt : j < seen.length
    · obtain ⟨gs, ps, es, asm, bs, ls, js, ks⟩ := own_cell (j := j) (u := .int .i64 seen[j]) h.own (by simp [intsV, hlt])
      have hgs : gs ≠ hb := fun e => (h.sn gs (by rw [es]; rfl)).1 (.inl e)
      rw [es] at w1
      by_cases heq : seen[j] = t
      · have heq' : ((seen[j] : Int) == (t : Int)) = true := by simp [heq]
        have HV : Hid (varOut t seen = (95 :: decN (j + 1), seen)) := by unfold Hid varOut; rw [idx_some hlt heq HNO.out]
        have HD := hide (decimal_nat (j + 1) (by omega))
        have hds := decN_lt19 (j + 1) (by omega)
        clear es heq
        go_wp2_with fail
        rw [show ((j : Int) + 1) = ((j + 1 : Nat) : Int) by omega]
        refine (HD.out _).mono ?_
        rintro e w3 ⟨rfl, rfl⟩
        go_wp2_with fail
        go_ret
        rw [HV.out]
        exact ⟨sv, cost + 1, ret_str (B_append [95] (decN (j + 1))), h2, by omega, by omega, hfr2⟩
      · have heq' : ((seen[j] : Int) == (t : Int)) = false := by simp; omega
        clear es
        go_wp2_with fail
        go_roundg (gk - 1)
        case measure => omega
        case rel =>
          refine ⟨rfl, j + 1, by omega, by go_num, fun p hp hpj => ?_⟩
          by_cases e : p = j
          · subst e; exact heq
          · exact HNO.out p hp (by omega)
    · have hjn : j = seen.length := by omega
      have HV : Hid (varOut t seen = (95 :: decN (seen.length + 1), seen ++ [t])) := by unfold Hid varOut; rw [idx_none (fun p hp => HNO.out p hp (by omega))]
      have HD := hide (decimal_nat (seen.length + 1) (by omega))
      have hds := decN_lt19 (seen.length + 1) (by omega)
      obtain ⟨i0, hi, hz0, hz1, hz2⟩ := info_parts Tryz.infoInt
      obtain ⟨so, sc, hso⟩ := row_form h.own
      subst hso
      have how := h2.own
      have hwf := h2.T.H.fz 1
      have hw1 := h2.w1
      go_wp2_with (first | (at_builtin; refine wpList_append_own2 rfl (.tmp 105) (.tmp 107) 65 rfl 0 3 i0 (.int .i64 0) 1 8 Tryz.underlyingInts hi hz0 hz1 hz2 rfl (by decide) (.slice so seen.length sc) _ _ rfl (how.alloc _) ⟨w.heap.size, 0, none⟩ 1 1 [.int .i64 t] rfl rfl ?_ ?_ ?_ ?_ ?_ ?_) | go_in)
      · have hsz : ((w.setCell ⟨hb, 6, none⟩ (.int .i64 (cost + 1))).drewN nn).heap.size = w.heap.size := by simp
        rw [← hsz]; exact cell_one_new _ _ _
      · intro u hu; simp at hu; subst hu; rfl
      · unfold maxLen; omega
      · omega
      · exact Nat.zero_le _
      intro v' w5 ho5 hg5 hn5
      have hn5' : ∀ b, v'.ownBlock = some b → (Value.slice so seen.length sc).ownBlock = some b ∨ ((w.setCell ⟨hb, 6, none⟩ (.int .i64 (cost + 1))).drewN nn).heap.size + 1 ≤ b := by
        have hsz : ((w.setCell ⟨hb, 6, none⟩ (.int .i64 (cost + 1))).drewN nn).heap.size = w.heap.size := by simp
        rw [hsz]; exact hn5
      have HG := hide (h2.grow hg5 ho5 hn5')
      obtain ⟨zc, zf⟩ := grown_wb h2 hg5
      obtain ⟨vo, vc, hvo⟩ := row_form ho5
      subst hvo
      clear hn5 hn5' ho5 hg5
      go_wp2_with fail
      rw [show ((seen.length : Int) + 1) = ((seen.length + 1 : Nat) : Int) by omega]
      refine (HD.out _).mono ?_
      rintro e w3 ⟨rfl, rfl⟩
      go_wp2_with fail
      go_ret
      rw [HV.out]
      exact ⟨_, cost + 1, ret_str (B_append [95] (decN (seen.length + 1))), HG.out.1, by omega, by omega, hfr2.trans HG.out.2⟩

end Go.Proofs.YtodpkdajbnceoaaGreatDoor

namespace Go.Proofs.YtodpkdajbnceoaaGreatDoor
open Go.RowKit

def TextOk (vl : List Nat) (x : Ex) : Prop :=
  ∀ (w : World) (wb hb : Nat) (V : _root_.Fin 6 → Value) (T : List Nd) (avs : List Value) (cost most : Int) (sv : Value) (seen : List Nat) (t : Nat) (least : Int), WIn w wb hb V T avs cost most sv seen → Has vl T x t → 0 ≤ cost → cost + szE x ≤ most → most ≤ 2147483648 → T.length ≤ 100000 → seen.length + szE x ≤ 100000 →
    Calls Tryz.prog 66 #[.pointer (some ⟨wb, 0, none⟩), .int .i64 t, .int .i64 least] w fun e w' => TextPost wb hb V T avs cost most sv w (szE x) (outS x least seen) e w'

/-- a term's arguments stay through the writer's steps -/
theorem args_keep {w w' : World} {wb hb : Nat} {V : _root_.Fin 6 → Value} {T : List Nd} {avs : List Value} {cost most : Int} {sv sv' v : Value} {seen : List Nat} {n : Nat} {xs : List Value} (h : WIn w wb hb V T avs cost most sv seen) (hf : WFr wb hb sv sv' w w')
    (hm : v ∈ avs) (ho : w.ownsRow 0 3 1 v n xs) (hnm : ∀ b, v.ownBlock = some b → ¬ HM hb V b) : w'.ownsRow 0 3 1 v n xs :=
  own_keep ho (fun b q => hf.block b (ho.lt b q).2 (fun e => hnm b q (.inl e)) (fun e => h.wa v hm (e ▸ q)) (fun e => (h.sn b e).2.2 v hm q))

theorem avs_nm {w : World} {wb hb : Nat} {V : _root_.Fin 6 → Value} {T : List Nd} {avs : List Value} {cost most : Int} {sv v : Value} {seen : List Nat} (h : WIn w wb hb V T avs cost most sv seen) (hm : v ∈ avs) : ∀ b, v.ownBlock = some b → ¬ HM hb V b := by
  obtain ⟨i, hi, rfl⟩ := List.getElem_of_mem hm
  exact (h.T.args i (by rw [← h.T.la]; exact hi) hi).2

set_option maxRecDepth 100000 in
set_option maxHeartbeats 1000000 in
theorem text_op {vl : List Nat} {n : ByteArray} {a b : Ex} (hA : TextOk vl a) (hB : TextOk vl b) (hla : LenOk a) (hlb : LenOk b) (hn : n.size ≤ 2000) (hp : 0 < powS n 2) : TextOk vl (.cmp n [a, b]) := by
  intro w wb hb V T avs cost most sv seen t least h hh hc0 hc hmx hsm hsl
  obtain ⟨idx, hti, hL⟩ : ∃ idx, T[t]? = some ⟨99, n, 0, idx⟩ ∧ HasL vl T [a, b] idx := hh
  obtain ⟨i1, r1, rfl, hh1, hL⟩ : ∃ i r, idx = i :: r ∧ Has vl T a i ∧ HasL vl T [b] r := hL
  obtain ⟨i2, r2, rfl, hh2, hL⟩ : ∃ i r, r1 = i :: r ∧ Has vl T b i ∧ HasL vl T [] r := hL
  have hr2 : r2 = [] := hL
  subst hr2
  have hsz : szE (.cmp n [a, b]) = 1 + szE a + szE b := by simp [szE, szL]; omega
  rw [hsz] at hc hsl ⊢
  obtain ⟨P, hP⟩ : ∃ P, P = powS n 2 := ⟨_, rfl⟩
  have hout : outS (.cmp n [a, b]) least seen = (if P < least then 40 :: ((outS a P seen).1 ++ opOut n ++ (outS b (P + 1) (outS a P seen).2).1 ++ [41]) else (outS a P seen).1 ++ opOut n ++ (outS b (P + 1) (outS a P seen).2).1, (outS b (P + 1) (outS a P seen).2).2) := by
    rw [outS, if_pos hp, hP]
  have HOUT := hide hout
  have hP2 : P ≤ 2 := by rw [hP]; unfold powS; repeat' split
                         all_goals omega
  rw [← hP] at hp
  obtain ⟨ht, hn'⟩ := List.getElem?_eq_some_iff.1 hti
  have w0 := h.w0
  have c6 : w.cell? ⟨hb, 6, none⟩ = some (.int .i64 cost) := h.T.H.c 6
  have f6 := h.T.H.fz 6
  have hwz := h.wlt
  have hhz := h.T.H.lt_size
  have hwh : wb ≠ hb := fun e => h.wn (.inl e)
  obtain ⟨h1, hf1⟩ := h.count (cost + 1)
  obtain ⟨g0, p0, g1, p1, g2, p2, g3, p3, aa, m, c, c0, k0, l0, c1, k1, l1, c2, k2, l2, c3, k3, l3, ho, em, hmem, n0, n1, n2, n3⟩ := h.T.row t ht
  rw [hn'] at k0 k1 ho em
  have em' : m = 2 := em
  subst em'
  have hnm := avs_nm h hmem
  have HPW : Hid (∀ (w' : World) (sv' : Value) (seen' : List Nat) (cost' : Int), WIn w' wb hb V T avs cost' most sv' seen' → Calls Tryz.prog 100 #[.pointer (some ⟨wb, 0, none⟩), .int .i64 t] w' fun e w'' => e = .returned (.int .i64 P) ∧ w'' = w') := by
    intro w' sv' seen' cost' hw'
    have := power_any hw' t ht hsm (by rw [hn']) (by rw [hn']; simp)
    rw [hn'] at this
    rw [hP]
    exact this
  obtain ⟨ga, pa, ea, aam, abm, al, aj, ka1⟩ := own_cell (j := 0) (u := .int .i64 i1) ho (by simp [intsV])
  have hga : ga ≠ hb := fun e => hnm ga (by rw [ea]; rfl) (.inl e)
  have HOA := hide ho
  simp only [Value.slice.injEq] at ea
  obtain ⟨rfl, -, rfl⟩ := ea
  have HA := hide hA
  have HBB := hide hB
  have HLA := hide hla
  have HLB := hide hlb
  have HMEM := hide hmem
  have HNM := hide hnm
  clear hA hB hout hP em hL k2 ho hla hlb hmem hnm
  go_enter Tryz.func66, Tryz.ntmps66
  go_wp2_with (first | (go_at_call 88; refine (spent_no h1.T.H (by omega)).mono ?_; rintro e w2 ⟨rfl, nn, rfl⟩; have h2 := h1.below (below_drewN (Below.refl _ _) nn)) | (go_at_call 98; refine (walk_any h2.T t ht hsm).mono ?_; rintro e w3 ⟨rfl, rfl⟩) | (go_at_call 100; refine (HPW.out _ _ _ _ h2).mono ?_; rintro e w3 ⟨rfl, rfl⟩))
  have hfr2 := hf1.trans (WFr.of_below (sv := sv) (wb := wb) (hb := hb) (below_drewN (Below.refl _ _) nn))
  obtain ⟨ra, hra⟩ : ∃ ra, ra = outS a P seen := ⟨_, rfl⟩
  have HRA := hide hra
  refine (HA.out _ _ _ _ _ _ _ _ _ _ _ P h2 hh1 (by omega) (by omega) hmx hsm (by omega)).mono ?_
  rw [← hra]
  rintro e w3 ⟨sv3, cost3, rfl, h3, hc3, hc3', hf3⟩
  have ho2 : ((w.setCell ⟨hb, 6, none⟩ (.int .i64 (cost + 1))).drewN nn).ownsRow 0 3 1 (.slice (some ⟨ga, 0, none⟩) 2 c) 2 (intsV [i1, i2]) :=
    own_keep HOA.out (fun b q => by show ((w.setCell ⟨hb, 6, none⟩ (.int .i64 (cost + 1)))).heap[b]? = _; exact Below.heap_setCell _ _ _ _ (fun e => HNM.out b q (.inl e)))
  have ho3 := args_keep h2 hf3 HMEM.out ho2 HNM.out
  obtain ⟨ga', pa', ea', -, -, al3, -, ka3⟩ := own_cell (j := 1) (u := .int .i64 i2) ho3 (by simp [intsV])
  cases ea'
  have w30 := h3.w0
  have hw3z := h3.wlt
  clear hra ho3 ho2
  go_wp2_with fail
  obtain ⟨rb, hrb⟩ : ∃ rb, rb = outS b (P + 1) ra.2 := ⟨_, rfl⟩
  have HRB := hide hrb
  have hla1 := HLA.out P seen (by omega)
  rw [← HRA.out] at hla1
  have hlb1 := HLB.out (P + 1) ra.2 (by omega)
  rw [← hrb] at hlb1
  refine (HBB.out _ _ _ _ _ _ _ _ _ _ _ (P + 1) h3 hh2 (by omega) (by omega) hmx hsm (by omega)).mono ?_
  rw [← hrb]
  rintro e w4 ⟨sv4, cost4, rfl, h4, hc4, hc4', hf4⟩
  have w40 := h4.w0
  have hw4z := h4.wlt
  have hb4z := h4.T.H.lt_size
  obtain ⟨y0, q0, y1, q1, y2, q2, y3, q3, aa', m', c', d0, z0, o0, d1, z1, o1, -⟩ := h4.T.row t ht
  rw [hn'] at z1
  have z1' : w4.cell? ⟨y1, t, none⟩ = some (.string n) := z1
  have hfr4 := (hfr2.trans hf3).trans hf4
  clear hrb z1 z0 d0
  have hsa : (B ra.1).size ≤ 210000000 := by rw [B_size]; omega
  have hsb : (B rb.1).size ≤ 210000000 := by rw [B_size]; omega
  have HFIN := hide (show TextPost wb hb V T avs cost most sv w (1 + szE a + szE b) (outS (.cmp n [a, b]) least seen) (.returned (.string (B (outS (.cmp n [a, b]) least seen).1))) w4 by
    rw [HOUT.out, ← HRA.out, ← HRB.out]; exact ⟨sv4, cost4, rfl, h4, by omega, by omega, hfr4⟩)
  have HO1 : (outS (.cmp n [a, b]) least seen).1 = if P < least then 40 :: (ra.1 ++ opOut n ++ rb.1 ++ [41]) else ra.1 ++ opOut n ++ rb.1 := by
    rw [HOUT.out, ← HRA.out, ← HRB.out]
  have HO := hide HO1
  have HOP : Hid (B (opOut n) = if (n.toList == [109, 111, 100]) = true then B [32, 109, 111, 100, 32] else n) := by
    unfold Hid opOut
    rw [← B_beq]
    by_cases e : n = B [109, 111, 100]
    · simp [e]
    · simp [e, B_data]
  clear HO1
  by_cases hlt : P < least
  · cases hmd : (n.toList == [109, 111, 100]) with
    | true =>
      rw [hmd] at HOP
      go_wp2_with fail
      go_ret
      have := HFIN.out
      rw [HO.out, if_pos hlt] at this
      have e : B (40 :: (ra.1 ++ opOut n ++ rb.1 ++ [41])) = B [40] ++ B ra.1 ++ B [32, 109, 111, 100, 32] ++ B rb.1 ++ B [41] := by
        have e1 : B (opOut n) = B [32, 109, 111, 100, 32] := by have := HOP.out; simpa using this
        rw [← e1]; simp only [B_append]; simp
      rw [e] at this
      exact this
    | false =>
      rw [hmd] at HOP
      go_wp2_with fail
      go_ret
      have := HFIN.out
      rw [HO.out, if_pos hlt] at this
      have e : B (40 :: (ra.1 ++ opOut n ++ rb.1 ++ [41])) = B [40] ++ B ra.1 ++ n ++ B rb.1 ++ B [41] := by
        have e1 : B (opOut n) = n := by have := HOP.out; simpa using this
        conv => rhs; rw [← e1]
        simp only [B_append]; simp
      rw [e] at this
      exact this
  · cases hmd : (n.toList == [109, 111, 100]) with
    | true =>
      rw [hmd] at HOP
      go_wp2_with fail
      go_ret
      have := HFIN.out
      rw [HO.out, if_neg (by omega)] at this
      have e : B (ra.1 ++ opOut n ++ rb.1) = B ra.1 ++ B [32, 109, 111, 100, 32] ++ B rb.1 := by
        have e1 : B (opOut n) = B [32, 109, 111, 100, 32] := by have := HOP.out; simpa using this
        rw [← e1]; simp only [B_append]
      rw [e] at this
      exact this
    | false =>
      rw [hmd] at HOP
      go_wp2_with fail
      go_ret
      have := HFIN.out
      rw [HO.out, if_neg (by omega)] at this
      have e : B (ra.1 ++ opOut n ++ rb.1) = B ra.1 ++ n ++ B rb.1 := by
        have e1 : B (opOut n) = n := by have := HOP.out; simpa using this
        conv => rhs; rw [← e1]
        simp only [B_append]
      rw [e] at this
      exact this

end Go.Proofs.YtodpkdajbnceoaaGreatDoor

namespace Go.Proofs.YtodpkdajbnceoaaGreatDoor
open Go.RowKit

theorem hasL_len {vl : List Nat} {T : List Nd} : ∀ {l : List Ex} {idx : List Nat}, HasL vl T l idx → idx.length = l.length
  | [], idx, h => by have h' : idx = [] := h; simp [h']
  | x :: l, idx, h => by
    obtain ⟨i, r, rfl, _, h2⟩ : ∃ i r, idx = i :: r ∧ Has vl T x i ∧ HasL vl T l r := h
    simp [hasL_len h2]

theorem hasL_get {vl : List Nat} {T : List Nd} : ∀ {l : List Ex} {idx : List Nat} (_ : HasL vl T l idx) (j : Nat) (hj : j < l.length), ∃ i, idx[j]? = some i ∧ Has vl T l[j] i
  | x :: l, idx, h, 0, _ => by
    obtain ⟨i, r, rfl, h1, h2⟩ : ∃ i r, idx = i :: r ∧ Has vl T x i ∧ HasL vl T l r := h
    exact ⟨i, rfl, h1⟩
  | x :: l, idx, h, j + 1, hj => by
    obtain ⟨i, r, rfl, h1, h2⟩ : ∃ i r, idx = i :: r ∧ Has vl T x i ∧ HasL vl T l r := h
    obtain ⟨k, e, h3⟩ := hasL_get h2 j (by simpa using hj)
    exact ⟨k, by simpa using e, by simpa using h3⟩

theorem rowS_snoc : ∀ (l : List Ex) (x : Ex) (first : Bool) (s : List Nat), rowS (l ++ [x]) first s =
    ((rowS l first s).1 ++ ((if first = true ∧ l = [] then [] else [44]) ++ (outS x 0 (rowS l first s).2).1), (outS x 0 (rowS l first s).2).2)
  | [], x, first, s => by
    cases first <;> simp [rowS]
  | y :: l, x, first, s => by
    have := rowS_snoc l x false (outS y 0 s).2
    simp only [List.cons_append, rowS]
    rw [this]
    simp

theorem szL_le_of_mem : ∀ {l : List Ex} {x : Ex}, x ∈ l → szE x ≤ szL l
  | y :: l, x, h => by
    rcases List.mem_cons.1 h with rfl | h
    · simp [szL]
    · have := szL_le_of_mem h; simp [szL]; omega

theorem szL_snoc : ∀ (l : List Ex) (x : Ex), szL (l ++ [x]) = szL l + szE x
  | [], x => by simp [szL]
  | y :: l, x => by have := szL_snoc l x; simp [szL, this]; omega

theorem outS_row (n : ByteArray) (args : List Ex) (least : Int) (s : List Nat) (hp : powS n args.length ≤ 0) (hl : ¬ (n = B [46] ∧ args.length = 2)) :
    outS (.cmp n args) least s = (n.data.toList ++ [40] ++ (rowS args true s).1 ++ [41], (rowS args true s).2) := by
  match args, hp, hl with
  | [], _, _ => rw [outS]; simp
  | [a], _, _ => rw [outS]; simp
  | [a, b], hp, hl =>
    have h1 : ¬ 0 < powS n 2 := by simpa using hp
    have h2 : n ≠ B [46] := fun e => hl ⟨e, rfl⟩
    rw [outS, if_neg h1, if_neg h2]
    simp [rowS]
  | a :: b :: c :: l, _, _ => rw [outS]; simp

def rowB (n : ByteArray) (l : List Ex) (s : List Nat) : ByteArray := B (n.data.toList ++ [40] ++ (rowS l true s).1)

theorem rowB_nil (n : ByteArray) (s : List Nat) : rowB n [] s = n ++ B [40] := by
  unfold rowB
  rw [rowS]
  show B (n.data.toList ++ [40] ++ []) = _
  rw [List.append_nil, ← B_append, B_data]

theorem rowB_step (n : ByteArray) (l : List Ex) (s : List Nat) (j : Nat) (hj : j < l.length) :
    rowB n (l.take (j + 1)) s = (if j = 0 then rowB n (l.take j) s ++ B (outS l[j] 0 (rowS (l.take j) true s).2).1 else rowB n (l.take j) s ++ B [44] ++ B (outS l[j] 0 (rowS (l.take j) true s).2).1) ∧
      (rowS (l.take (j + 1)) true s).2 = (outS l[j] 0 (rowS (l.take j) true s).2).2 ∧ szL (l.take (j + 1)) = szL (l.take j) + szE l[j] := by
  have e : l.take (j + 1) = l.take j ++ [l[j]] := List.take_succ_eq_append_getElem hj
  rw [e, szL_snoc]
  unfold rowB
  rw [rowS_snoc]
  refine ⟨?_, rfl, rfl⟩
  by_cases h0 : j = 0
  · subst h0
    simp [B_append]
  · have hne : ¬ (l.take j = []) := by
      intro q
      have q2 := congrArg List.length q
      rw [List.length_take, List.length_nil] at q2
      omega
    simp [B_append, h0, hne]

theorem rowB_size {n : ByteArray} {l : List Ex} {s : List Nat} (hn : n.size ≤ 2000) (hl : ∀ x ∈ l, LenOk x) (hs : s.length + szL l ≤ 100000) : (rowB n l s).size ≤ 210003000 := by
  have hlr := row_len l hl true s hs
  unfold rowB
  rw [B_size]
  have : n.data.toList.length = n.size := Array.length_toList
  simp only [List.length_append, List.length_cons, List.length_nil, this]
  omega

theorem outS_rowB (n : ByteArray) (args : List Ex) (least : Int) (s : List Nat) (hp : powS n args.length ≤ 0) (hl : ¬ (n = B [46] ∧ args.length = 2)) :
    B (outS (.cmp n args) least s).1 = rowB n args s ++ B [41] ∧ (outS (.cmp n args) least s).2 = (rowS args true s).2 := by
  rw [outS_row n args least s hp hl]
  exact ⟨by unfold rowB; rw [B_append], rfl⟩

/-- so far: the first j arguments -/
def RowUp (wb hb : Nat) (V : _root_.Fin 6 → Value) (T : List Nd) (avs : List Value) (cost most : Int) (sv : Value) (w : World) (n : ByteArray) (l : List Ex) (seen : List Nat) (v : Value) (wr : World) : Prop :=
  ∃ sv' cost', v = .string (rowB n l seen) ∧ WIn wr wb hb V T avs cost' most sv' (rowS l true seen).2 ∧ cost ≤ cost' ∧ cost' ≤ cost + 1 + szL l ∧ WFr wb hb sv sv' w wr

set_option maxRecDepth 100000 in
set_option maxHeartbeats 1000000 in
theorem text_row {vl : List Nat} {n : ByteArray} {args : List Ex} (hA : ∀ x ∈ args, TextOk vl x) (hla : ∀ x ∈ args, LenOk x) (hn : n.size ≤ 2000) (hp : powS n args.length = 0) (hl : ¬ (n = B [46] ∧ args.length = 2)) : TextOk vl (.cmp n args) := by
  intro w wb hb V T avs cost most sv seen t least h hh hc0 hc hmx hsm hsl
  obtain ⟨idx, hti, hL⟩ : ∃ idx, T[t]? = some ⟨99, n, 0, idx⟩ ∧ HasL vl T args idx := hh
  have hsz : szE (.cmp n args) = 1 + szL args := by simp [szE]
  rw [hsz] at hc hsl ⊢
  have HOUT := hide (outS_rowB n args least seen (by omega) hl)
  have hlen := hasL_len hL
  have hszl := szL_len args
  obtain ⟨ht, hn'⟩ := List.getElem?_eq_some_iff.1 hti
  have w0 := h.w0
  have c6 : w.cell? ⟨hb, 6, none⟩ = some (.int .i64 cost) := h.T.H.c 6
  have f6 := h.T.H.fz 6
  have hwz := h.wlt
  have hhz := h.T.H.lt_size
  have hwh : wb ≠ hb := fun e => h.wn (.inl e)
  obtain ⟨h1, hf1⟩ := h.count (cost + 1)
  obtain ⟨g0, p0, g1, p1, g2, p2, g3, p3, aa, m, c, c0, k0, l0, c1, k1, l1, c2, k2, l2, c3, k3, l3, ho, em, hmem, n0, n1, n2, n3⟩ := h.T.row t ht
  rw [hn'] at k0 k1 ho em
  have em' : m = args.length := em.trans hlen
  subst em'
  have hnm := avs_nm h hmem
  have HPW : Hid (∀ (w' : World) (sv' : Value) (seen' : List Nat) (cost' : Int), WIn w' wb hb V T avs cost' most sv' seen' → Calls Tryz.prog 100 #[.pointer (some ⟨wb, 0, none⟩), .int .i64 t] w' fun e w'' => e = .returned (.int .i64 0) ∧ w'' = w') := by
    intro w' sv' seen' cost' hw'
    have := power_any hw' t ht hsm (by rw [hn']) (by rw [hn']; simp; omega)
    rw [hn'] at this
    simp only [hlen, hp] at this
    exact this
  have HOA : Hid (w.ownsRow 0 3 1 (.slice aa args.length c) args.length (intsV idx)) := by
    have := ho; simp only [hlen] at this; exact this
  have HA := hide hA
  have HLA := hide hla
  have HMEM := hide hmem
  have HNM := hide hnm
  have HL := hide hL
  have HFR := hide hf1
  have hdot : (n.toList == [46]) = true → ((args.length : Int) == 2) = false := by
    intro e
    rw [← B_beq] at e
    simp at e
    simp
    intro e2
    exact hl ⟨e, by omega⟩
  clear hA hp em hL k2 ho hla hmem hnm hl hn' hf1 hlen
  go_enter Tryz.func66, Tryz.ntmps66
  go_wp2_with (first | (go_at_call 88; refine (spent_no h1.T.H (by omega)).mono ?_; rintro e w2 ⟨rfl, nn, rfl⟩; have h2 := h1.below (below_drewN (Below.refl _ _) nn)) | (go_at_call 98; refine (walk_any h2.T t ht hsm).mono ?_; rintro e w3 ⟨rfl, rfl⟩) | (go_at_call 100; refine (HPW.out _ _ _ _ h2).mono ?_; rintro e w3 ⟨rfl, rfl⟩))
  all_goals
    have hfr2 := HFR.out.trans (WFr.of_below (sv := sv) (wb := wb) (hb := hb) (below_drewN (Below.refl _ _) nn))
    go_loopg [16, 17] args.length (fun g v i wr => ∃ j : Nat, j + g = args.length ∧ i = .int .i64 (j : Nat) ∧ RowUp wb hb V T avs cost most sv w n (args.take j) seen v wr)
    case atStart =>
      refine ⟨0, by omega, rfl, sv, cost + 1, ?_, by simpa [rowS] using h2, by omega, by omega, hfr2⟩
      rw [List.take_zero, rowB_nil]; rfl
    case round =>
      obtain ⟨j, hj, rfl, sv3, cost3, rfl, h3, hc3, hc3', hf3⟩ := hrel
      have hst := szL_take args j
      have hlr := row_len (args.take j) (fun x hx => HLA.out x (List.mem_of_mem_take hx)) true seen (by omega)
      have hso := rowB_size (s := seen) hn (fun x hx => HLA.out x (List.mem_of_mem_take (i := j) hx)) (by omega)
      have HST : Hid (∀ hj : j < args.length, _) := hide (rowB_step n args seen j)
      obtain ⟨O, hO⟩ : ∃ O, O = rowB n (args.take j) seen := ⟨_, rfl⟩
      rw [← hO] at hso HST ⊢
      obtain ⟨sj, hsj⟩ : ∃ sj, sj = (rowS (args.take j) true seen).2 := ⟨_, rfl⟩
      rw [← hsj] at h3 HST hlr
      have w30 := h3.w0
      have HO := hide hO
      have HSJ := hide hsj
      clear hO hsj
      by_cases hlt : j < args.length
      · have ho3 := args_keep h hf3 HMEM.out HOA.out HNM.out
        obtain ⟨ij, hij, hhj⟩ := hasL_get HL.out j hlt
        obtain ⟨ga, pa, ea, aam, abm, al, aj, ka⟩ := own_cell (j := j) (u := .int .i64 ij) ho3 (by simp [intsV, hij])
        cases ea
        have hmj := List.getElem_mem hlt
        have hTj := HA.out _ hmj
        have hLj := HLA.out _ hmj
        have hst1 := szL_take args (j + 1)
        obtain ⟨x, hx⟩ : ∃ x, x = args[j] := ⟨_, rfl⟩
        have HST' : Hid _ := hide (HST.out hlt)
        rw [← hx] at hTj hLj hhj HST'
        have hs1 := HST'.out.2.2
        rw [hs1] at hst1
        have hLj' := hLj 0 sj (by omega)
        have hsr : (B (outS x 0 sj).1).size ≤ 210000000 := by rw [B_size]; omega
        obtain ⟨r, hr⟩ : ∃ r, r = outS x 0 sj := ⟨_, rfl⟩
        have HTJ := hide hTj
        rw [← hr] at hsr HST'
        have HR := hide hr
        clear hTj hLj hx hr hs1
        go_wp2_with fail
        refine (HTJ.out _ _ _ _ _ _ _ _ _ _ _ 0 h3 hhj (by omega) (by omega) hmx hsm (by omega)).mono ?_
        rw [← HR.out]
        rintro e w4 ⟨sv4, cost4, rfl, h4, hc4, hc4', hf4⟩
        have hfr4 := hf3.trans hf4
        by_cases hj0 : j = 0
        · have HE : Hid (rowB n (args.take (j + 1)) seen = O ++ B r.1) := by have := HST'.out.1; rw [if_pos hj0] at this; exact this
          have hjd : decide ((0 : Int) < j) = false := by simp [hj0]
          go_wp2_with fail
          go_roundg (gk - 1)
          case measure => omega
          case rel =>
            refine ⟨j + 1, by omega, by go_num, sv4, cost4, by rw [HE.out], ?_, by omega, ?_, hfr4⟩
            · rw [HST'.out.2.1]; exact h4
            · rw [HST'.out.2.2]; omega
        · have HE : Hid (rowB n (args.take (j + 1)) seen = O ++ B [44] ++ B r.1) := by have := HST'.out.1; rw [if_neg hj0] at this; exact this
          have hjd : decide ((0 : Int) < j) = true := by simp; omega
          go_wp2_with fail
          go_roundg (gk - 1)
          case measure => omega
          case rel =>
            refine ⟨j + 1, by omega, by go_num, sv4, cost4, by rw [HE.out]; rfl, ?_, by omega, ?_, hfr4⟩
            · rw [HST'.out.2.1]; exact h4
            · rw [HST'.out.2.2]; omega
      · have hjl : args.take j = args := List.take_of_length_le (by omega)
        have HE : Hid (B (outS (.cmp n args) least seen).1 = O ++ B [41]) := by
          unfold Hid; rw [HO.out, hjl]; exact HOUT.out.1
        have HE2 : Hid ((outS (.cmp n args) least seen).2 = sj) := by
          unfold Hid; rw [HSJ.out, hjl]; exact HOUT.out.2
        rw [hjl] at hc3'
        go_wp2_with fail
        go_ret
        refine ⟨sv3, cost3, ret_str HE.out.symm, by rw [HE2.out]; exact h3, by omega, by omega, hf3⟩

end Go.Proofs.YtodpkdajbnceoaaGreatDoor
