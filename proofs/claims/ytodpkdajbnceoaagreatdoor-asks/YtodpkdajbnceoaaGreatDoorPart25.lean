import Derived.Test.YtodpkdajbnceoaaGreatDoorPart24
set_option linter.all false
set_option maxHeartbeats 4000000
set_option maxRecDepth 100000
namespace Go.Proofs.YtodpkdajbnceoaaGreatDoor
open Go.RowKit
section
variable {w w' : World} {wb hb : Nat} {V : _root_.Fin 6 → Value} {avs : List Value} {most : Int} {sv sv' : Value} {seen : List Nat} {h : Hp}
theorem text_rowB (W : WrB w wb hb V avs most sv seen h) (hc : h.cost + 1 ≤ most) (hm : most ≤ 1000000) (f : Nat) (hf : f ≤ 1000000) (hfc : most ≤ h.cost + (f + 1)) (hs : spentB (h.cost + 1) most h.err = false) (t : Nat) (ht : t < h.T.length)
    (hk1 : (nd h.T (wk h.bs t)).k ≠ 97) (hk2 : (nd h.T (wk h.bs t)).k ≠ 110) (hk3 : (nd h.T (wk h.bs t)).k ≠ 118) (hI : TextI wb hb V avs most h f)
    (hdot : ¬ ((nd h.T (wk h.bs t)).nm = B [46] ∧ (nd h.T (wk h.bs t)).ags.length = 2))
    (hP : ∀ w' sv' seen' c, WrB w' wb hb V avs most sv' seen' { h with cost := c } → Calls Tryz.prog 100 #[.pointer (some ⟨wb, 0, none⟩), .int .i64 (wk h.bs t)] w' fun e w'' => e = .returned (.int .i64 0) ∧ w'' = w') (least : Int) :
    Calls Tryz.prog 66 #[.pointer (some ⟨wb, 0, none⟩), .int .i64 t, .int .i64 least] w fun e w' => TextB wb hb V avs most h sv w (most + 1 + 4 * (f + 1 : Nat)) e w' := by
  have w0 := W.w0
  have c6 : w.cell? ⟨hb, 6, none⟩ = some (.int .i64 h.cost) := W.S.H.tab.H.c 6
  have f6 := W.S.H.tab.H.fz 6
  have hwz := W.wlt
  have hhz := W.S.H.tab.H.lt_size
  have hsm := W.S.H.small
  have hc0 := W.S.c0
  have hwh : wb ≠ hb := fun e => W.wn (.inl e)
  have hrl := wk_lt W.S.H.ok t ht
  obtain ⟨hn1, hn2⟩ := W.S.nums _ hrl
  have hin := W.S.H.ags _ hrl
  have hl4 := W.S.f4 _ hrl
  obtain ⟨h1, hf1⟩ := W.count (h.cost + 1) (by omega)
  have HSP := hide (spent_b h1 hs)
  have HW : Hid (∀ w3, WrB w3 wb hb V avs most sv seen { h with cost := h.cost + 1 } → Calls Tryz.prog 98 #[.pointer (some ⟨hb, 0, none⟩), .int .i64 t] w3 fun e w' => e = .returned (.int .i64 (wk h.bs t)) ∧ w' = w3) := fun w3 h3 => walk_x (h := { h with cost := h.cost + 1 }) h3.S.H t ht
  have HC : Hid (∀ w3 sv3 seen3 c3, WrB w3 wb hb V avs most sv3 seen3 { h with cost := c3 } → _) := fun w3 sv3 seen3 c3 h3 => hp_row (h := { h with cost := c3 }) h3.S.H _ hrl
  have H1 := hide h1
  have HF1 := hide hf1
  have HI := hide hI
  have HP := hide hP
  clear W h1 hf1 hI hP
  dsimp only at HC
  generalize (nd h.T (wk h.bs t)).nm = nm at *
  generalize (nd h.T (wk h.bs t)).n = nn at *
  generalize (nd h.T (wk h.bs t)).k = K at *
  generalize (nd h.T (wk h.bs t)).ags = l at *
  generalize wk h.bs t = r at *
  have e1 : (K == 97) = false := by simpa using hk1
  have e2 : (K == 110) = false := by simpa using hk2
  have e3 : (K == 118) = false := by simpa using hk3
  have e4 : (nm.toList == [46]) = true → ((l.length : Int) == 2) = false := by
    intro e
    rw [← B_beq] at e
    simp at e
    simp
    intro e2
    exact hdot ⟨e, by omega⟩
  have HIN := hide hin
  clear hk1 hk2 hk3 hdot hin
  go_enter Tryz.func66, Tryz.ntmps66
  go_wp2_with (first | (go_at_call 88; refine HSP.out.mono ?_; rintro e w2 ⟨rfl, hB2⟩; have h2 := H1.out.below hB2; obtain ⟨g0, p0, g1, p1, g2, p2, g3, p3, a, cc, c0, k0, l0, c1, k1, l1, c2, k2, l2, c3, k3, l3, ho, hmem, hhb2, z0, z1, z2, z3⟩ := HC.out _ _ _ _ h2; have w02 := h2.w0; have hwl2 := h2.wlt) | (go_at_call 98; refine (HW.out _ h2).mono ?_; rintro e w3 ⟨rfl, hw3⟩; subst w3) | (go_at_call 100; refine (HP.out _ _ _ _ h2).mono ?_; rintro e w3 ⟨rfl, hw3⟩; subst w3))
  all_goals
    have HO2 := hide ho
    have HMEM := hide hmem
    have H2 := hide h2
    have HF2 : Hid (WFr wb hb sv sv w w2) := HF1.out.trans (WFr.of_below hB2)
    clear ho hmem c0 k0 c1 k1 c2 k2 c3 k3 w02 w0 c6 f6 h2 hB2
    go_loopg [16, 17] (l.length + 1) (fun g v i wr => ∃ (j : Nat) (x : ByteArray) (sv3 : Value) (seen3 : List Nat) (c : Int), i = .int .i64 (j : Nat) ∧ v = .string x ∧ j ≤ l.length ∧ l.length - j < g ∧ (x.size : Int) + 20 ≤ 2100 * (c - h.cost) ∧ WrB wr wb hb V avs most sv3 seen3 { h with cost := c } ∧ h.cost + 1 ≤ c ∧ c ≤ most + 1 + 4 * (f : Int) + j ∧ WFr wb hb sv sv3 w wr ∧ WFr wb hb sv sv3 w2 wr)
    case atStart =>
      refine ⟨0, _, sv, seen, h.cost + 1, rfl, rfl, by omega, by omega, ?_, H2.out, by omega, by omega, HF2.out, WFr.refl _ _ _ _⟩
      simp only [ByteArray.size_append]
      show ((nm.size + 1 : Nat) : Int) + 20 ≤ _
      omega
    case round =>
      obtain ⟨j, x, sv3, seen3, c, rfl, rfl, hj, hgj, hx, h3, hlo, hhi, hf3, hf32⟩ := hrel
      have w30 := h3.w0
      have hwl3 := h3.wlt
      have H3 := hide h3
      have HF3 := hide hf3
      have HF32 := hide hf32
      clear h3 hf3 hf32
      by_cases hlt : j < l.length
      · obtain ⟨ga, pa, ea, aam, abm, al, aj, ka⟩ := own_cell (j := j) (u := .int .i64 l[j]) (args_keepB H2.out HF32.out HMEM.out HO2.out) (by simp [intsV, hlt])
        cases ea
        have hinj := HIN.out l[j] (List.getElem_mem hlt)
        go_wp2_with fail
        refine (HI.out wr c sv3 seen3 l[j] 0 H3.out (by omega) (by omega) (by omega) hinj).mono ?_
        rintro e w4 ⟨xa, sv4, seen4, cA, rfl, hxa, h4, hc4, hc4', hf4⟩
        have hxa' : (xa.size : Int) + 10 ≤ 2100 * (cA - c) := hxa
        have hc5 : c + 1 ≤ cA := hc4
        have H4 : Hid (WrB w4 wb hb V avs most sv4 seen4 { h with cost := cA }) := h4
        have HF4 : Hid (WFr wb hb sv sv4 w w4 ∧ WFr wb hb sv sv4 w2 w4) := ⟨HF3.out.trans hf4, HF32.out.trans hf4⟩
        clear hxa hc4 h4 hf4
        by_cases hj0 : j = 0
        · have hjd : decide ((0 : Int) < j) = false := by simp [hj0]
          go_wp2_with fail
          go_roundg (gk - 1)
          case measure => omega
          case rel => exact ⟨j + 1, _, sv4, seen4, cA, by go_num, rfl, by omega, by omega, by simp only [ByteArray.size_append]; omega, H4.out, by omega, by omega, HF4.out.1, HF4.out.2⟩
        · have hjd : decide ((0 : Int) < j) = true := by simp; omega
          go_wp2_with fail
          go_roundg (gk - 1)
          case measure => omega
          case rel => exact ⟨j + 1, _, sv4, seen4, cA, by go_num, rfl, by omega, by omega, by simp only [ByteArray.size_append]; show ((x.size + 1 + xa.size : Nat) : Int) + 20 ≤ _; omega, H4.out, by omega, by omega, HF4.out.1, HF4.out.2⟩
      · go_wp2_with fail
        go_ret
        exact ⟨_, sv3, seen3, c, rfl, by simp only [ByteArray.size_append]; show ((x.size + 1 : Nat) : Int) + 10 ≤ _; omega, H3.out, by omega, by omega, HF3.out⟩
end
def ListB (wb hb : Nat) (V : _root_.Fin 6 → Value) (avs : List Value) (most : Int) (h : Hp) (c0 : Int) (sv : Value) (w : World) (M : Int) (e : Ending) (w' : World) : Prop :=
  ∃ (x : ByteArray) (sv' : Value) (seen' : List Nat) (c : Int), e = .returned (.string x) ∧ (x.size : Int) + 10 ≤ 2100 * (c - c0) + 11 ∧ WrB w' wb hb V avs most sv' seen' { h with cost := c } ∧ c0 ≤ c ∧ c ≤ M ∧ WFr wb hb sv sv' w w'
section
variable {w w' : World} {wb hb : Nat} {V : _root_.Fin 6 → Value} {avs : List Value} {most : Int} {sv sv' : Value} {seen : List Nat} {h : Hp}
theorem list_b {c0 : Int} (W : WrB w wb hb V avs most sv seen { h with cost := c0 }) (h0 : 0 ≤ c0) (hc : c0 ≤ most) (hm : most ≤ 1000000) (f : Nat) (hf : f ≤ 1000000) (hfc : most ≤ c0 + f) (t : Nat) (ht : t < h.T.length) (hl2 : (nd h.T t).ags.length = 2) (hI : TextI wb hb V avs most h f) :
    Calls Tryz.prog 101 #[.pointer (some ⟨wb, 0, none⟩), .int .i64 t] w fun e w' => ListB wb hb V avs most h c0 sv w (most + 1 + 4 * f) e w' := by
  have HIN : Hid (∀ t, t < h.T.length → ∀ a ∈ (nd h.T t).ags, a < h.T.length) := W.S.H.ags
  have HOK : Hid (BsOk h.T.length h.bs) := W.S.H.ok
  have hsm : h.T.length ≤ 1000000000 := W.S.H.small
  have HW := hide W
  have HI := hide hI
  obtain ⟨M, hM⟩ : ∃ M : Nat, most - c0 < M := ⟨(most - c0 + 1).toNat, by omega⟩
  clear W hI
  go_enter Tryz.func101, Tryz.ntmps101
  go_wp2_with fail
  go_loopg [1, 5] M (fun g tv ov wr => ∃ (tt : Nat) (x : ByteArray) (sv3 : Value) (seen3 : List Nat) (c : Int), tv = .int .i64 (tt : Nat) ∧ ov = .string x ∧ tt < h.T.length ∧ (nd h.T tt).ags.length = 2 ∧ (x.size : Int) + 10 ≤ 2100 * (c - c0) + 11 ∧ WrB wr wb hb V avs most sv3 seen3 { h with cost := c } ∧ c0 ≤ c ∧ c ≤ most ∧ most - c < (g : Int) ∧ WFr wb hb sv sv3 w wr)
  case atStart => exact ⟨t, _, sv, seen, c0, rfl, rfl, ht, hl2, by show ((1 : Nat) : Int) + 10 ≤ _; omega, HW.out, by omega, hc, hM, WFr.refl _ _ _ _⟩
  case round =>
    obtain ⟨tt, x, sv3, seen3, c, rfl, rfl, htt, hll, hx, h3, hlo, hhi, hgc, hf3⟩ := hrel
    obtain ⟨i1, i2, hags⟩ : ∃ i1 i2, (nd h.T tt).ags = [i1, i2] := by
      match hq : (nd h.T tt).ags, hll with
      | [a, b], _ => exact ⟨a, b, rfl⟩
    have hi1 := HIN.out tt htt i1 (by rw [hags]; simp)
    have hi2 := HIN.out tt htt i2 (by rw [hags]; simp)
    have hrow := hp_row (h := { h with cost := c }) h3.S.H tt htt
    simp only [hags, List.length_cons, List.length_nil] at hrow
    obtain ⟨g0, p0, g1, p1, g2, p2, g3, p3, a, cc, d0, k0, l0, d1, k1, l1, d2, k2, l2, d3, k3, l3, ho, hmem, hhb2, z0, z1, z2, z3⟩ := hrow
    obtain ⟨ga, pa, ea, aam, abm, al, aj, ka1⟩ := own_cell (j := 0) (u := .int .i64 i1) ho rfl
    cases ea
    have w30 := h3.w0
    have hwl3 := h3.wlt
    have H3 := hide h3
    have HF3 := hide hf3
    have HO3 := hide ho
    have HMEM := hide hmem
    clear h3 hf3 ho hmem d0 k0 d1 k1 d2 k2 hags hll
    go_wp2_with fail
    refine (HI.out wr c sv3 seen3 i1 0 H3.out (by omega) (by omega) (by omega) hi1).mono ?_
    rintro e w4 ⟨xa, sv4, seen4, cA, rfl, hxa, h4, hc4, hc4', hf4⟩
    have hxa' : (xa.size : Int) + 10 ≤ 2100 * (cA - c) := hxa
    have hc5 : c + 1 ≤ cA := hc4
    have h4' : WrB w4 wb hb V avs most sv4 seen4 { h with cost := cA } := h4
    obtain ⟨ga', pa', ea', -, -, al4, -, ka4⟩ := own_cell (j := 1) (u := .int .i64 i2) (args_keepB H3.out hf4 HMEM.out HO3.out) rfl
    cases ea'
    have w40 := h4'.w0
    have hwl4 := h4'.wlt
    have hhb4 := h4'.S.H.tab.H.lt_size
    have H4 := hide h4'
    have HF4 : Hid (WFr wb hb sv sv4 w w4) := HF3.out.trans hf4
    have hrl := wk_lt HOK.out i2 hi2
    clear hxa hc4 h4 h4' hf4 d3 k3 ka1 w30
    go_wp2_with fail
    go_quiet ((go_at_call 98; exact Calls.quiet_of_same (walk_x (h := { h with cost := cA }) (H4.out.below (below_drewN (Below.refl _ _) _)).S.H i2 hi2)))
    have h5 := H4.out.below (below_drewN (Below.refl _ _) nq)
    have HF5 : Hid (WFr wb hb sv sv4 w (w4.drewN nq)) := HF4.out.trans (WFr.of_below (below_drewN (Below.refl _ _) nq))
    obtain ⟨sp, hsp⟩ : ∃ sp, spentB cA most h.err = sp := ⟨_, rfl⟩
    have HSP := hide (spent_b h5 hsp)
    have H5 := hide h5
    clear h5
    cases sp with
    | true =>
      go_wp2_with (go_at_call 88; refine HSP.out.mono ?_; rintro e w6 ⟨rfl, hB6⟩)
      go_ret
      exact ⟨_, sv4, seen4, cA, rfl, by simp only [ByteArray.size_append]; omega, H5.out.below hB6, by omega, by omega, HF5.out.trans (WFr.of_below hB6)⟩
    | false =>
      have hcm : cA ≤ most := by
        simp only [spentB, Bool.or_eq_false_iff, decide_eq_false_iff_not] at hsp
        omega
      have HC : Hid (∀ w3, WrB w3 wb hb V avs most sv4 seen4 { h with cost := cA } → _) := fun w3 h3 => hp_row (h := { h with cost := cA }) h3.S.H _ hrl
      dsimp only at HC
      generalize wk h.bs i2 = r2 at *
      have hnd : ∃ nd2, nd2 = nd h.T r2 := ⟨_, rfl⟩
      obtain ⟨nd2, hnd2⟩ := hnd
      rw [← hnd2] at HC
      have HND := hide hnd2
      clear hnd2 hsp
      have hways : (nd2.k = 97 ∧ (nd2.nm.toList == [91, 93]) = true) ∨ (nd2.k = 99 ∧ (nd2.nm.toList == [46]) = true ∧ nd2.ags.length = 2) ∨ ((nd2.k = 97 ∧ (nd2.nm.toList == [91, 93]) = false) ∨ (nd2.k ≠ 97 ∧ nd2.k ≠ 99) ∨ (nd2.k = 99 ∧ (nd2.nm.toList == [46]) = false) ∨ (nd2.k = 99 ∧ (nd2.nm.toList == [46]) = true ∧ nd2.ags.length ≠ 2)) := by
        by_cases q1 : nd2.k = 97
        · cases q2 : (nd2.nm.toList == [91, 93]) with
          | true => exact .inl ⟨q1, rfl⟩
          | false => exact .inr (.inr (.inl ⟨q1, rfl⟩))
        · by_cases q3 : nd2.k = 99
          · cases q2 : (nd2.nm.toList == [46]) with
            | true =>
              by_cases q4 : nd2.ags.length = 2
              · exact .inr (.inl ⟨q3, rfl, q4⟩)
              · exact .inr (.inr (.inr (.inr (.inr ⟨q3, rfl, q4⟩))))
            | false => exact .inr (.inr (.inr (.inr (.inl ⟨q3, rfl⟩))))
          · exact .inr (.inr (.inr (.inl ⟨q1, q3⟩)))
      rcases hways with ⟨q1, q2⟩ | ⟨q1, q2, q3⟩ | hways
      · rw [q1] at HC
        go_wp2_with (go_at_call 88; refine HSP.out.mono ?_; rintro e w6 ⟨rfl, hB6⟩; have h6 := H5.out.below hB6; obtain ⟨g0, p0, g1, p1, g2, p2, g3, p3, a, cc', d0, k0, l0, d1, k1, l1, d2, k2, l2, d3, k3, l3, ho, hmem, hhb6, z0, z1, z2, z3⟩ := HC.out _ h6; have w60 := h6.w0; have hwl6 := h6.wlt; clear ho hmem k2 k3)
        go_ret
        exact ⟨_, sv4, seen4, cA, rfl, by simp only [ByteArray.size_append]; show ((x.size + xa.size + 1 : Nat) : Int) + 10 ≤ _; omega, H5.out.below hB6, by omega, by omega, HF5.out.trans (WFr.of_below hB6)⟩
      · rw [q1, q3] at HC
        have HQ3 := hide q3
        clear q1 q3
        go_wp2_with (go_at_call 88; refine HSP.out.mono ?_; rintro e w6 ⟨rfl, hB6⟩; have h6 := H5.out.below hB6; obtain ⟨g0, p0, g1, p1, g2, p2, g3, p3, a, cc', d0, k0, l0, d1, k1, l1, d2, k2, l2, d3, k3, l3, ho, hmem, hhb6, z0, z1, z2, z3⟩ := HC.out _ h6; have w60 := h6.w0; have hwl6 := h6.wlt; clear ho hmem k2)
        go_roundg (gk - 1)
        case measure => omega
        case rel => exact ⟨r2, _, sv4, seen4, cA, rfl, rfl, hrl, by rw [← HND.out]; exact HQ3.out, by simp only [ByteArray.size_append]; show ((x.size + xa.size + 1 : Nat) : Int) + 10 ≤ _; omega, h6, by omega, hcm, by omega, HF5.out.trans (WFr.of_below hB6)⟩
      · have HIT : Hid (∀ w6, WrB w6 wb hb V avs most sv4 seen4 { h with cost := cA } → Calls Tryz.prog 66 #[.pointer (some ⟨wb, 0, none⟩), .int .i64 r2, .int .i64 0] w6 fun e w' => TextB wb hb V avs most { h with cost := cA } sv4 w6 (max (cA + 1) (most + 1 + 4 * f)) e w') := fun w6 h6 => HI.out w6 cA sv4 seen4 r2 0 h6 (by omega) (by omega) (by omega) hrl
        rcases hways with ⟨q1, q2⟩ | ⟨q1, q2⟩ | ⟨q1, q2⟩ | ⟨q1, q2, q3⟩
        · rw [q1] at HC
          clear q1
          go_wp2_with (first | (go_at_call 88; refine HSP.out.mono ?_; rintro e w6 ⟨rfl, hB6⟩; have h6 := H5.out.below hB6; obtain ⟨g0, p0, g1, p1, g2, p2, g3, p3, a, cc', d0, k0, l0, d1, k1, l1, d2, k2, l2, d3, k3, l3, ho, hmem, hhb6, z0, z1, z2, z3⟩ := HC.out _ h6; have w60 := h6.w0; have hwl6 := h6.wlt; clear ho hmem k2 k3) | (go_at_call 66; refine (HIT.out _ h6).mono ?_; rintro e w7 ⟨xb, sv7, seen7, cB, rfl, hxb, h7, hc7, hc7', hf7⟩))
          have hxb' : (xb.size : Int) + 10 ≤ 2100 * (cB - cA) := hxb
          have hc8 : cA + 1 ≤ cB := hc7
          go_ret
          exact ⟨_, sv7, seen7, cB, rfl, by simp only [ByteArray.size_append]; show ((x.size + xa.size + 1 + xb.size + 1 : Nat) : Int) + 10 ≤ _; omega, h7, by omega, by omega, (HF5.out.trans (WFr.of_below hB6)).trans hf7⟩
        · have q1' : (nd2.k == 97) = false := by simpa using q1
          have q2' : (nd2.k == 99) = false := by simpa using q2
          have q2n : (nd2.k != 99) = true := by simpa using q2
          clear q1 q2
          go_wp2_with (first | (go_at_call 88; refine HSP.out.mono ?_; rintro e w6 ⟨rfl, hB6⟩; have h6 := H5.out.below hB6; obtain ⟨g0, p0, g1, p1, g2, p2, g3, p3, a, cc', d0, k0, l0, d1, k1, l1, d2, k2, l2, d3, k3, l3, ho, hmem, hhb6, z0, z1, z2, z3⟩ := HC.out _ h6; have w60 := h6.w0; have hwl6 := h6.wlt; clear ho hmem k2 k3) | (go_at_call 66; refine (HIT.out _ h6).mono ?_; rintro e w7 ⟨xb, sv7, seen7, cB, rfl, hxb, h7, hc7, hc7', hf7⟩))
          have hxb' : (xb.size : Int) + 10 ≤ 2100 * (cB - cA) := hxb
          have hc8 : cA + 1 ≤ cB := hc7
          go_ret
          exact ⟨_, sv7, seen7, cB, rfl, by simp only [ByteArray.size_append]; show ((x.size + xa.size + 1 + xb.size + 1 : Nat) : Int) + 10 ≤ _; omega, h7, by omega, by omega, (HF5.out.trans (WFr.of_below hB6)).trans hf7⟩
        · rw [q1] at HC
          clear q1
          go_wp2_with (first | (go_at_call 88; refine HSP.out.mono ?_; rintro e w6 ⟨rfl, hB6⟩; have h6 := H5.out.below hB6; obtain ⟨g0, p0, g1, p1, g2, p2, g3, p3, a, cc', d0, k0, l0, d1, k1, l1, d2, k2, l2, d3, k3, l3, ho, hmem, hhb6, z0, z1, z2, z3⟩ := HC.out _ h6; have w60 := h6.w0; have hwl6 := h6.wlt; clear ho hmem k2 k3) | (go_at_call 66; refine (HIT.out _ h6).mono ?_; rintro e w7 ⟨xb, sv7, seen7, cB, rfl, hxb, h7, hc7, hc7', hf7⟩))
          have hxb' : (xb.size : Int) + 10 ≤ 2100 * (cB - cA) := hxb
          have hc8 : cA + 1 ≤ cB := hc7
          go_ret
          exact ⟨_, sv7, seen7, cB, rfl, by simp only [ByteArray.size_append]; show ((x.size + xa.size + 1 + xb.size + 1 : Nat) : Int) + 10 ≤ _; omega, h7, by omega, by omega, (HF5.out.trans (WFr.of_below hB6)).trans hf7⟩
        · rw [q1] at HC
          have q3' : ((nd2.ags.length : Int) == 2) = false := by simp; omega
          have q3n : (nd2.ags.length != 2) = true := by simpa using q3
          clear q1
          go_wp2_with (first | (go_at_call 88; refine HSP.out.mono ?_; rintro e w6 ⟨rfl, hB6⟩; have h6 := H5.out.below hB6; obtain ⟨g0, p0, g1, p1, g2, p2, g3, p3, a, cc', d0, k0, l0, d1, k1, l1, d2, k2, l2, d3, k3, l3, ho, hmem, hhb6, z0, z1, z2, z3⟩ := HC.out _ h6; have w60 := h6.w0; have hwl6 := h6.wlt; clear ho hmem k2) | (go_at_call 66; refine (HIT.out _ h6).mono ?_; rintro e w7 ⟨xb, sv7, seen7, cB, rfl, hxb, h7, hc7, hc7', hf7⟩))
          have hxb' : (xb.size : Int) + 10 ≤ 2100 * (cB - cA) := hxb
          have hc8 : cA + 1 ≤ cB := hc7
          go_ret
          exact ⟨_, sv7, seen7, cB, rfl, by simp only [ByteArray.size_append]; show ((x.size + xa.size + 1 + xb.size + 1 : Nat) : Int) + 10 ≤ _; omega, h7, by omega, by omega, (HF5.out.trans (WFr.of_below hB6)).trans hf7⟩
end
section
variable {w w' : World} {wb hb : Nat} {V : _root_.Fin 6 → Value} {avs : List Value} {most : Int} {sv sv' : Value} {seen : List Nat} {h : Hp}
theorem text_dotB (W : WrB w wb hb V avs most sv seen h) (hc : h.cost + 1 ≤ most) (hm : most ≤ 1000000) (f : Nat) (hf : f ≤ 1000000) (hfc : most ≤ h.cost + (f + 1)) (hs : spentB (h.cost + 1) most h.err = false) (t : Nat) (ht : t < h.T.length)
    (hk1 : (nd h.T (wk h.bs t)).k ≠ 97) (hk2 : (nd h.T (wk h.bs t)).k ≠ 110) (hk3 : (nd h.T (wk h.bs t)).k ≠ 118) (hI : TextI wb hb V avs most h f)
    (hd1 : (nd h.T (wk h.bs t)).nm = B [46]) (hd2 : (nd h.T (wk h.bs t)).ags.length = 2)
    (hP : ∀ w' sv' seen' c, WrB w' wb hb V avs most sv' seen' { h with cost := c } → Calls Tryz.prog 100 #[.pointer (some ⟨wb, 0, none⟩), .int .i64 (wk h.bs t)] w' fun e w'' => e = .returned (.int .i64 0) ∧ w'' = w') (least : Int) :
    Calls Tryz.prog 66 #[.pointer (some ⟨wb, 0, none⟩), .int .i64 t, .int .i64 least] w fun e w' => TextB wb hb V avs most h sv w (most + 1 + 4 * (f + 1 : Nat)) e w' := by
  have w0 := W.w0
  have c6 : w.cell? ⟨hb, 6, none⟩ = some (.int .i64 h.cost) := W.S.H.tab.H.c 6
  have f6 := W.S.H.tab.H.fz 6
  have hwz := W.wlt
  have hhz := W.S.H.tab.H.lt_size
  have hsm := W.S.H.small
  have hc0 := W.S.c0
  have hwh : wb ≠ hb := fun e => W.wn (.inl e)
  have hrl := wk_lt W.S.H.ok t ht
  obtain ⟨hn1, hn2⟩ := W.S.nums _ hrl
  have hin := W.S.H.ags _ hrl
  have hl4 := W.S.f4 _ hrl
  obtain ⟨h1, hf1⟩ := W.count (h.cost + 1) (by omega)
  have HSP := hide (spent_b h1 hs)
  have HW : Hid (∀ w3, WrB w3 wb hb V avs most sv seen { h with cost := h.cost + 1 } → Calls Tryz.prog 98 #[.pointer (some ⟨hb, 0, none⟩), .int .i64 t] w3 fun e w' => e = .returned (.int .i64 (wk h.bs t)) ∧ w' = w3) := fun w3 h3 => walk_x (h := { h with cost := h.cost + 1 }) h3.S.H t ht
  have HC : Hid (∀ w3 sv3 seen3 c3, WrB w3 wb hb V avs most sv3 seen3 { h with cost := c3 } → _) := fun w3 sv3 seen3 c3 h3 => hp_row (h := { h with cost := c3 }) h3.S.H _ hrl
  have H1 := hide h1
  have HF1 := hide hf1
  have HI := hide hI
  have HP := hide hP
  clear W h1 hf1 hI hP
  dsimp only at HC
  have HLS : Hid (∀ w3, WrB w3 wb hb V avs most sv seen { h with cost := h.cost + 1 } → Calls Tryz.prog 101 #[.pointer (some ⟨wb, 0, none⟩), .int .i64 (wk h.bs t)] w3 fun e w' => ListB wb hb V avs most h (h.cost + 1) sv w3 (most + 1 + 4 * f) e w') := fun w3 h3 => list_b h3 (by omega) hc hm f hf (by omega) _ hrl hd2 HI.out
  rw [hd2] at HC
  generalize (nd h.T (wk h.bs t)).nm = nm at *
  generalize (nd h.T (wk h.bs t)).n = nn at *
  generalize (nd h.T (wk h.bs t)).k = K at *
  generalize wk h.bs t = r at *
  have e1 : (K == 97) = false := by simpa using hk1
  have e2 : (K == 110) = false := by simpa using hk2
  have e3 : (K == 118) = false := by simpa using hk3
  have e4 : (nm.toList == [46]) = true := by rw [← B_beq]; simp [hd1]
  clear hd1
  clear hk1 hk2 hk3 hin
  go_enter Tryz.func66, Tryz.ntmps66
  go_wp2_with (first | (go_at_call 88; refine HSP.out.mono ?_; rintro e w2 ⟨rfl, hB2⟩; have h2 := H1.out.below hB2; obtain ⟨g0, p0, g1, p1, g2, p2, g3, p3, a, cc, c0, k0, l0, c1, k1, l1, c2, k2, l2, c3, k3, l3, ho, hmem, hhb2, z0, z1, z2, z3⟩ := HC.out _ _ _ _ h2; have w02 := h2.w0; have hwl2 := h2.wlt) | (go_at_call 98; refine (HW.out _ h2).mono ?_; rintro e w3 ⟨rfl, hw3⟩; subst w3) | (go_at_call 100; refine (HP.out _ _ _ _ h2).mono ?_; rintro e w3 ⟨rfl, hw3⟩; subst w3) | (go_at_call 101; refine (HLS.out _ h2).mono ?_; rintro e w4 ⟨x, sv4, seen4, cA, rfl, hx, h4, hc4, hc4', hf4⟩))
  go_ret
  exact ⟨x, sv4, seen4, cA, rfl, by omega, h4, by omega, by omega, (HF1.out.trans (WFr.of_below hB2)).trans hf4⟩
theorem TextB.mono {M M' : Int} {e : Ending} (q : TextB wb hb V avs most h sv w M e w') (hM : M ≤ M') : TextB wb hb V avs most h sv w M' e w' := by
  obtain ⟨x, sv', seen', c, h1, h2, h3, h4, h5, h6⟩ := q
  exact ⟨x, sv', seen', c, h1, h2, h3, h4, by omega, h6⟩
theorem text_b (hm : most ≤ 1000000) (h : Hp) : ∀ (f : Nat), f ≤ 1000000 → TextI wb hb V avs most h f
  | 0, _, w, c, sv, seen, t, least, W, h0, hfc, hc, ht => text_spent W (by show c ≤ _; omega) (by
      show spentB (c + 1) most h.err = true
      simp only [spentB, Bool.or_eq_true, decide_eq_true_eq]; left; omega) t least _ (by show c + 1 ≤ _; omega)
  | f + 1, hf, w, c, sv, seen, t, least, W, h0, hfc, hc, ht => by
    have ih : TextI wb hb V avs most { h with cost := c } f := text_b hm h f (by omega)
    cases hs : spentB (c + 1) most h.err with
    | true => exact text_spent W (by show c ≤ _; omega) hs t least _ (by show c + 1 ≤ _; omega)
    | false =>
      have hcm : c + 1 ≤ most := by
        simp only [spentB, Bool.or_eq_false_iff, decide_eq_false_iff_not] at hs
        omega
      by_cases k1 : (nd h.T (wk h.bs t)).k = 97
      · exact text_leaf W (by show c ≤ _; omega) hs t ht (.inl k1) least _ (by show c + 1 ≤ _; omega)
      · by_cases k2 : (nd h.T (wk h.bs t)).k = 110
        · exact text_leaf W (by show c ≤ _; omega) hs t ht (.inr k2) least _ (by show c + 1 ≤ _; omega)
        · by_cases k3 : (nd h.T (wk h.bs t)).k = 118
          · exact text_varB W (by show c ≤ _; omega) hs t ht k3 least _ (by show c + 1 ≤ _; omega)
          · have hrl := wk_lt W.S.H.ok t ht
            obtain ⟨P, hP, hPW⟩ := power_b W (wk h.bs t) hrl
            have hmx : most + 1 + 4 * ((f + 1 : Nat) : Int) ≤ max (c + 1) (most + 1 + 4 * ((f + 1 : Nat) : Int)) := by omega
            rcases hP with rfl | ⟨l2, p1, p2⟩
            · by_cases hd : (nd h.T (wk h.bs t)).nm = B [46] ∧ (nd h.T (wk h.bs t)).ags.length = 2
              · exact (text_dotB W hcm hm f (by omega) (by show most ≤ c + _; omega) hs t ht k1 k2 k3 ih hd.1 hd.2 hPW least).mono (fun e w' q => q.mono hmx)
              · exact (text_rowB W hcm hm f (by omega) (by show most ≤ c + _; omega) hs t ht k1 k2 k3 ih hd hPW least).mono (fun e w' q => q.mono hmx)
            · exact (text_opB W hcm hm f (by omega) (by show most ≤ c + _; omega) hs t ht k1 k2 k3 ih P p1 p2 l2 hPW least).mono (fun e w' q => q.mono hmx)
end
end Go.Proofs.YtodpkdajbnceoaaGreatDoor
