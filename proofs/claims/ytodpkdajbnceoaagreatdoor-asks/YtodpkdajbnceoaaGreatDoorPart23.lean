import Derived.Test.YtodpkdajbnceoaaGreatDoorPart21
import Derived.Test.YtodpkdajbnceoaaGreatDoorPart22
set_option linter.all false
set_option maxHeartbeats 4000000
set_option maxRecDepth 100000
namespace Go.Proofs.YtodpkdajbnceoaaGreatDoor
open Go.RowKit
section
variable {H0 : Nat} {w : World} {wk hb : Nat} {V : _root_.Fin 6 → Value} {avs : List Value} {most : Int} {lv kv : Value} {fx : Fix} {s : Wk}
theorem step_z {gb bc : Nat} {av k0 m0 ba bq vv0 : Value} {c : Cl} (h : WkIn H0 w wk hb V avs most lv kv fx s) (hA : BaseIs w H0 fx.a gb bc av k0 m0 ba bq vv0 c) (hch : Chain s) (hm0 : 0 ≤ most) (hm : most ≤ 100000000) (hc : s.h.cost ≤ 900000000) (hls : s.ls.length ≤ 900000000) (hbl : s.bk.length ≤ 900000000) (hT : s.h.T.length + 3000 ≤ 900000000) (t : Nat) (hto : s.todo = t) :
    Calls Tryz.prog 89 #[.pointer (some ⟨wk, 0, none⟩)] w fun e w' => StepZ H0 w wk hb most fx s e w' := by
  obtain ⟨g, ht⟩ : ∃ g, s.ls[t]? = some g := by
    rcases hch.todo with e | ⟨i, g, e, h2, _⟩
    · rw [hto] at e; omega
    · have : i = t := by rw [hto] at e; omega
      exact ⟨g, this ▸ h2⟩
  have hcut := hch.at hto ht
  have hcr := hch.ls g (List.mem_of_getElem? ht)
  have fin : ∀ kv' w', WkIn H0 w' wk hb V avs most lv kv' fx { s with h := { s.h with cost := s.h.cost + 1 }, todo := g.rest, bk := s.bk.take g.cut } → Below H0 w w' → StepZ H0 w wk hb most fx s (.returned (.bool true)) w' := fun kv' w' h1 h2 =>
    ⟨true, _, _, _, _, _, rfl, h1, h2, Later.count _ (by omega), Int.le_refl _, by show s.ls.length ≤ _; omega, by show (s.bk.take g.cut).length ≤ _; rw [List.length_take]; omega, (hch.heap { s.h with cost := s.h.cost + 1 }).take hcut hcr, fun _ q => q⟩
  cases ho : g.only with
  | true =>
    refine (step_only h (by omega) t g hto ht ho hcut (by omega)).mono ?_
    rintro e w' ⟨rfl, kv', h1, h2⟩
    exact fin kv' w' h1 h2
  | false =>
    have hbo := ((h.gl g (List.mem_of_getElem? ht)).body ho).2
    obtain ⟨k, nm0, ar, ps, hgb⟩ : ∃ k nm0 ar ps, g.b = .mk k nm0 ar ps := by
      cases g.b with
      | mk k n a p => exact ⟨k, n, a, p, rfl⟩
    rw [hgb] at hbo
    rcases hbo.2.2.1 with q | q | ⟨q, _⟩ | ⟨q, _⟩ | ⟨q, _⟩ | q
    · subst q
      refine (step_cut h (by omega) t g hto ht ho hcut (by omega) nm0 ar ps hgb).mono ?_
      rintro e w' ⟨rfl, kv', h1, h2⟩
      exact fin kv' w' h1 h2
    · subst q; exact step_row h hch (by omega) t g hto ht ho hls hbl nm0 ar ps hgb
    · subst q; exact step_or h hch (by omega) t g hto ht ho hls hbl nm0 ar ps hgb
    · subst q; exact step_if h hch (by omega) t g hto ht ho hls hbl nm0 ar ps hgb
    · subst q; exact step_not h hch (by omega) t g hto ht ho hls hbl nm0 ar ps hgb
    · subst q; exact step_goal hA hm0 hm hT h hch (by omega) t g hto ht ho hls hbl nm0 ar ps hgb
end
section
variable {H0 : Nat} {w : World} {wk hb : Nat} {V : _root_.Fin 6 → Value} {avs : List Value} {most : Int} {lv kv : Value} {fx : Fix} {s : Wk} {h : Hp}
theorem undo_none (H : HpIn w hb V avs most h) (mark : Nat) (hm : h.bs.length < mark) :
    Calls Tryz.prog 90 #[.pointer (some ⟨hb, 0, none⟩), .int .i64 mark] w fun e w' => e = .returned (.tuple #[]) ∧ w' = w := by
  have hbl := bs_small H.ok
  have hsm := H.small
  have hz := H.tab.H.lt_size
  have c5 : w.cell? ⟨hb, 5, none⟩ = some (V 5) := H.tab.H.c 5
  have hlen5 : (tabC h.T avs (tosOf h.T.length h.bs) (trOf h.bs) 5).length = h.bs.length := by simp [tabC, trOf]
  obtain ⟨ao5, cap5, e5⟩ := row_form (H.tab.H.own 5)
  rw [hlen5] at e5
  rw [e5] at c5
  clear H hlen5 e5
  go_enter Tryz.func90, Tryz.ntmps90
  go_wp2_with fail
  go_loopg [4] 1 (fun g _ wr => wr = w)
  case atStart => exact rfl
  case round =>
    subst hrel
    go_wp2_with fail
    go_end0
    exact ⟨rfl, rfl⟩
theorem undo_s (S : Sound hb most w V avs h) (mark : Nat) :
    Calls Tryz.prog 90 #[.pointer (some ⟨hb, 0, none⟩), .int .i64 mark] w fun e w' => e = .returned (.tuple #[]) ∧ ∃ V' h', Sound hb most w' V' avs h' ∧ HFr hb V V' w w' ∧ h'.T = h.T ∧ h'.cost = h.cost := by
  by_cases hm : mark ≤ h.bs.length
  · refine (undo_x S.H mark hm).mono ?_
    rintro e w' ⟨rfl, V', H', F'⟩
    exact ⟨rfl, V', _, ⟨H', S.f4, S.nums, S.c0⟩, F', rfl, rfl⟩
  · refine (undo_none S.H mark (by omega)).mono ?_
    rintro e w' ⟨rfl, rfl⟩
    exact ⟨rfl, V, h, S, HFr.refl _ _ _, rfl, rfl⟩
theorem flat6 : ∀ (l : List Ag) (i : Nat) (a : Ag), l[i]? = some a → ∀ j, j < 6 → (l.flatMap Ag.cells)[i * 6 + j]? = a.cells[j]?
  | [], i, a, h, _, _ => by simp at h
  | b :: l, 0, a, h, j, hj => by
    simp at h; subst h
    have hc : b.cells.length = 6 := by simp [Ag.cells]
    rw [List.flatMap_cons, List.getElem?_append_left (by omega)]
    simp
  | b :: l, i + 1, a, h, j, hj => by
    have hc : b.cells.length = 6 := by simp [Ag.cells]
    rw [List.flatMap_cons, List.getElem?_append_right (by omega), show (i + 1) * 6 + j - b.cells.length = i * 6 + j by omega]
    exact flat6 l i a (by simpa using h) j hj
theorem WkIn.placeAt (h : WkIn H0 w wk hb V avs most lv kv fx s) {n : Nat} {a : Ag} (hn : s.bk[n]? = some a) :
    ∃ kg cap, kv = .slice (some ⟨kg, 0, none⟩) s.bk.length cap ∧ kg < w.heap.size ∧ s.bk.length ≤ cap ∧ cap ≤ maxLen ∧
      w.cell? ⟨kg, n * 6, none⟩ = some (.int .i64 a.mark) ∧ w.cell? ⟨kg, n * 6 + 1, none⟩ = some (.int .i64 a.todo) ∧ w.cell? ⟨kg, n * 6 + 2, none⟩ = some (.bool false) ∧ w.cell? ⟨kg, n * 6 + 3, none⟩ = some (.int .i64 0) ∧ w.cell? ⟨kg, n * 6 + 4, none⟩ = some (.string ByteArray.empty) ∧ w.cell? ⟨kg, n * 6 + 5, none⟩ = some (.slice none 0 0) := by
  have hnl : n < s.bk.length := (List.getElem?_eq_some_iff.1 hn).1
  have hf := flat6 s.bk n a hn
  rcases h.bo.2 with ⟨_, q⟩ | ⟨kg, cap, cur, q, _, q2, q3, q4, _, q6⟩
  · omega
  · refine ⟨kg, cap, q, (Array.getElem?_eq_some_iff.1 q2).1, q3, q4, ?_, ?_, ?_, ?_, ?_, ?_⟩
    · exact rowCell q2 q6 (by have := hf 0 (by omega); rw [Nat.add_zero] at this; rw [this]; rfl)
    · exact rowCell q2 q6 (by rw [hf 1 (by omega)]; rfl)
    · exact rowCell q2 q6 (by rw [hf 2 (by omega)]; rfl)
    · exact rowCell q2 q6 (by rw [hf 3 (by omega)]; rfl)
    · exact rowCell q2 q6 (by rw [hf 4 (by omega)]; rfl)
    · exact rowCell q2 q6 (by rw [hf 5 (by omega)]; rfl)
end
structure Big (s : Wk) : Prop where
  ls : (s.ls.length : Int) ≤ 1 + 3001 * s.h.cost
  bk : (s.bk.length : Int) ≤ s.h.cost
  T : (s.h.T.length : Int) ≤ 13 + 2002 * s.h.cost
def OnZ (H0 : Nat) (w : World) (wk hb : Nat) (most : Int) (fx : Fix) (s : Wk) (e : Ending) (w' : World) : Prop :=
  ∃ (r : Bool) (s' : Wk) (V' : _root_.Fin 6 → Value) (avs' : List Value) (lv' kv' : Value), e = .returned (.bool r) ∧ WkIn H0 w' wk hb V' avs' most lv' kv' fx s' ∧ Below H0 w w' ∧ Chain s' ∧ Big s' ∧ s.h.cost ≤ s'.h.cost ∧ s'.h.cost ≤ 9 * most + 3 ∧ s.h.T <+: s'.h.T ∧ ∀ g, g ∈ s.ls → g ∈ s'.ls
section
variable {H0 : Nat} {w : World} {wk hb : Nat} {V : _root_.Fin 6 → Value} {avs : List Value} {most : Int} {lv kv : Value} {fx : Fix} {s : Wk}
theorem Chain.pop {n : Nat} {a : Ag} (h : Chain s) (hn : s.bk.length = n + 1) (ha : s.bk[n]? = some a) (x : Hp) : Chain { h := x, ls := s.ls, todo := a.todo, bk := s.bk.take n } :=
  (h.heap x).take (by show n ≤ s.bk.length; omega) (h.bk n a ha)
theorem on_z {gb bc : Nat} {av k0 m0 ba bq vv0 : Value} {c : Cl} (h : WkIn H0 w wk hb V avs most lv kv fx s) (hA : BaseIs w H0 fx.a gb bc av k0 m0 ba bq vv0 c) (hch : Chain s) (hbig : Big s) (hm0 : 0 ≤ most) (hm : most ≤ 20000) (hc : s.h.cost ≤ 9 * most + 3) (first : Bool) :
    Calls Tryz.prog 59 #[.pointer (some ⟨wk, 0, none⟩), .bool first] w fun e w' => OnZ H0 w wk hb most fx s e w' := by
  have HH := hide h
  have HA := hide hA
  have HCH := hide hch
  have HBG := hide hbig
  have hs0 := h.S.c0
  obtain ⟨M, hM⟩ : ∃ M : Nat, 2 * (most + 1 - s.h.cost) + 1 < M := ⟨(2 * (most + 1 - s.h.cost) + 2).toNat, by omega⟩
  clear h hA hch hbig
  go_enter Tryz.func59, Tryz.ntmps59
  go_wp2_with fail
  go_loopg [5] M (fun gk v wr => ∃ (ok : Bool) (s1 : Wk) (V1 : _root_.Fin 6 → Value) (avs1 : List Value) (lv1 kv1 : Value), v = .bool ok ∧ WkIn H0 wr wk hb V1 avs1 most lv1 kv1 fx s1 ∧ Below H0 w wr ∧ Chain s1 ∧ Big s1 ∧ s.h.cost ≤ s1.h.cost ∧ s1.h.cost ≤ 9 * most + 3 ∧ s.h.T <+: s1.h.T ∧ (∀ g, g ∈ s.ls → g ∈ s1.ls) ∧ 2 * (most + 1 - s1.h.cost) + (if ok then 0 else 1) < (gk : Int))
  case atStart => exact ⟨first, s, V, avs, lv, kv, rfl, HH.out, Below.refl _ _, HCH.out, HBG.out, Int.le_refl _, hc, List.prefix_refl _, fun _ q => q, by cases first <;> simp <;> omega⟩
  case round =>
    obtain ⟨ok, s1, V1, avs1, lv1, kv1, rfl, h1, b1, hC1, hG1, hlo, hhi, hp1, hmm, hgk⟩ := hrel
    have hG2 := hG1.ls
    have hG3 := hG1.bk
    have hG4 := hG1.T
    have hz1 := h1.S.c0
    have HSP := hide (spent_x h1.S.H.tab.H)
    obtain ⟨sp, hsp⟩ : ∃ sp, sp = (decide (most < s1.h.cost) || !(s1.h.err == 0)) := ⟨_, rfl⟩
    rw [← hsp] at HSP
    have HSQ : Hid (Calls Tryz.prog 88 #[.pointer (some ⟨hb, 0, none⟩)] wr fun e w' => e = .returned (.bool sp) ∧ Below wr.heap.size wr w') := HSP.out.mono (by
      rintro e w2 ⟨rfl, n2, rfl⟩
      exact ⟨rfl, below_drewN (Below.refl _ _) n2⟩)
    clear HSP
    have c0 := h1.cs.1
    have hlt := h1.lt
    have H1 := hide h1
    have HB1 := hide b1
    have HC1 := hide hC1
    have HG1 := hide hG1
    have HP1 := hide hp1
    have HMM := hide hmm
    clear h1 b1 hC1 hG1 hp1 hmm
    have HO : Hid (∀ (r : Bool) (w' : World), Below wr.heap.size wr w' → OnZ H0 w wk hb most fx s (.returned (.bool r)) w') := fun r w' hB => ⟨r, s1, V1, avs1, lv1, kv1, rfl, H1.out.below hB, HB1.out.trans (hB.mono H1.out.size), HC1.out, HG1.out, hlo, hhi, HP1.out, HMM.out⟩
    cases sp with
    | true =>
      clear hsp
      go_wp2_with (go_at_call 88; refine HSQ.out.mono ?_; rintro e w2 ⟨rfl, hB2⟩)
      go_ret
      exact HO.out _ _ hB2
    | false =>
      have hcm : s1.h.cost ≤ most := by
        rcases Classical.em (most < s1.h.cost) with q | q
        · rw [decide_eq_true q] at hsp; simp at hsp
        · omega
      clear hsp
      cases ok with
      | true =>
        simp only [if_true] at hgk
        by_cases htd : s1.todo = -1
        · have HC3 : Hid (∀ w', Below wr.heap.size wr w' → w'.cell? ⟨wk, 3, none⟩ = some (.int .i64 (-1))) := fun w' hB => by rw [(H1.out.below hB).cs.2.2.2.1, htd]
          clear htd
          go_wp2_with (go_at_call 88; refine HSQ.out.mono ?_; rintro e w2 ⟨rfl, hB2⟩; have y3 := HC3.out _ hB2; have hl2 := (H1.out.below hB2).lt)
          go_ret
          exact HO.out _ _ hB2
        · obtain ⟨t, ht⟩ : ∃ t : Nat, s1.todo = t := by
            rcases HC1.out.todo with e | ⟨i, _, e, _⟩
            · exact absurd e htd
            · exact ⟨i, e⟩
          have HC3 : Hid (∀ w', Below wr.heap.size wr w' → w'.cell? ⟨wk, 3, none⟩ = some (.int .i64 (t : Nat))) := fun w' hB => by rw [(H1.out.below hB).cs.2.2.2.1, ht]
          have HST : Hid (∀ w', Below wr.heap.size wr w' → Calls Tryz.prog 89 #[.pointer (some ⟨wk, 0, none⟩)] w' fun e w'' => StepZ H0 w' wk hb most fx s1 e w'') := fun w' hB => step_z (H1.out.below hB) ((HA.out.keep HH.out.size HB1.out).keep H1.out.size (hB.mono H1.out.size)) HC1.out hm0 (by omega) (by omega) (by omega) (by omega) (by omega) t ht
          clear htd ht
          go_wp2_with (first | (go_at_call 88; refine HSQ.out.mono ?_; rintro e w2 ⟨rfl, hB2⟩; have y3 := HC3.out _ hB2; have hl2 := (H1.out.below hB2).lt) | (go_at_call 89; refine (HST.out _ hB2).mono ?_; rintro e w3 ⟨r, s3, V3, avs3, lv3, kv3, rfl, h3, b3, L3, k1, k2, k3, C3, mm3⟩))
          go_roundg (gk - 1)
          case measure => omega
          case rel =>
            have l1 := L3.len
            have l2 := L3.hi
            exact ⟨r, s3, V3, avs3, lv3, kv3, rfl, h3, (HB1.out.trans (hB2.mono H1.out.size)).trans b3, C3, ⟨by omega, by omega, by omega⟩, by omega, by omega, HP1.out.trans L3.T, fun g q => mm3 g (HMM.out g q), by cases r <;> simp <;> omega⟩
      | false =>
        simp only [Bool.false_eq_true, if_false] at hgk
        by_cases hbk : s1.bk = []
        · have HC4 : Hid (∀ w', Below wr.heap.size wr w' → ∃ ao cap, w'.cell? ⟨wk, 4, none⟩ = some (.slice ao 0 cap)) := fun w' hB => by
            obtain ⟨ao, cap, e⟩ := row_form H1.out.bo
            refine ⟨ao, cap, ?_⟩
            rw [(H1.out.below hB).cs.2.2.2.2.1, e, hbk]; rfl
          clear hbk
          go_wp2_with (go_at_call 88; refine HSQ.out.mono ?_; rintro e w2 ⟨rfl, hB2⟩; obtain ⟨ao, cap, y4⟩ := HC4.out _ hB2; have hl2 := (H1.out.below hB2).lt)
          go_ret
          exact HO.out _ _ hB2
        · obtain ⟨n, hn⟩ : ∃ n, s1.bk.length = n + 1 := by
            cases hq : s1.bk with
            | nil => exact absurd hq hbk
            | cons a l => exact ⟨l.length, rfl⟩
          obtain ⟨a, ha⟩ : ∃ a, s1.bk[n]? = some a := ⟨_, List.getElem?_eq_getElem (by omega)⟩
          clear hbk
          have HN := hide hn
          have HAA := hide ha
          clear hn ha
          obtain ⟨kg, cap, hkv, _, _, _, _⟩ := H1.out.placeAt HAA.out
          subst hkv
          have HPL : Hid (∀ w', Below wr.heap.size wr w' → w'.cell? ⟨wk, 0, none⟩ = some (.pointer (some ⟨hb, 0, none⟩)) ∧ w'.cell? ⟨wk, 4, none⟩ = some (.slice (some ⟨kg, 0, none⟩) (n + 1) cap) ∧ kg < w'.heap.size ∧ n + 1 ≤ cap ∧ cap ≤ maxLen ∧
      w'.cell? ⟨kg, n * 6, none⟩ = some (.int .i64 a.mark) ∧ w'.cell? ⟨kg, n * 6 + 1, none⟩ = some (.int .i64 a.todo) ∧ w'.cell? ⟨kg, n * 6 + 2, none⟩ = some (.bool false) ∧ w'.cell? ⟨kg, n * 6 + 3, none⟩ = some (.int .i64 0) ∧ w'.cell? ⟨kg, n * 6 + 4, none⟩ = some (.string ByteArray.empty) ∧ w'.cell? ⟨kg, n * 6 + 5, none⟩ = some (.slice none 0 0)) := fun w' hB => by
            obtain ⟨kg', cap', e, q1, q2, q3, q4⟩ := (H1.out.below hB).placeAt HAA.out
            cases e
            rw [HN.out] at q2
            exact ⟨(H1.out.below hB).cs.1, by rw [(H1.out.below hB).cs.2.2.2.2.1, HN.out], q1, q2, q3, q4⟩
          have hnc : n ≤ 200000 := by have := HN.out; omega
          go_upto_region 12 with (go_at_call 88; refine HSQ.out.mono ?_; rintro e w2 ⟨rfl, hB2⟩; obtain ⟨y0, y4, hkg, hca1, hca2, z0, z1, z2, z3, z4, z5⟩ := HPL.out _ hB2; have hl2 := (H1.out.below hB2).lt)
          unfold maxLen at hca2
          obtain ⟨W3, hW3⟩ : ∃ W3, W3 = w2.alloc (.cells #[.int .i64 a.mark, .int .i64 a.todo, .bool false, .int .i64 0, .string ByteArray.empty, .slice none 0 0] 180) := ⟨_, rfl⟩
          have hB3 : Below w2.heap.size w2 W3 := by rw [hW3]; exact (Below.refl _ _).alloc (Nat.le_refl _) _
          have hbx : W3.heap[w2.heap.size]? = some (.cells #[.int .i64 a.mark, .int .i64 a.todo, .bool false, .int .i64 0, .string ByteArray.empty, .slice none 0 0] 180 (0, 0)) := by rw [hW3]; exact heap_alloc_new _ _
          have h3 := (H1.out.below hB2).below hB3
          have hs3 : w2.heap.size < W3.heap.size := (Array.getElem?_eq_some_iff.1 hbx).1
          have d0 : W3.cell? ⟨w2.heap.size, 0, none⟩ = some (.int .i64 a.mark) := by rw [cell_of_block hbx]; rfl
          have g0 : W3.cell? ⟨wk, 0, none⟩ = some (.pointer (some ⟨hb, 0, none⟩)) := h3.cs.1
          have hl3 := h3.lt
          have HUN := hide (undo_s (h3.below (w' := W3.drew) (Below.refl _ _).drew).S a.mark)
          have HU : Hid (∀ w4 V4 h4, Sound hb most w4 V4 avs1 h4 → HFr hb V1 V4 W3.drew w4 → h4.T = s1.h.T → h4.cost = s1.h.cost → w4.cell? ⟨w2.heap.size, 0, none⟩ = some (.int .i64 a.mark) ∧ w4.cell? ⟨w2.heap.size, 1, none⟩ = some (.int .i64 a.todo) ∧ w4.cell? ⟨w2.heap.size, 2, none⟩ = some (.bool false) ∧ w2.heap.size < w4.heap.size ∧ WkIn H0 w4 wk hb V4 avs1 most lv1 (.slice (some ⟨kg, 0, none⟩) s1.bk.length cap) fx { s1 with h := h4 } ∧ Below H0 wr w4) := fun w4 V4 h4 S4 F4 eT _ => by
            have h3d := h3.below (w' := W3.drew) (Below.refl _ _).drew
            have bb : w4.heap[w2.heap.size]? = some (.cells #[.int .i64 a.mark, .int .i64 a.todo, .bool false, .int .i64 0, .string ByteArray.empty, .slice none 0 0] 180 (0, 0)) := (F4.block w2.heap.size hs3 (HM_not h3d.S.H.tab.H (show W3.drew.heap[w2.heap.size]? = _ from hbx) (.inr (.inl rfl)))).trans hbx
            obtain ⟨q1, q2⟩ := h3d.heaped S4 F4 (by rw [eT]; exact List.prefix_refl _)
            exact ⟨by rw [cell_of_block bb]; rfl, by rw [cell_of_block bb]; rfl, by rw [cell_of_block bb]; rfl, (Array.getElem?_eq_some_iff.1 bb).1, q1, ((hB2.mono H1.out.size).trans ((hB3.mono (Nat.le_trans H1.out.size hB2.size)).trans ((Below.refl _ _).drew))).trans q2⟩
          have HX3 := hide h3
          clear h3 hbx hB3
          go_upto_region 13 with fail
          rw [← hW3]
          clear hW3 z0 z1 z2 z3 z4 z5 y0 y4
          go_region_with (go_at_call 90; refine HUN.out.mono ?_; rintro e w4 ⟨rfl, V4, h4, S4, F4, eT, eC⟩)
          all_goals
            obtain ⟨f0, f1, f2, hl4, h5, b5⟩ := HU.out w4 V4 h4 S4 F4 eT eC
            obtain ⟨h6, b6⟩ := h5.todoS a.todo
            have hlw4 := h5.lt
            obtain ⟨u0, u1, u2, u3, u4, uf⟩ := h5.cs
            have uf3 := uf 3
            obtain ⟨o0, o1, o2, o3, o4, of⟩ := h6.cs
            have of4 := of 4
            have o4' : (w4.setCell ⟨wk, 3, none⟩ (.int .i64 a.todo)).cell? ⟨wk, 4, none⟩ = some (.slice (some ⟨kg, 0, none⟩) (n + 1) cap) := by rw [o4, HN.out]
            have u4' : w4.cell? ⟨wk, 4, none⟩ = some (.slice (some ⟨kg, 0, none⟩) (n + 1) cap) := by rw [u4, HN.out]
            obtain ⟨h7, b7⟩ := WkIn.cutS (s := { s1 with h := h4, todo := a.todo }) h6 n (by show n ≤ s1.bk.length; rw [HN.out]; omega)
            have HF : Hid (WkIn H0 ((w4.setCell ⟨wk, 3, none⟩ (.int .i64 a.todo)).setCell ⟨wk, 4, none⟩ (.slice (some ⟨kg, 0, none⟩) n cap)) wk hb V4 avs1 most lv1 (.slice (some ⟨kg, 0, none⟩) n cap) fx { h := h4, ls := s1.ls, todo := a.todo, bk := s1.bk.take n } ∧ Below H0 w ((w4.setCell ⟨wk, 3, none⟩ (.int .i64 a.todo)).setCell ⟨wk, 4, none⟩ (.slice (some ⟨kg, 0, none⟩) n cap))) := ⟨h7, HB1.out.trans (b5.trans (b6.trans b7))⟩
            have HE : Hid (h4.T = s1.h.T ∧ h4.cost = s1.h.cost) := ⟨eT, eC⟩
            clear S4 F4 eT eC h5 h6 h7 b5 b6 b7 u0 u1 u2 u4 uf o0 o1 o2 o3 o4 of
            go_wp2_with fail
            go_roundg (gk - 1)
            case measure => omega
            case rel =>
              have hcost := HE.out.2
              have hTT := HE.out.1
              refine ⟨true, _, V4, avs1, lv1, _, rfl, HF.out.1, HF.out.2, HC1.out.pop HN.out HAA.out h4, ⟨?_, ?_, ?_⟩, ?_, ?_, ?_, HMM.out, ?_⟩
              · show (s1.ls.length : Int) ≤ 1 + 3001 * h4.cost; omega
              · show ((s1.bk.take n).length : Int) ≤ h4.cost
                rw [List.length_take]; omega
              · show (h4.T.length : Int) ≤ 13 + 2002 * h4.cost
                rw [hTT]; omega
              · show s.h.cost ≤ h4.cost; omega
              · show h4.cost ≤ _; omega
              · show s.h.T <+: h4.T
                rw [hTT]; exact HP1.out
              · show 2 * (most + 1 - h4.cost) + (if true then 0 else 1) < _
                simp only [if_true]; omega
end
end Go.Proofs.YtodpkdajbnceoaaGreatDoor
