import Derived.Test.YtodpkdajbnceoaaGreatDoorPart41
import Derived.Test.YtodpkdajbnceoaaGreatDoorPart27
set_option linter.all false
set_option maxHeartbeats 4000000
set_option maxRecDepth 100000
namespace Go.Proofs.YtodpkdajbnceoaaGreatDoor
open Go.RowKit
theorem Tryz.infoVarS : (Tryz.prog.info? 269).map (fun i => (i.zero, i.size, i.bytes)) = some (some (.agg #[.string ByteArray.empty, .int .i64 0, .nilIface, .int .i64 0]), 4, 48) := by kernel_rfl
theorem Tryz.underlyingVarS : Tryz.prog.underlying 254 = some (.slice 269) := by kernel_rfl
theorem grown_below {w w' : World} (h : w.grownBy w' none) : Below w.heap.size w w' := ⟨h.os, h.tape, h.output, h.size, fun b hb => h.block b hb (by simp)⟩
theorem names_c {w : World} {q : Nat} (hQ : QIn w q) :
    Calls Tryz.prog 86 #[.pointer (some ⟨q, 0, none⟩)] w fun e w' => (∃ (a : Option Addr) (n c : Nat), e = .returned (.slice a n c)) ∧ Below w.heap.size w w' := by
  obtain ⟨i0, hi, hz0, hz1, hz2⟩ := info_parts Tryz.infoString
  obtain ⟨tb, vb, vv, vbs, h1, h2, h3, h4⟩ := hQ
  obtain ⟨vo, vc, hvf⟩ := row_form h2
  subst hvf
  have c1 : w.cell? ⟨q, 1, none⟩ = some (.slice vo vbs.length vc) := by rw [cell_of_block h1]; rfl
  have hql : q < w.heap.size := (Array.getElem?_eq_some_iff.1 h1).1
  have H2 := hide h2
  have H4 := hide h4
  have HQ1 := hide h1
  clear h1 h2 h4
  go_enter Tryz.func86, Tryz.ntmps86
  go_wp2_with (first | (refine wpList_make_full w rfl _ _ 48 rfl w.heap.size 9 i0 _ 1 Tryz.underlyingStrings hi hz0 hz1 _ _ _ _ vbs.length rfl rfl rfl rfl ?_ ?_ ?_ ?_))
  · rw [hz2]; omega
  · unfold maxLen; omega
  · exact Nat.le_refl _
  intro w1 ho hg
  have hB1 := grown_below hg
  have c1' : w1.cell? ⟨q, 1, none⟩ = some (.slice vo vbs.length vc) := by rw [← c1]; unfold World.cell?; rw [hB1.block q hql]
  have hql1 : q < w1.heap.size := Nat.lt_of_lt_of_le hql hB1.size
  have HB1 := hide hB1
  have HO1 := hide ho
  clear ho hg hB1
  go_wp2_with fail
  go_loopg [17] (vbs.length + 1) (fun g i wr => ∃ (j : Nat) (xs : List Value), i = .int .i64 (j : Nat) ∧ j ≤ vbs.length ∧ vbs.length - j < g ∧ wr.ownsRow w.heap.size 9 1 (.slice (some ⟨w.heap.size, 0, none⟩) vbs.length vbs.length) vbs.length xs ∧ Below w.heap.size w wr)
  case atStart => exact ⟨0, _, rfl, by omega, by omega, HO1.out, HB1.out⟩
  case round =>
    obtain ⟨j, xs, rfl, hj, hgj, ho, hB⟩ := hrel
    by_cases hlt : j < vbs.length
    · have hvr : wr.ownsRow 0 267 1 (.slice vo vbs.length vc) vbs.length (vbs.map ptrV) := own_below H2.out hB
      obtain ⟨gv, cv, ev, a1, a2, a3, a4, k4⟩ := own_cell (j := j) (u := ptrV vbs[j]) hvr (by simp [hlt])
      cases ev
      obtain ⟨nm, hn⟩ := H4.out j vbs[j] (List.getElem?_eq_getElem hlt)
      have hbl : vbs[j] < w.heap.size := (Array.getElem?_eq_some_iff.1 hn).1
      have hn' := (hB.block _ hbl).trans hn
      have kn : wr.cell? ⟨vbs[j], 0, none⟩ = some (.string nm) := by rw [cell_of_block hn']; rfl
      have hbl' : vbs[j] < wr.heap.size := Nat.lt_of_lt_of_le hbl hB.size
      obtain ⟨x, hx⟩ : ∃ x, xs[j]? = some x := ⟨_, List.getElem?_eq_getElem (by have := ho.1; simp at this; omega)⟩
      obtain ⟨gs, cs', es, b1, b2, b3, b4, ks⟩ := own_cell (j := j) ho hx
      cases es
      have kf := ho.frozenAt j
      have hst := ho.stored j (.string nm)
      have HO := hide hst.1
      have HB : Hid (Below w.heap.size w (wr.setCell ⟨w.heap.size, j, none⟩ (.string nm))) := hB.setCell (p := ⟨w.heap.size, j, none⟩) (Nat.le_refl _) _
      unfold ptrV at k4
      generalize vbs[j] = b at *
      clear hst hvr ho hn hn'
      go_wp2_with fail
      go_roundg (gk - 1)
      case measure => omega
      case rel => exact ⟨j + 1, _, by go_num, by omega, by omega, HO.out, HB.out⟩
    · go_wp2_with fail
      go_ret
      exact ⟨⟨_, _, _, rfl⟩, hB⟩
theorem newSearch_c (w : World) (n : Int) :
    Calls Tryz.prog 131 #[.int .i64 n] w fun e w' => (∃ p : Addr, e = .returned (.agg #[.pointer (some p), .slice none 0 0])) ∧ Below w.heap.size w w' := by
  have HN : Hid (∀ w1 : World, Calls Tryz.prog 175 #[.int .i64 n] w1 fun e w' => e = .returned (.pointer (some ⟨w1.heap.size, 0, none⟩)) ∧ w' = w1.alloc (.cells #[.slice none 0 0, .int .i64 n, .int .i64 0] 394)) := fun w1 => by
    go_enter Tryz.func175, Tryz.ntmps175
    go_wp2_with fail
    go_ret
    exact ⟨rfl, rfl⟩
  go_enter Tryz.func131, Tryz.ntmps131
  go_wp2_with (go_at_call 175; refine (HN.out _).mono ?_; rintro e w1 ⟨rfl, rfl⟩)
  exact bodyPost_ret (v := .agg #[.pointer (some ⟨w.heap.size + 1, 0, none⟩), .slice none 0 0]) (by simp [results, Tryz.results131, go_sem]) rfl ⟨⟨_, rfl⟩, ((Below.refl _ _).alloc (Nat.le_refl _) _).alloc (by simp) _⟩
theorem new_c {w : World} {q : Nat} (hQ : QIn w q) (m : Option Nat) :
    Calls Tryz.prog 85 #[.map m, .pointer (some ⟨q, 0, none⟩)] w fun e w' => (∃ x : Addr, e = .returned (.pointer (some x))) ∧ Below w.heap.size w w' := by
  obtain ⟨i0, hi, hz0, hz1, hz2⟩ := info_parts Tryz.infoVarS
  have HQ := hide hQ
  obtain ⟨tb, vb, vv, vbs, h1, h2, h3, h4⟩ := hQ
  obtain ⟨vo, vc, hvf⟩ := row_form h2
  subst hvf
  have c1 : w.cell? ⟨q, 1, none⟩ = some (.slice vo vbs.length vc) := by rw [cell_of_block h1]; rfl
  have hql : q < w.heap.size := (Array.getElem?_eq_some_iff.1 h1).1
  have H1 := hide h1
  clear h1 h2 h4
  go_enter Tryz.func85, Tryz.ntmps85
  go_wp2_with (first | (refine wpList_make_full w rfl _ _ 254 rfl w.heap.size 269 i0 _ 4 Tryz.underlyingVarS hi hz0 hz1 _ _ _ _ vbs.length rfl rfl rfl rfl ?_ ?_ ?_ ?_))
  · rw [hz2]; omega
  · unfold maxLen; omega
  · exact Nat.le_refl _
  intro w1 ho hg
  have hB1 := grown_below hg
  have HS0 : Hid (∀ w', Below w.heap.size w w' → QIn w' q ∧ w'.cell? ⟨q, 0, none⟩ = some (.iface tb vb) ∧ Below w.heap.size w w') := fun w' hB => ⟨HQ.out.below hB, by rw [cell_of_block ((hB.block q hql).trans H1.out)]; rfl, hB⟩
  have HST : Hid (∀ w1 w2, (QIn w1 q ∧ w1.cell? ⟨q, 0, none⟩ = some (.iface tb vb) ∧ Below w.heap.size w w1) → Below w1.heap.size w1 w2 → (QIn w2 q ∧ w2.cell? ⟨q, 0, none⟩ = some (.iface tb vb) ∧ Below w.heap.size w w2)) := fun w1 w2 h hB => HS0.out w2 (h.2.2.trans (hB.mono h.2.2.size))
  have HNM : Hid (∀ w1, (QIn w1 q ∧ w1.cell? ⟨q, 0, none⟩ = some (.iface tb vb) ∧ Below w.heap.size w w1) → Calls Tryz.prog 86 #[.pointer (some ⟨q, 0, none⟩)] w1 fun e w' => (∃ (a : Option Addr) (n c : Nat), e = .returned (.slice a n c)) ∧ Below w1.heap.size w1 w') := fun w1 h => names_c h.1
  have HNS := hide (fun w1 => newSearch_c w1 40000)
  have hSi := HS0.out w1.drew hB1.drew
  have hql1 : q < w1.heap.size := Nat.lt_of_lt_of_le hql hB1.size
  clear ho hg hB1 c1
  go_wp2_with fail
  go_region_held (fun w' => QIn w' q ∧ w'.cell? ⟨q, 0, none⟩ = some (.iface tb vb) ∧ Below w.heap.size w w') (first | exact hSi | assumption | exact HST.out _ _ (by assumption) ((Below.refl _ _).alloc (Nat.le_refl _) _)) (first | (go_at_call 131; refine (HNS.out _).mono ?_; rintro e w5 ⟨⟨ps, rfl⟩, hB5⟩; have hS5 := HST.out _ _ (by assumption) hB5) | (go_at_call 86; refine (HNM.out _ (by assumption)).mono ?_; rintro e w6 ⟨⟨na, nn, nc, rfl⟩, hB6⟩; have hS6 := HST.out _ _ (by assumption) hB6))
  all_goals
    have HL : Hid (∀ w', (QIn w' q ∧ w'.cell? ⟨q, 0, none⟩ = some (.iface tb vb) ∧ Below w.heap.size w w') → Below w.heap.size w w') := fun w' h => h.2.2
    go_wp2_with fail
    go_ret
    exact ⟨⟨_, rfl⟩, HL.out _ (by assumption)⟩
theorem BaseP.below {w w' : World} {p : Nat} (h : BaseP w p) (hB : Below w.heap.size w w') : BaseP w' p := h.keep fun b _ q => hB.block b (Array.getElem?_eq_some_iff.1 q).1
theorem plainLoadA_c (w : World) (hsg : SignsIn w) (hng : 1 < w.heap.size) :
    Calls Tryz.prog 33 #[.string (B [97, 46])] w fun e w' => LoadA w e w' := by
  have HRd := hide (syntaxProgram_c (B [97, 46]) w (by rw [B_size]; simp) hsg hng)
  have HRd' : Hid (Calls Tryz.prog 95 #[.string (B [97, 46])] w fun e w' => Below w.heap.size w w' ∧ ∃ (a : Option Addr) (n c : Nat), e = .returned (.tuple #[.slice a n c, .nilIface]) ∧ ∃ rs, ClRows w' w.heap.size (.slice a n c) n rs) := HRd.out.mono fun e w' h => by unfold LoadC at h; rw [prog_a] at h; exact h
  have HRead : Hid (Calls Tryz.prog 63 #[.string (B [97, 46])] w fun e w' => Below w.heap.size w w' ∧ ∃ p : Nat, e = .returned (.tuple #[.pointer (some ⟨p, 0, none⟩), .nilIface]) ∧ BaseP w' p) := by
    clear HRd
    go_enter Tryz.func63, Tryz.ntmps63
    go_wp2_with (first | (go_at_call 95; refine HRd'.out.mono ?_; rintro e w1 ⟨hB, a, n, c, rfl, rs, hrs⟩; have HNP := hide (newProgram_c hrs)) | (go_at_call 96; refine HNP.out.mono ?_; rintro e w2 ⟨mb, l, rfl, hP, hB2⟩))
    go_ret2
    exact ⟨(below_chain hB hB2).alloc (below_chain hB hB2).size _, _, rfl, ⟨some mb, heap_alloc_new _ _⟩⟩
  have HTl := hide tell_nil
  clear HRd HRd'
  go_enter Tryz.func33, Tryz.ntmps33
  go_wp2_with (first | (go_at_call 63; refine HRead.out.mono ?_; rintro e w1 ⟨hB, p, rfl, hP⟩) | (go_at_call 49; refine (HTl.out _).mono ?_; rintro e w2 ⟨rfl, hB2⟩))
  go_ret3
  exact ⟨below_chain hB hB2, _, _, rfl, hP.below hB2⟩
theorem clauses_c {w : World} {p : Nat} (hP : BaseP w p) : Calls Tryz.prog 77 #[.pointer (some ⟨p, 0, none⟩)] w fun e w' => (∃ m : Option Nat, e = .returned (.map m)) ∧ w' = w := by
  obtain ⟨m, h⟩ := hP
  have c0 : w.cell? ⟨p, 0, none⟩ = some (.map m) := by rw [cell_of_block h]; rfl
  have hl : p < w.heap.size := (Array.getElem?_eq_some_iff.1 h).1
  clear h
  go_enter Tryz.func77, Tryz.ntmps77
  go_wp2_with fail
  go_ret
  exact ⟨⟨m, rfl⟩, rfl⟩
theorem plainAsk_c (s : ByteArray) (w : World) (p : Nat) (hs : s.size ≤ 32768) (hP : BaseP w p) (hsg : SignsIn w) (hE : ErrT w) (hng : 1 < w.heap.size) :
    Calls Tryz.prog 26 #[.pointer (some ⟨p, 0, none⟩), .string s, .bool false] w fun e w' => AskPost s w e w' := by
  have HRd := hide (syntaxQuestion_c s w hs hsg hng)
  cases hr : questS s with
  | error q =>
    obtain ⟨er, a⟩ := q
    have HRd' : Hid (Calls Tryz.prog 75 #[.string s] w fun e w' => Below w.heap.size w w' ∧ ∃ g, e = .returned (.tuple #[.pointer none, .iface 161 (ptrV g)]) ∧ w'.heap[g]? = some (atV er a)) := HRd.out.mono fun e w' h => by unfold AskC at h; rw [hr] at h; exact h
    have HR : Hid (questS s = .error (er, a)) := hr
    have HRead : Hid (Calls Tryz.prog 55 #[.pointer (some ⟨p, 0, none⟩), .string s, .bool false] w fun e w' => Below w.heap.size w w' ∧ ∃ g, e = .returned (.tuple #[.pointer none, .iface 161 (ptrV g)]) ∧ w'.heap[g]? = some (atV er a)) := by
      clear HRd hr
      unfold ptrV at *
      go_enter Tryz.func55, Tryz.ntmps55
      go_wp2_with (first | (go_at_call 75; refine HRd'.out.mono ?_; rintro e w1 ⟨hB, g, rfl, hc⟩))
      go_ret2
      exact ⟨hB, g, rfl, hc⟩
    have HTl := hide tell_at
    have HEB : Hid (∀ w1, Below w.heap.size w w1 → ErrT w1) := fun w1 hB => (hB.cell (p := ⟨0, 0, none⟩) (Nat.lt_of_le_of_lt (by decide) hng)).trans hE
    clear HRd HRd' hr
    unfold ptrV at *
    go_enter Tryz.func26, Tryz.ntmps26
    go_wp2_with (first | (go_at_call 55; refine HRead.out.mono ?_; rintro e w1 ⟨hB, g, rfl, hc⟩; have hE1 := HEB.out _ hB) | (go_at_call 49; refine (HTl.out _ g er a hc hE1).mono ?_; rintro e w2 ⟨rfl, hB2⟩))
    go_ret3
    refine ⟨below_chain hB hB2, ?_⟩
    rw [HR.out]; rfl
  | ok l =>
    have HRd' : Hid (Calls Tryz.prog 75 #[.string s] w fun e w' => Below w.heap.size w w' ∧ ∃ q : Nat, e = .returned (.tuple #[.pointer (some ⟨q, 0, none⟩), .nilIface]) ∧ QIn w' q) := HRd.out.mono fun e w' h => by unfold AskC at h; rw [hr] at h; exact h
    have HR : Hid (questS s = .ok l) := hr
    have HCL : Hid (∀ w1, Below w.heap.size w w1 → Calls Tryz.prog 77 #[.pointer (some ⟨p, 0, none⟩)] w1 fun e w' => (∃ m : Option Nat, e = .returned (.map m)) ∧ w' = w1) := fun w1 hB => clauses_c (hP.below hB)
    have HRead : Hid (Calls Tryz.prog 55 #[.pointer (some ⟨p, 0, none⟩), .string s, .bool false] w fun e w' => Below w.heap.size w w' ∧ ∃ x : Addr, e = .returned (.tuple #[.pointer (some x), .nilIface])) := by
      clear HRd hr hP
      go_enter Tryz.func55, Tryz.ntmps55
      go_wp2_with (first | (go_at_call 75; refine HRd'.out.mono ?_; rintro e w1 ⟨hB, q, rfl, hQ⟩; have HNW := hide (new_c hQ)) | (go_at_call 77; refine (HCL.out _ hB).mono ?_; rintro e w2 ⟨⟨m, rfl⟩, hw2⟩; subst w2) | (go_at_call 85; refine (HNW.out _).mono ?_; rintro e w3 ⟨⟨x, rfl⟩, hB3⟩))
      go_ret2
      exact ⟨(below_chain hB hB3).alloc (below_chain hB hB3).size _, _, rfl⟩
    have HTl := hide tell_nil
    clear HRd HRd' hr
    go_enter Tryz.func26, Tryz.ntmps26
    go_wp2_with (first | (go_at_call 55; refine HRead.out.mono ?_; rintro e w1 ⟨hB, x, rfl⟩) | (go_at_call 49; refine (HTl.out _).mono ?_; rintro e w2 ⟨rfl, hB2⟩))
    go_ret3
    refine ⟨below_chain hB hB2, ?_⟩
    rw [HR.out]
    exact ⟨_, _, rfl⟩
end Go.Proofs.YtodpkdajbnceoaaGreatDoor
