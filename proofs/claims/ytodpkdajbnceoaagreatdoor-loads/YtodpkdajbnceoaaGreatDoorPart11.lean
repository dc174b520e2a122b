import Derived.Test.YtodpkdajbnceoaaGreatDoorPart10
set_option linter.unusedVariables false
set_option linter.unusedSimpArgs false
namespace Go.Proofs.YtodpkdajbnceoaaGreatDoor
open Go.RowKit

/-- what may stand behind an element of a list -/
theorem rest_ways (b : Ex) : b = .atom (B [91, 93]) ∨ (∃ a' b', b = .cmp (B [46]) [a', b']) ∨
    ((∀ s, restS b s = (124 :: ((outS b 0 s).1 ++ [93]), (outS b 0 s).2)) ∧ ∀ vl T i, Has vl T b i → ∃ nd, T[i]? = some nd ∧ ¬ (nd.k = 97 ∧ nd.nm = B [91, 93]) ∧ ¬ (nd.k = 99 ∧ nd.nm = B [46] ∧ nd.ags.length = 2) ∧ (nd.k = 97 ∨ nd.k = 110 ∨ nd.k = 118 ∨ nd.k = 99)) := by
  match b with
  | .atom n =>
    by_cases h : n = B [91, 93]
    · exact .inl (by rw [h])
    · refine .inr (.inr ⟨fun s => by rw [restS, if_neg h, outS], fun vl T i hh => ⟨_, hh, by simp [h], by simp, by simp⟩⟩)
  | .num v => exact .inr (.inr ⟨fun s => by rw [restS] <;> simp, fun vl T i hh => ⟨_, hh, by simp, by simp, by simp⟩⟩)
  | .var k => exact .inr (.inr ⟨fun s => by rw [restS] <;> simp, fun vl T i hh => ⟨_, hh.2, by simp [varNd], by simp [varNd], by simp [varNd]⟩⟩)
  | .cmp n args =>
    match args with
    | [] => exact .inr (.inr ⟨fun s => by rw [restS] <;> simp, fun vl T i hh => by
        obtain ⟨idx, h1, h2⟩ : ∃ idx, T[i]? = some ⟨99, n, 0, idx⟩ ∧ HasL vl T [] idx := hh
        have := hasL_len h2
        exact ⟨_, h1, by simp, by simp [this], by simp⟩⟩)
    | [a] => exact .inr (.inr ⟨fun s => by rw [restS] <;> simp, fun vl T i hh => by
        obtain ⟨idx, h1, h2⟩ : ∃ idx, T[i]? = some ⟨99, n, 0, idx⟩ ∧ HasL vl T [a] idx := hh
        have := hasL_len h2
        exact ⟨_, h1, by simp, by simp [this], by simp⟩⟩)
    | [a, b] =>
      by_cases h : n = B [46]
      · exact .inr (.inl ⟨a, b, by rw [h]⟩)
      · exact .inr (.inr ⟨fun s => by rw [restS, if_neg h], fun vl T i hh => by
          obtain ⟨idx, h1, h2⟩ : ∃ idx, T[i]? = some ⟨99, n, 0, idx⟩ ∧ HasL vl T [a, b] idx := hh
          exact ⟨_, h1, by simp, by simp [h], by simp⟩⟩)
    | a :: b :: c :: l => exact .inr (.inr ⟨fun s => by rw [restS] <;> simp, fun vl T i hh => by
        obtain ⟨idx, h1, h2⟩ : ∃ idx, T[i]? = some ⟨99, n, 0, idx⟩ ∧ HasL vl T (a :: b :: c :: l) idx := hh
        have := hasL_len h2
        exact ⟨_, h1, by simp, by simp [this], by simp⟩⟩)

theorem has_lt {vl : List Nat} {T : List Nd} {i : Nat} : ∀ {x : Ex}, Has vl T x i → i < T.length
  | .atom _, h => (List.getElem?_eq_some_iff.1 (show T[i]? = some _ from h)).1
  | .num _, h => (List.getElem?_eq_some_iff.1 (show T[i]? = some _ from h)).1
  | .var _, h => (List.getElem?_eq_some_iff.1 (show T[i]? = some _ from h.2)).1
  | .cmp _ _, h => by
    obtain ⟨idx, h1, _⟩ : ∃ idx, T[i]? = some ⟨99, _, 0, idx⟩ ∧ HasL vl T _ idx := h
    exact (List.getElem?_eq_some_iff.1 h1).1

/-- at the loop's head -/
def ListAt (vl : List Nat) (wb hb : Nat) (V : _root_.Fin 6 → Value) (T : List Nd) (avs : List Value) (cost most : Int) (sv : Value) (w : World) (N : Nat) (full : List UInt8 × List Nat) (g : Nat) (tv ov : Value) (wr : World) : Prop :=
  ∃ a b tt pre seen' sv' cost', tv = .int .i64 (tt : Nat) ∧ Has vl T (.cmp (B [46]) [a, b]) tt ∧ short a ∧ short b ∧ szE b = g ∧ ov = .string (B pre) ∧ WIn wr wb hb V T avs cost' most sv' seen' ∧ WFr wb hb sv sv' w wr ∧
    full.1 = pre ++ ((outS a 0 seen').1 ++ (restS b (outS a 0 seen').2).1) ∧ full.2 = (restS b (outS a 0 seen').2).2 ∧ cost ≤ cost' ∧ cost' + szE a + szE b ≤ cost + N ∧ szE a + szE b ≤ N ∧
    seen'.length + szE a + szE b ≤ 100000 ∧ pre.length + 2100 * (szE a + szE b) ≤ 300000000

theorem ListAt.below {vl : List Nat} {wb hb : Nat} {V : _root_.Fin 6 → Value} {T : List Nd} {avs : List Value} {cost most : Int} {sv : Value} {w : World} {N : Nat} {full : List UInt8 × List Nat} {g : Nat} {tv ov : Value} {wr wr' : World} (h : ListAt vl wb hb V T avs cost most sv w N full g tv ov wr) (hB : Below wr.heap.size wr wr') : ListAt vl wb hb V T avs cost most sv w N full g tv ov wr' := by
  obtain ⟨a, b, tt, pre, seen', sv', cost', h1, h2, h3, h4, h5, h6, h7, h8, h9⟩ := h
  exact ⟨a, b, tt, pre, seen', sv', cost', h1, h2, h3, h4, h5, h6, h7.below hB, h8.trans (WFr.of_below hB), h9⟩

set_option maxRecDepth 100000 in
set_option maxHeartbeats 6000000 in
theorem list_walk {vl : List Nat} {N : Nat} (hA : ∀ x, szE x ≤ N → short x → TextOk vl x) {w : World} {wb hb : Nat} {V : _root_.Fin 6 → Value} {T : List Nd} {avs : List Value} {cost most : Int} {sv : Value} {seen : List Nat} {a b : Ex} {t : Nat} (full : List UInt8 × List Nat)
    (h : WIn w wb hb V T avs cost most sv seen) (hh : Has vl T (.cmp (B [46]) [a, b]) t) (ha : short a) (hb' : short b) (hc0 : 0 ≤ cost) (hN : szE a + szE b ≤ N) (hc : cost + N ≤ most) (hmx : most ≤ 2147483648) (hsm : T.length ≤ 100000) (hsl : seen.length + szE a + szE b ≤ 100000)
    (hf : full = (91 :: ((outS a 0 seen).1 ++ (restS b (outS a 0 seen).2).1), (restS b (outS a 0 seen).2).2)) :
    Calls Tryz.prog 101 #[.pointer (some ⟨wb, 0, none⟩), .int .i64 t] w fun e w' => TextPost wb hb V T avs cost most sv w N full e w' := by
  have hst : ListAt vl wb hb V T avs cost most sv w N full (szE b) (.int .i64 (t : Nat)) (.string (B [91])) w := by
    refine ⟨a, b, t, [91], seen, sv, cost, rfl, hh, ha, hb', rfl, rfl, h, WFr.refl _ _ _ _, by rw [hf]; rfl, by rw [hf], by omega, by omega, by omega, by omega, ?_⟩
    simp; omega
  have HST := hide hst
  have HA := hide hA
  clear hst hA hf
  go_enter Tryz.func101, Tryz.ntmps101
  go_wp2_with fail
  go_loopg [1, 5] (szE b) (fun g tv ov wr => ListAt vl wb hb V T avs cost most sv w N full g tv ov wr)
  case atStart => exact HST.out
  case round =>
    obtain ⟨a1, b1, tt, pre, seen', sv3, cost3, rfl, hh1, ha1, hb1, hg1, rfl, h3, hf3, hfu1, hfu2, hc3, hc3', hN3, hs3, hp3⟩ := hrel
    have HF1 := hide hfu1
    have HF2 := hide hfu2
    have hpa := szE_pos a1
    have hpb := szE_pos b1
    have HTA := hide (HA.out a1 (by omega) ha1)
    have HTB := hide (HA.out b1 (by omega) hb1)
    have hla := (len_ok _ a1 (Nat.le_refl _) ha1).1 0 seen' (by omega)
    have hlb : LenOk b1 := (len_ok _ b1 (Nat.le_refl _) hb1).1
    obtain ⟨idx, hti, hL⟩ : ∃ idx, T[tt]? = some ⟨99, B [46], 0, idx⟩ ∧ HasL vl T [a1, b1] idx := hh1
    obtain ⟨i1, r1, rfl, hi1, hL⟩ : ∃ i r, idx = i :: r ∧ Has vl T a1 i ∧ HasL vl T [b1] r := hL
    obtain ⟨i2, r2, rfl, hi2, hL⟩ : ∃ i r, r1 = i :: r ∧ Has vl T b1 i ∧ HasL vl T [] r := hL
    have hr2 : r2 = [] := hL
    subst hr2
    obtain ⟨ra, hra⟩ : ∃ ra, ra = outS a1 0 seen' := ⟨_, rfl⟩
    rw [← hra] at HF1 HF2 hla
    have HRA := hide hra
    have hsp : (B pre).size ≤ 300000000 := by rw [B_size]; omega
    have hsa : (B ra.1).size ≤ 210000000 := by rw [B_size]; omega
    obtain ⟨ht, hn'⟩ := List.getElem?_eq_some_iff.1 hti
    obtain ⟨g0, p0, g1, p1, g2, p2, g3, p3, aa, m, c, c0, k0, l0, c1, k1, l1, c2, k2, l2, c3, k3, l3, ho, em, hmem, n0, n1, n2, n3⟩ := h3.T.row tt ht
    rw [hn'] at ho em
    have em' : m = 2 := em
    subst em'
    have hnm := avs_nm h3 hmem
    obtain ⟨ga, pa, ea, aam, abm, al, aj, ka1⟩ := own_cell (j := 0) (u := .int .i64 i1) ho (by simp [intsV])
    cases ea
    have HOA := hide ho
    have HMEM := hide hmem
    have HNM := hide hnm
    have w30 := h3.w0
    clear hfu1 hfu2 hL ho hmem hnm k0 k1 k2 hra em hn'
    go_wp2_with fail
    refine (HTA.out _ _ _ _ _ _ _ _ _ _ _ 0 h3 hi1 (by omega) (by omega) hmx hsm (by omega)).mono ?_
    rw [← HRA.out]
    rintro e w4 ⟨sv4, cost4, rfl, h4, hc4, hc4', hf4⟩
    have ho4 := args_keep h3 hf4 HMEM.out HOA.out HNM.out
    obtain ⟨ga', pa', ea', -, -, al4, -, ka4⟩ := own_cell (j := 1) (u := .int .i64 i2) ho4 (by simp [intsV])
    cases ea'
    have w40 := h4.w0
    have hfr4 := hf3.trans hf4
    clear ho4
    go_wp2_with fail
    have hlt2 := has_lt hi2
    go_quiet ((go_at_call 98; exact Calls.quiet_of_same (walk_any (h4.below (below_drewN (Below.refl _ _) _)).T i2 hlt2 hsm)))
    have h5 := h4.below (below_drewN (Below.refl _ _) nq)
    have hf5 := hfr4.trans (WFr.of_below (sv := sv4) (wb := wb) (hb := hb) (below_drewN (Below.refl _ _) nq))
    obtain ⟨y0, q0, y1, q1, y2, q2, y3, q3, bb, m', c', d0, z0, o0, d1, z1, o1, d2, z2, o2, d3, z3, o3, hob, em, hmemb, nb0, nb1, nb2, nb3⟩ := h4.T.row i2 hlt2
    have hb0 := h4.T.H.lt_size
    have hso : (B pre ++ B ra.1).size ≤ 600000000 := by rw [ByteArray.size_append]; omega
    rcases rest_ways b1 with rfl | ⟨a', b', rfl⟩ | ⟨hrest, hnd⟩
    · have hg : T[i2]? = some ⟨97, B [91, 93], 0, []⟩ := hi2
      have hg' := (List.getElem?_eq_some_iff.1 hg).2
      rw [hg'] at z0 z1
      have HE : Hid (full = (pre ++ ra.1 ++ [93], ra.2)) := by
        have e1 := HF1.out
        have e2 := HF2.out
        rw [restS, if_pos rfl] at e1 e2
        unfold Hid
        rw [← List.append_assoc] at e1
        exact Prod.ext e1 e2
      have hz : ((B [91, 93]).toList == [91, 93]) = true := by rw [← B_beq]; simp
      clear hg hg' z2 z3 hob em
      go_wp2_with (first | (go_at_call 88; refine (spent_no h5.T.H (by omega)).mono ?_; rintro e w6 ⟨rfl, nn, rfl⟩; have h6 := h4.below (below_drewN (Below.refl _ _) (nq + nn)); have hf6 := hfr4.trans (WFr.of_below (sv := sv4) (wb := wb) (hb := hb) (below_drewN (Below.refl _ _) (nq + nn))) ))
      go_ret
      rw [HE.out]
      exact ⟨sv4, cost4, ret_str (by rw [← B_append, ← B_append]; rfl), h6, by omega, by omega, hf6⟩
    · obtain ⟨idx, hg, hL⟩ : ∃ idx, T[i2]? = some ⟨99, B [46], 0, idx⟩ ∧ HasL vl T [a', b'] idx := hi2
      have hg' := (List.getElem?_eq_some_iff.1 hg).2
      have hlen := hasL_len hL
      rw [hg'] at z0 z1 em
      have em2 : m' = 2 := em.trans hlen
      subst em2
      have hpa' := szE_pos a'
      have hsz2 : szE (.cmp (B [46]) [a', b']) = 1 + szE a' + szE b' := by simp [szE, szL]; omega
      rw [hsz2] at hg1 hc3' hN3 hs3 hp3 hpb
      have HE : Hid (ListAt vl wb hb V T avs cost most sv w N full (szE b') (.int .i64 (i2 : Nat)) (.string (B pre ++ B ra.1 ++ B [44])) w4) := by
        have e1 := HF1.out
        have e2 := HF2.out
        rw [restS, if_pos rfl] at e1 e2
        refine ⟨a', b', i2, pre ++ ra.1 ++ [44], ra.2, sv4, cost4, rfl, ⟨idx, hg, hL⟩, hb1.2.1, hb1.2.2.1, rfl, by rw [B_append, B_append], h4, hfr4, ?_, e2, by omega, by omega, by omega, by omega, ?_⟩
        · rw [e1]; simp
        · simp; omega
      have hz : ((B [46]).toList == [46]) = true := by rw [← B_beq]; simp
      clear hg hg' z2 hob em hlen hL
      go_wp2_with (first | (go_at_call 88; refine (spent_no h5.T.H (by omega)).mono ?_; rintro e w6 ⟨rfl, nn, rfl⟩; have h6 := h4.below (below_drewN (Below.refl _ _) (nq + nn)); have hf6 := hfr4.trans (WFr.of_below (sv := sv4) (wb := wb) (hb := hb) (below_drewN (Below.refl _ _) (nq + nn))) ))
      go_roundg (szE b')
      case measure => omega
      case rel =>
        exact HE.out.below (below_drewN (Below.refl _ _) (nq + nn))
    · obtain ⟨nd, hg, hq1, hq2, hq3⟩ := hnd vl T i2 hi2
      have hg' := (List.getElem?_eq_some_iff.1 hg).2
      rw [hg'] at z0 z1 em
      have hlb1 := hlb 0 ra.2 (by omega)
      obtain ⟨rb, hrb⟩ : ∃ rb, rb = outS b1 0 ra.2 := ⟨_, rfl⟩
      rw [← hrb] at hlb1
      have hsb : (B rb.1).size ≤ 210000000 := by rw [B_size]; omega
      have HRB := hide hrb
      have HE : Hid (full = (pre ++ ra.1 ++ [124] ++ rb.1 ++ [93], rb.2)) := by
        have e1 := HF1.out
        have e2 := HF2.out
        rw [hrest, ← hrb] at e1 e2
        unfold Hid
        refine Prod.ext ?_ e2
        rw [e1]; simp
      have HQ1 := hide hq1
      have HQ2 := hide hq2
      clear hg hg' z2 hob hq1 hq2 hrb hrest hnd
      have hways : (nd.k = 97 ∧ (nd.nm.toList == [91, 93]) = false) ∨ nd.k = 110 ∨ nd.k = 118 ∨ (nd.k = 99 ∧ (nd.nm.toList == [46]) = false) ∨ (nd.k = 99 ∧ (nd.nm.toList == [46]) = true ∧ ((m' : Int) == 2) = false) := by
        rcases hq3 with e | e | e | e
        · refine .inl ⟨e, ?_⟩
          rw [← B_beq]; simp; exact fun q => HQ1.out ⟨e, q⟩
        · exact .inr (.inl e)
        · exact .inr (.inr (.inl e))
        · by_cases q : nd.nm = B [46]
          · refine .inr (.inr (.inr (.inr ⟨e, by rw [← B_beq]; simp [q], ?_⟩)))
            have : ¬ nd.ags.length = 2 := fun q2 => HQ2.out ⟨e, q, q2⟩
            simp; omega
          · exact .inr (.inr (.inr (.inl ⟨e, by rw [← B_beq]; simp [q]⟩)))
      clear hq3 em
      rcases hways with ⟨e, e'⟩ | e | e | ⟨e, e'⟩ | ⟨e, e', e''⟩
      all_goals
        rw [e] at z0
        clear e
        go_wp2_with (first | (go_at_call 88; refine (spent_no h5.T.H (by omega)).mono ?_; rintro e w6 ⟨rfl, nn, rfl⟩; have h6 := h4.below (below_drewN (Below.refl _ _) (nq + nn)); have hf6 := hfr4.trans (WFr.of_below (sv := sv4) (wb := wb) (hb := hb) (below_drewN (Below.refl _ _) (nq + nn))) ) | (go_at_call 66; refine (HTB.out _ _ _ _ _ _ _ _ _ _ _ 0 h6 hi2 (by omega) (by omega) hmx hsm (by omega)).mono ?_; rw [← HRB.out]; rintro e w7 ⟨sv7, cost7, rfl, h7, hc7, hc7', hf7⟩; have hf7' := hf6.trans hf7))
        go_ret
        rw [HE.out]
        exact ⟨sv7, cost7, ret_str (by rw [← B_append, ← B_append, ← B_append, ← B_append]; rfl), h7, by omega, by omega, hf7'⟩

end Go.Proofs.YtodpkdajbnceoaaGreatDoor

namespace Go.Proofs.YtodpkdajbnceoaaGreatDoor
open Go.RowKit

theorem B_inj {a b : List UInt8} (h : B a = B b) : a = b := by
  have := congrArg (fun x => x.data.toList) h
  simpa [B] using this

theorem pow_dot : powS (B [46]) 2 = 0 := by
  have h (l : List UInt8) (hl : ([46] : List UInt8) ≠ l) : ¬ B [46] = B l := fun e => hl (B_inj e)
  unfold powS
  rw [if_neg (by decide), if_neg (by rintro (e | e) <;> exact h _ (by decide) e), if_neg (by rintro (e | e | e) <;> exact h _ (by decide) e)]

theorem outS_dot (a b : Ex) (least : Int) (s : List Nat) : outS (.cmp (B [46]) [a, b]) least s = (91 :: ((outS a 0 s).1 ++ (restS b (outS a 0 s).2).1), (restS b (outS a 0 s).2).2) := by
  rw [outS, if_neg (by rw [pow_dot]; decide), if_pos rfl]

set_option maxRecDepth 100000 in
set_option maxHeartbeats 2000000 in
theorem text_dot {vl : List Nat} {a b : Ex} (hA : ∀ x, szE x ≤ szE a + szE b → short x → TextOk vl x) (ha : short a) (hb' : short b) : TextOk vl (.cmp (B [46]) [a, b]) := by
  intro w wb hb V T avs cost most sv seen t least h hh hc0 hc hmx hsm hsl
  have HH := hide hh
  obtain ⟨idx, hti, hL⟩ : ∃ idx, T[t]? = some ⟨99, B [46], 0, idx⟩ ∧ HasL vl T [a, b] idx := hh
  have hsz : szE (.cmp (B [46]) [a, b]) = 1 + szE a + szE b := by simp [szE, szL]; omega
  rw [hsz] at hc hsl ⊢
  have hlen := hasL_len hL
  obtain ⟨ht, hn'⟩ := List.getElem?_eq_some_iff.1 hti
  have w0 := h.w0
  have c6 : w.cell? ⟨hb, 6, none⟩ = some (.int .i64 cost) := h.T.H.c 6
  have f6 := h.T.H.fz 6
  have hwz := h.wlt
  have hhz := h.T.H.lt_size
  have hwh : wb ≠ hb := fun e => h.wn (.inl e)
  obtain ⟨h1, hf1⟩ := h.count (cost + 1)
  obtain ⟨g0, p0, g1, p1, g2, p2, g3, p3, aa, m, c, c0, k0, l0, c1, k1, l1, c2, k2, l2, c3, k3, l3, ho, em, hmem, n0, n1, n2, n3⟩ := h.T.row t ht
  rw [hn'] at k0 k1 ho em
  have em' : m = 2 := em.trans hlen
  subst em'
  have HPW : Hid (∀ (w' : World) (sv' : Value) (seen' : List Nat) (cost' : Int), WIn w' wb hb V T avs cost' most sv' seen' → Calls Tryz.prog 100 #[.pointer (some ⟨wb, 0, none⟩), .int .i64 t] w' fun e w'' => e = .returned (.int .i64 0) ∧ w'' = w') := by
    intro w' sv' seen' cost' hw'
    have := power_any hw' t ht hsm (by rw [hn']) (by rw [hn']; simp; rw [hlen]; simp)
    rw [hn'] at this
    simp only [hlen] at this
    have e : powS (B [46]) ([a, b] : List Ex).length = 0 := pow_dot
    rw [e] at this
    exact this
  have HW := hide (fun w2 hw2 => list_walk (w := w2) (wb := wb) (hb := hb) (V := V) (T := T) (avs := avs) (cost := cost + 1) (most := most) (sv := sv) (seen := seen) (t := t) hA (outS (.cmp (B [46]) [a, b]) least seen) hw2 HH.out ha hb' (by omega) (Nat.le_refl _) (by omega) hmx hsm (by omega) (outS_dot a b least seen))
  have hz : ((B [46]).toList == [46]) = true := by rw [← B_beq]; simp
  clear hA em hL k2 ho hmem hn' hlen
  go_enter Tryz.func66, Tryz.ntmps66
  go_wp2_with (first | (go_at_call 88; refine (spent_no h1.T.H (by omega)).mono ?_; rintro e w2 ⟨rfl, nn, rfl⟩; have h2 := h1.below (below_drewN (Below.refl _ _) nn)) | (go_at_call 98; refine (walk_any h2.T t ht hsm).mono ?_; rintro e w3 ⟨rfl, rfl⟩) | (go_at_call 100; refine (HPW.out _ _ _ _ h2).mono ?_; rintro e w3 ⟨rfl, rfl⟩) | (go_at_call 101; refine (HW.out _ h2).mono ?_; rintro e w4 ⟨sv4, cost4, rfl, h4, hc4, hc4', hf4⟩))
  go_ret
  exact ⟨sv4, cost4, rfl, h4, by omega, by omega, (hf1.trans (WFr.of_below (below_drewN (Below.refl _ _) nn))).trans hf4⟩

theorem powS_nonneg (n : ByteArray) (m : Nat) : 0 ≤ powS n m := by unfold powS; repeat' split
                                                                   all_goals omega

theorem short_mem : ∀ {l : List Ex}, shortL l → ∀ x ∈ l, short x
  | y :: l, h, x, hx => by
    rcases List.mem_cons.1 hx with rfl | hx
    · exact h.1
    · exact short_mem h.2 x hx

theorem text_any (vl : List Nat) (hvl : ∀ (k t : Nat), vl[k]? = some t → t = k) : ∀ (m : Nat) (x : Ex), szE x ≤ m → short x → TextOk vl x
  | 0, x, h, _ => by have := szE_pos x; omega
  | m + 1, .atom n, _, hs => by
    intro w wb hb V T avs cost most sv seen t least h hh hc0 hc hmx hsm hsl
    rw [outS]
    exact text_atom least h hh hc0 (by simpa [szE] using hc) hmx hsm
  | m + 1, .num v, _, hs => by
    intro w wb hb V T avs cost most sv seen t least h hh hc0 hc hmx hsm hsl
    rw [outS]
    exact text_num least h hh hs.1 hs.2 hc0 (by simpa [szE] using hc) hmx hsm
  | m + 1, .var k, _, hs => by
    intro w wb hb V T avs cost most sv seen t least h hh hc0 hc hmx hsm hsl
    obtain ⟨h1, h2⟩ : vl[k]? = some t ∧ T[t]? = some varNd := hh
    have := hvl k t h1
    subst this
    rw [outS]
    exact text_var least h h2 hc0 (by simpa [szE] using hc) hmx hsm (by omega)
  | m + 1, .cmp n args, hm, hs => by
    have hsz : szE (.cmp n args) = 1 + szL args := by simp [szE]
    have hall : ∀ x ∈ args, TextOk vl x := fun x hx => text_any vl hvl m x (by have := szL_le_of_mem hx; omega) (short_mem hs.2 x hx)
    have hlen : ∀ x ∈ args, LenOk x := fun x hx => (len_ok _ x (Nat.le_refl _) (short_mem hs.2 x hx)).1
    by_cases hp : 0 < powS n args.length
    · have h2 : args.length = 2 := by
        by_cases e : args.length = 2
        · exact e
        · unfold powS at hp; rw [if_pos e] at hp; omega
      match args, h2, hp, hall, hlen, hs with
      | [a, b], _, hp, hall, hlen, hs => exact text_op (hall a (by simp)) (hall b (by simp)) (hlen a (by simp)) (hlen b (by simp)) hs.1 hp
    · by_cases hd : n = B [46] ∧ args.length = 2
      · obtain ⟨rfl, h2⟩ := hd
        match args, h2, hsz, hs with
        | [a, b], _, hsz, hs => exact text_dot (fun x hx hsx => text_any vl hvl m x (by simp [szL] at hsz; omega) hsx) hs.2.1 hs.2.2.1
      · exact text_row hall hlen hs.1 (by have := powS_nonneg n args.length; omega) hd

end Go.Proofs.YtodpkdajbnceoaaGreatDoor
