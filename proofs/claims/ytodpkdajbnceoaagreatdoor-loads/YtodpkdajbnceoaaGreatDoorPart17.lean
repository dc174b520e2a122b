import Derived.Test.YtodpkdajbnceoaaGreatDoorPart16
set_option linter.unusedVariables false
set_option linter.unusedSimpArgs false
namespace Go.Proofs.YtodpkdajbnceoaaGreatDoor
open Go.RowKit

/-! Lists in brackets, names with arguments. -/

theorem list_c (w : World) (Ok : Nat → Prop) (vbs : List Nat) (exs : List Ex) (r : Ex) (us : List Value) (v u : Value) (n0 : Nat) (hL : TRepL w Ok vbs exs us) (hr : TRep w Ok vbs r u) (hown : w.ownsRow n0 185 1 v exs.length us) (hsm : exs.length ≤ 3000) (hok : ∀ b, w.heap.size ≤ b → Ok b) :
    Calls Tryz.prog 333 #[v, u] w fun e W' => ∃ u', e = .returned u' ∧ Below w.heap.size w W' ∧ TRep W' Ok vbs (exs.foldr cellEx r) u' :=
  (callsIn_wide (n := 3)).1 (list_in _ 3 trivial trivial trivial rfl (by omega) w Ok vbs exs r us v u n0 hL hr hown hsm hok)

theorem stepI_sign {toks : List Tok} (ht : TTs toks) {i : Nat} {s : List UInt8} (hs : s ≠ []) (h : (tk toks i).t = B s) : stepI toks i = i + 1 := by
  unfold stepI
  rw [if_neg]
  intro e
  have h1 := (ht i).e e
  rw [h1] at h
  exact hs ((str_eq_iff _ _).1 h).symm

theorem RPost.after {toks : List Tok} {bp : Nat} {lv vv vv1 : Value} {d : Int} {vbs vbs1 : List Nat} {w w1 w' : World} {r : R Ex} {e : Ending} (h : RPost toks bp lv vv1 d vbs1 w1 r e w') (hf : Fr bp vv vv1 w w1) (hv : vbs <+: vbs1) : RPost toks bp lv vv d vbs w r e w' := by
  unfold RPost at *
  cases r with
  | error p => exact RFault.after h hf
  | ok p =>
    obtain ⟨u, vv', vbs', h1, h2, h3, h4, h5⟩ := h
    exact ⟨u, vv', vbs', h1, h2.mono (fun b hb _ => Nat.le_trans hf.size hb), h3, hv.trans h4, hf.trans h5⟩

set_option maxRecDepth 100000 in
set_option maxHeartbeats 2000000 in
theorem brackets_c {toks : List Tok} {d : Int} (hg : GoodToks toks) (ht : TTs toks) (ex : St → R Ex) (hpo : PartOk toks ex) (HP : RReads 139 toks d ex)
    (w : World) (bp : Nat) (lv vv : Value) (st : St) (vbs : List Nat) (h : RIn w bp toks lv vv st.1 d st.2 vbs) :
    Calls Tryz.prog 279 #[ptrV bp] w fun e w' => RPost toks bp lv vv d vbs w (listOf toks ex st) e w' := by
  have HT := hide (takes_c h hg ht (B [93]))
  have hisT := (ht st.1).isT (s := [93]) (by unfold SignLike; decide)
  have hsm := hg.small
  have hlt := h.lt
  by_cases hq : (tk toks st.1).t = B [93]
  · have HR : Hid (listOf toks ex st = .ok (nilEx, (st.1 + 1, st.2))) := by unfold Hid listOf; rw [hisT, decide_eq_true hq, if_pos rfl]
    rw [if_pos hq, decide_eq_true hq, stepI_sign ht (by decide) hq] at HT
    clear hq hisT
    unfold ptrV at *
    go_enter Tryz.func279, Tryz.ntmps279
    go_wp2_with (first | (go_at_call 201; refine HT.out.mono ?_; rintro e w1 ⟨rfl, m1, m2⟩))
    go_ret
    exact .okI HR.out (.atom _) m1 (List.prefix_refl _) m2
  · rw [if_neg hq, decide_eq_false hq] at HT
    have hlo : listOf toks ex st = match rowOf toks ex (toks.length + 1) [] st with
      | .error e => .error e
      | .ok (l, st1) =>
        if isT (tk toks st1.1) [124] then
          match ex (st1.1 + 1, st1.2) with
          | .error e => .error e
          | .ok (r, st2) => mustT toks [93] (l.foldr cellEx r) st2
        else mustT toks [93] (l.foldr cellEx nilEx) st1 := by
      unfold listOf; rw [hisT, decide_eq_false hq, if_neg (by simp)]
      rfl
    rw [hlo]
    have HRow := hide (fun w1 (h1 : RIn w1 bp toks lv vv st.1 d st.2 vbs) => row_c hg ht ex hpo HP w1 bp lv vv st vbs h1)
    clear hq hisT hlo
    cases hrw : rowOf toks ex (toks.length + 1) [] st with
    | error p =>
      obtain ⟨er, a⟩ := p
      rw [hrw] at HRow
      have HRow' : Hid (∀ w1, RIn w1 bp toks lv vv st.1 d st.2 vbs → Calls Tryz.prog 332 #[ptrV bp] w1 fun e w' => RFault er a bp lv vv d w1 e w') := HRow.out
      clear HRow hrw
      unfold ptrV at *
      go_enter Tryz.func279, Tryz.ntmps279
      go_wp2_with (first | (go_at_call 201; refine HT.out.mono ?_; rintro e w1 ⟨rfl, m1, m2⟩) | (go_at_call 332; refine (HRow'.out _ m1).mono ?_; rintro e w3 hF; have hF' := hF; obtain ⟨g, vv', i', h1, rfl, h3⟩ := hF))
      exact ⟨rfl, hF'.after m2⟩
    | ok p =>
      obtain ⟨l, st1⟩ := p
      rw [hrw] at HRow
      have HRow' : Hid (∀ w1, RIn w1 bp toks lv vv st.1 d st.2 vbs → Calls Tryz.prog 332 #[ptrV bp] w1 fun e w' => ∃ (v vv' : Value) (vbs' : List Nat) (us : List Value), e = .returned v ∧ w'.ownsRow w1.heap.size 185 1 v l.length us ∧ TRepL w' (fun b => w1.heap.size ≤ b ∧ v.ownBlock ≠ some b) vbs' l us ∧
        RIn w' bp toks lv vv' st1.1 d st1.2 vbs' ∧ vbs <+: vbs' ∧ Fr bp vv vv' w1 w') := HRow.out
      have hgl := row_got hpo (toks.length + 1) [] st st l st1 ⟨by simp [szL], by omega, by simp [shortL], ⟨[], by simp⟩, by simp [varsInL]⟩ hrw
      clear HRow hrw
      have HT2 := hide (fun (w' : World) (vv' : Value) (vbs' : List Nat) (h' : RIn w' bp toks lv vv' st1.1 d st1.2 vbs') => takes_c h' hg ht (B [124]))
      have hisT2 := (ht st1.1).isT (s := [124]) (by unfold SignLike; decide)
      have HM := hide (fun (w' : World) (vv' : Value) (i : Nat) (vars : List ByteArray) (vbs' : List Nat) (h' : RIn w' bp toks lv vv' i d vars vbs') => must_c h' hg ht (B [93]))
      have HLs := hide list_c
      have hl3 : l.length ≤ 3000 := by have := hgl.size; have := hgl.le; omega
      show Calls Tryz.prog 279 #[ptrV bp] w fun e w' => RPost toks bp lv vv d vbs w (if isT (tk toks st1.1) [124] then (match ex (st1.1 + 1, st1.2) with | .error e => .error e | .ok (r, st2) => mustT toks [93] (l.foldr cellEx r) st2) else mustT toks [93] (l.foldr cellEx nilEx) st1) e w'
      rw [hisT2]
      by_cases hq2 : (tk toks st1.1).t = B [124]
      · rw [decide_eq_true hq2, if_pos rfl]
        rw [if_pos hq2, decide_eq_true hq2, stepI_sign ht (by decide) hq2] at HT2
        clear hq2 hisT2
        have HPx := hide (fun (w' : World) (vv' : Value) (vbs' : List Nat) (h' : RIn w' bp toks lv vv' (st1.1 + 1) d st1.2 vbs') => HP w' bp lv vv' (st1.1 + 1, st1.2) vbs' h')
        cases hex : ex (st1.1 + 1, st1.2) with
        | error p =>
          obtain ⟨er, a⟩ := p
          rw [hex] at HPx
          have HPx' : Hid (∀ (w' : World) (vv' : Value) (vbs' : List Nat), RIn w' bp toks lv vv' (st1.1 + 1) d st1.2 vbs' → Calls Tryz.prog 139 #[ptrV bp] w' fun e w'' => RFault er a bp lv vv' d w' e w'') := HPx.out
          clear HPx hex
          unfold ptrV at *
          go_enter Tryz.func279, Tryz.ntmps279
          go_wp2_with (first | (go_at_call 201; refine HT.out.mono ?_; clear HT; rintro e w1 ⟨rfl, m1, m2⟩) | (go_at_call 332; refine (HRow'.out _ m1).mono ?_; rintro e w2 ⟨v, vv2, vbs2, us, rfl, q1, q2, q3, q4, q5⟩; obtain ⟨ao, cp, hvf⟩ := row_form q1; subst hvf) | (go_at_call 201; refine (HT2.out _ _ _ q3).mono ?_; rintro e w3 ⟨rfl, p1, p2⟩) | (go_at_call 139; refine (HPx'.out _ _ _ p1).mono ?_; rintro e w4 hF; have hF' := hF; obtain ⟨g, vv', i', h1, rfl, h3⟩ := hF))
          exact ⟨rfl, hF'.after (m2.trans (q5.trans p2))⟩
        | ok p =>
          obtain ⟨r, st2⟩ := p
          rw [hex] at HPx
          have HPx' : Hid (∀ (w' : World) (vv' : Value) (vbs' : List Nat), RIn w' bp toks lv vv' (st1.1 + 1) d st1.2 vbs' → Calls Tryz.prog 139 #[ptrV bp] w' fun e w'' => ∃ (u vv3 : Value) (vbs3 : List Nat), e = .returned u ∧ TRep w'' (fun b => w'.heap.size ≤ b) vbs3 r u ∧ RIn w'' bp toks lv vv3 st2.1 d st2.2 vbs3 ∧ vbs' <+: vbs3 ∧ Fr bp vv' vv3 w' w'') := HPx.out
          clear HPx hex
          have hisT3 := (ht st2.1).isT (s := [93]) (by unfold SignLike; decide)
          have hmu : (mustT toks [93] (l.foldr cellEx r) st2) = if isT (tk toks st2.1) [93] then .ok (l.foldr cellEx r, (st2.1 + 1, st2.2)) else .error (2, (tk toks st2.1).a) := rfl
          rw [hisT3] at hmu
          by_cases hq3 : (tk toks st2.1).t = B [93]
          · have HR : Hid (mustT toks [93] (l.foldr cellEx r) st2 = .ok (l.foldr cellEx r, (st2.1 + 1, st2.2))) := by rw [Hid, hmu, decide_eq_true hq3, if_pos rfl]
            have HM' : Hid (∀ (w' : World) (vv' : Value) (vbs' : List Nat), RIn w' bp toks lv vv' st2.1 d st2.2 vbs' → Calls Tryz.prog 159 #[ptrV bp, .string (B [93])] w' fun e w'' => e = .returned (.tuple #[]) ∧ RIn w'' bp toks lv vv' (st2.1 + 1) d st2.2 vbs' ∧ Fr bp vv' vv' w' w'') := fun w' vv' vbs' h' => (HM.out w' vv' _ _ vbs' h').mono fun e w'' h => by have := h.1 hq3; rwa [stepI_sign ht (by decide) hq3] at this
            clear HM hmu hisT3 hq3
            obtain ⟨X, hX⟩ : ∃ X, X = l.foldr cellEx r := ⟨_, rfl⟩
            unfold ptrV at *
            go_enter Tryz.func279, Tryz.ntmps279
            go_wp2_with (first | (go_at_call 201; refine HT.out.mono ?_; clear HT; rintro e w1 ⟨rfl, m1, m2⟩) | (go_at_call 332; refine (HRow'.out _ m1).mono ?_; rintro e w2 ⟨v, vv2, vbs2, us, rfl, q1, q2, q3, q4, q5⟩; obtain ⟨ao, cp, hvf⟩ := row_form q1; subst hvf) | (go_at_call 201; refine (HT2.out _ _ _ q3).mono ?_; rintro e w3 ⟨rfl, p1, p2⟩) | (go_at_call 139; refine (HPx'.out _ _ _ p1).mono ?_; rintro e w4 ⟨u4, vv4, vbs4, rfl, r1, r2, r3, r4⟩; obtain ⟨tu4, vu4, hu4, _⟩ := r1.form; subst hu4) | (go_at_call 159; refine (HM'.out _ _ _ r2).mono ?_; rintro e w5 ⟨rfl, s1, s2⟩; have hK := q3.tkeeps (Ok := fun _ => True) (p2.trans (r4.trans s2)); have hw := (m2.trans (q5.trans (p2.trans (r4.trans s2)))).size; have hw1 := m2.size; have hw3 := (m2.trans (q5.trans p2)).size; have HL5 : Hid (TRepL w5 (fun b => w.heap.size ≤ b) vbs4 l us) := q2.frame (q3.tkeeps (p2.trans (r4.trans s2))) (fun b hb _ => Nat.le_trans hw1 hb.1) r3; have HR5 : Hid (TRep w5 (fun b => w.heap.size ≤ b) vbs4 r (.iface tu4 vu4)) := r1.frame (r2.tkeeps s2) (fun b hb _ => Nat.le_trans hw3 hb) (List.prefix_refl _); have HO5 := hide (own_tk q1 hK)) | (go_at_call 333; refine (HLs.out _ _ _ _ _ _ _ _ _ HL5.out HR5.out HO5.out hl3 (fun b hb => Nat.le_trans hw hb)).mono ?_; rintro e w6 ⟨u6, rfl, t1, t2⟩))
            go_ret
            exact .okI HR.out t2 (s1.below t1) (q4.trans r3) ((m2.trans (q5.trans (p2.trans (r4.trans s2)))).trans (Fr.of_below t1))
          · have HR : Hid (mustT toks [93] (l.foldr cellEx r) st2 = .error (2, (tk toks st2.1).a)) := by rw [Hid, hmu, decide_eq_false hq3, if_neg (by simp)]
            have HM' : Hid (∀ (w' : World) (vv' : Value) (vbs' : List Nat), RIn w' bp toks lv vv' st2.1 d st2.2 vbs' → Calls Tryz.prog 159 #[ptrV bp, .string (B [93])] w' fun e w'' => RFault 2 (tk toks st2.1).a bp lv vv' d w' e w'') := fun w' vv' vbs' h' => (HM.out w' vv' _ _ vbs' h').mono fun e w'' h => h.2 hq3
            clear HM hmu hisT3 hq3
            unfold ptrV at *
            go_enter Tryz.func279, Tryz.ntmps279
            go_wp2_with (first | (go_at_call 201; refine HT.out.mono ?_; clear HT; rintro e w1 ⟨rfl, m1, m2⟩) | (go_at_call 332; refine (HRow'.out _ m1).mono ?_; rintro e w2 ⟨v, vv2, vbs2, us, rfl, q1, q2, q3, q4, q5⟩; obtain ⟨ao, cp, hvf⟩ := row_form q1; subst hvf) | (go_at_call 201; refine (HT2.out _ _ _ q3).mono ?_; rintro e w3 ⟨rfl, p1, p2⟩) | (go_at_call 139; refine (HPx'.out _ _ _ p1).mono ?_; rintro e w4 ⟨u4, vv4, vbs4, rfl, r1, r2, r3, r4⟩; obtain ⟨tu4, vu4, hu4, _⟩ := r1.form; subst hu4) | (go_at_call 159; refine (HM'.out _ _ _ r2).mono ?_; rintro e w5 hF; have hF' := hF; obtain ⟨g, vv', i', h1, rfl, h3⟩ := hF))
            exact ⟨rfl, .errI HR.out (hF'.after (m2.trans (q5.trans (p2.trans r4))))⟩
      · rw [decide_eq_false hq2, if_neg (by simp)]
        rw [if_neg hq2, decide_eq_false hq2] at HT2
        clear hq2 hisT2
        have hisT3 := (ht st1.1).isT (s := [93]) (by unfold SignLike; decide)
        have hmu : (mustT toks [93] (l.foldr cellEx nilEx) st1) = if isT (tk toks st1.1) [93] then .ok (l.foldr cellEx nilEx, (st1.1 + 1, st1.2)) else .error (2, (tk toks st1.1).a) := rfl
        rw [hisT3] at hmu
        by_cases hq3 : (tk toks st1.1).t = B [93]
        · have HR : Hid (mustT toks [93] (l.foldr cellEx nilEx) st1 = .ok (l.foldr cellEx nilEx, (st1.1 + 1, st1.2))) := by rw [Hid, hmu, decide_eq_true hq3, if_pos rfl]
          have HM' : Hid (∀ (w' : World) (vv' : Value) (vbs' : List Nat), RIn w' bp toks lv vv' st1.1 d st1.2 vbs' → Calls Tryz.prog 159 #[ptrV bp, .string (B [93])] w' fun e w'' => e = .returned (.tuple #[]) ∧ RIn w'' bp toks lv vv' (st1.1 + 1) d st1.2 vbs' ∧ Fr bp vv' vv' w' w'') := fun w' vv' vbs' h' => (HM.out w' vv' _ _ vbs' h').mono fun e w'' h => by have := h.1 hq3; rwa [stepI_sign ht (by decide) hq3] at this
          clear HM hmu hisT3 hq3
          unfold ptrV at *
          go_enter Tryz.func279, Tryz.ntmps279
          go_wp2_with (first | (go_at_call 201; refine HT.out.mono ?_; clear HT; rintro e w1 ⟨rfl, m1, m2⟩) | (go_at_call 332; refine (HRow'.out _ m1).mono ?_; rintro e w2 ⟨v, vv2, vbs2, us, rfl, q1, q2, q3, q4, q5⟩; obtain ⟨ao, cp, hvf⟩ := row_form q1; subst hvf) | (go_at_call 201; refine (HT2.out _ _ _ q3).mono ?_; rintro e w3 ⟨rfl, p1, p2⟩) | (go_at_call 159; refine (HM'.out _ _ _ p1).mono ?_; rintro e w5 ⟨rfl, s1, s2⟩; have hK := q3.tkeeps (Ok := fun _ => True) (p2.trans s2); have hw := (m2.trans (q5.trans (p2.trans s2))).size; have hw1 := m2.size; have HL5 : Hid (TRepL w5 (fun b => w.heap.size ≤ b) vbs2 l us) := q2.frame (q3.tkeeps (p2.trans s2)) (fun b hb _ => Nat.le_trans hw1 hb.1) (List.prefix_refl _); have HO5 := hide (own_tk q1 hK)) | (go_at_call 333; refine (HLs.out _ _ _ _ nilEx _ _ _ _ HL5.out (.atom _) HO5.out hl3 (fun b hb => Nat.le_trans hw hb)).mono ?_; rintro e w6 ⟨u6, rfl, t1, t2⟩))
          go_ret
          exact .okI HR.out t2 (s1.below t1) q4 ((m2.trans (q5.trans (p2.trans s2))).trans (Fr.of_below t1))
        · have HR : Hid (mustT toks [93] (l.foldr cellEx nilEx) st1 = .error (2, (tk toks st1.1).a)) := by rw [Hid, hmu, decide_eq_false hq3, if_neg (by simp)]
          have HM' : Hid (∀ (w' : World) (vv' : Value) (vbs' : List Nat), RIn w' bp toks lv vv' st1.1 d st1.2 vbs' → Calls Tryz.prog 159 #[ptrV bp, .string (B [93])] w' fun e w'' => RFault 2 (tk toks st1.1).a bp lv vv' d w' e w'') := fun w' vv' vbs' h' => (HM.out w' vv' _ _ vbs' h').mono fun e w'' h => h.2 hq3
          clear HM hmu hisT3 hq3
          unfold ptrV at *
          go_enter Tryz.func279, Tryz.ntmps279
          go_wp2_with (first | (go_at_call 201; refine HT.out.mono ?_; clear HT; rintro e w1 ⟨rfl, m1, m2⟩) | (go_at_call 332; refine (HRow'.out _ m1).mono ?_; rintro e w2 ⟨v, vv2, vbs2, us, rfl, q1, q2, q3, q4, q5⟩; obtain ⟨ao, cp, hvf⟩ := row_form q1; subst hvf) | (go_at_call 201; refine (HT2.out _ _ _ q3).mono ?_; rintro e w3 ⟨rfl, p1, p2⟩) | (go_at_call 159; refine (HM'.out _ _ _ p1).mono ?_; rintro e w5 hF; have hF' := hF; obtain ⟨g, vv', i', h1, rfl, h3⟩ := hF))
          exact ⟨rfl, .errI HR.out (hF'.after (m2.trans (q5.trans p2)))⟩

end Go.Proofs.YtodpkdajbnceoaaGreatDoor

namespace Go.Proofs.YtodpkdajbnceoaaGreatDoor
open Go.RowKit

/-! Names with arguments. -/

theorem rowOf_len {toks : List Tok} {ex : St → R Ex} : ∀ (f : Nat) (acc : List Ex) (st : St) (l : List Ex) (st' : St), rowOf toks ex f acc st = .ok (l, st') → acc.length ≤ l.length ∧ (0 < f → acc.length < l.length)
  | 0, acc, st, l, st', h => by rw [rowOf] at h; cases h; exact ⟨Nat.le_refl _, fun h => absurd h (by omega)⟩
  | f + 1, acc, st, l, st', h => by
    rw [rowOf] at h
    split at h
    · cases h
    · split at h
      · have := (rowOf_len f _ _ _ _ h).1
        simp at this
        exact ⟨by omega, fun _ => by omega⟩
      · cases h
        simp

def namedOf (toks : List Tok) (ex : St → R Ex) (st : St) : R Ex :=
  if isT (tk toks (st.1 + 1)) [40] then
    match argsOf toks ex (tk toks st.1).a (st.1 + 2, st.2) with
    | .error e => .error e
    | .ok (l, st') => mustT toks [41] (.cmp (tk toks st.1).t l) st'
  else .ok (.atom (tk toks st.1).t, (st.1 + 1, st.2))

theorem TRep.made {w : World} {Ok : Nat → Prop} {vbs : List Nat} {l : List Ex} {us : List Value} {n0 cp : Nat} {ao : Option Addr} (n : ByteArray) (hL : TRepL w Ok vbs l us) (hown : w.ownsRow n0 185 1 (.slice ao l.length cp) l.length us) (h0 : 0 < l.length) (hok : ∀ b, n0 ≤ b → Ok b) :
    TRep (w.alloc (.cells #[.string n, .slice ao l.length cp, .slice none 0 0, .map none] 399)) Ok vbs (.cmp n l) (.iface 342 (ptrV w.heap.size)) := by
  rcases hown.2 with ⟨_, hz⟩ | ⟨g, cap, cur, e, r1, r2, r3, r4, r5, r6⟩
  · omega
  · cases e
    have hB : Below w.heap.size w (w.alloc (.cells #[.string n, .slice (some ⟨g, 0, none⟩) l.length cp, .slice none 0 0, .map none] 399)) := (Below.refl _ _).alloc (Nat.le_refl _) _
    refine .cmp n l w.heap.size g cp cur us (heap_alloc_new w _) (hok g r1) (by rw [hB.block g (Array.getElem?_eq_some_iff.1 r2).1]; exact r2) r3 r4 (by omega) (by simpa using r6) (hL.frame (tkeeps_below hB) (fun _ h _ => h) (List.prefix_refl _)) h0

/-- a token that a call keeps in a block of its own -/
theorem tokBox {w1 : World} {bp : Nat} {toks : List Tok} {lv vv : Value} {i : Nat} {d : Int} {vars : List ByteArray} {vbs : List Nat} (h : RIn w1 bp toks lv vv i d vars vbs) (t : Tok) :
    ∀ (vv' : Value) (W : World), Fr bp vv vv' (w1.alloc (.cells #[.int .i64 (kC t.k), .string t.t, .int .i64 t.a] 298)) W → W.cell? ⟨w1.heap.size, 1, none⟩ = some (.string t.t) ∧ W.cell? ⟨w1.heap.size, 2, none⟩ = some (.int .i64 t.a) := by
  intro vv' W hF
  have h1 : w1.heap.size ≠ bp := fun e => by have := h.lt_size; omega
  have h2 : vv.ownBlock ≠ some w1.heap.size := fun e => by have := h.blt _ (.inr (.inr (.inl e))); omega
  exact ⟨hF.cell (by rw [cell_of_block (heap_alloc_new w1 _)]; rfl) h1 h2, hF.cell (by rw [cell_of_block (heap_alloc_new w1 _)]; rfl) h1 h2⟩

set_option maxRecDepth 100000 in
set_option maxHeartbeats 2000000 in
theorem named_c {toks : List Tok} {d : Int} (hg : GoodToks toks) (ht : TTs toks) (ex : St → R Ex) (hpo : PartOk toks ex) (HP : RReads 139 toks d ex)
    (w : World) (bp : Nat) (lv vv : Value) (st : St) (vbs : List Nat) (h : RIn w bp toks lv vv st.1 d st.2 vbs) (hk : (tk toks st.1).k = 97) :
    Calls Tryz.prog 278 #[ptrV bp] w fun e w' => RPost toks bp lv vv d vbs w (namedOf toks ex st) e w' := by
  have HT := hide (take_c h hg ht)
  have hst : stepI toks st.1 = st.1 + 1 := by unfold stepI; rw [if_neg (by rw [hk]; decide)]
  rw [hst] at HT
  have HT2 := hide (fun (w' : World) (h' : RIn w' bp toks lv vv (st.1 + 1) d st.2 vbs) => takes_c h' hg ht (B [40]))
  have hisT := (ht (st.1 + 1)).isT (s := [40]) (by unfold SignLike; decide)
  have HF := hide newFault_c
  have ff0 := tok_f0
  have ff1 := tok_f1
  have ff2 := tok_f2
  have hsm := hg.small
  obtain ⟨t, hT⟩ : ∃ t, t = tk toks st.1 := ⟨_, rfl⟩
  have hno : namedOf toks ex st = if decide ((tk toks (st.1 + 1)).t = B [40]) then
    match argsOf toks ex t.a (st.1 + 2, st.2) with
    | .error e => .error e
    | .ok (l, st') => mustT toks [41] (.cmp t.t l) st'
    else .ok (.atom t.t, (st.1 + 1, st.2)) := by unfold namedOf; rw [hisT, hT]
  rw [hno]
  rw [← hT] at HT
  clear hno hT hst hisT hk
  unfold tokVC at HT
  by_cases hq : (tk toks (st.1 + 1)).t = B [40]
  · rw [decide_eq_true hq, if_pos rfl]
    rw [if_pos hq, decide_eq_true hq, stepI_sign ht (by decide) hq] at HT2
    clear hq
    obtain ⟨total, htot⟩ : ∃ total : R Ex, total = (match argsOf toks ex t.a (st.1 + 2, st.2) with
      | .error e => .error e
      | .ok (l, st') => mustT toks [41] (.cmp t.t l) st') := ⟨_, rfl⟩
    rw [← htot]
    have HRow := hide (fun w1 (h1 : RIn w1 bp toks lv vv (st.1 + 1 + 1) d st.2 vbs) => row_c hg ht ex hpo HP w1 bp lv vv (st.1 + 2, st.2) vbs h1)
    cases hrw : rowOf toks ex (toks.length + 1) [] (st.1 + 2, st.2) with
    | error p =>
      obtain ⟨er, a⟩ := p
      have HR : Hid (total = .error (er, a)) := by rw [Hid, htot]; unfold argsOf; rw [hrw]
      clear htot
      rw [hrw] at HRow
      have HRow' : Hid (∀ w1, RIn w1 bp toks lv vv (st.1 + 1 + 1) d st.2 vbs → Calls Tryz.prog 332 #[ptrV bp] w1 fun e w' => RFault er a bp lv vv d w1 e w') := HRow.out
      clear HRow hrw
      unfold ptrV at *
      go_enter Tryz.func278, Tryz.ntmps278
      go_wp2_with (first | (go_at_call 225; refine HT.out.mono ?_; rintro e w1 ⟨rfl, m1, m2⟩; have hbb := tokBox m1 t) | (go_at_call 201; refine (HT2.out _ (m1.alloc _)).mono ?_; rintro e w2 ⟨rfl, p1, p2⟩) | (go_at_call 332; refine (HRow'.out _ p1).mono ?_; rintro e w3 hF; have hF' := hF; obtain ⟨g, vv', i', h1, rfl, h3⟩ := hF))
      exact ⟨rfl, .errI HR.out (hF'.after ((m2.alloc _).trans p2))⟩
    | ok p =>
      obtain ⟨l, st1⟩ := p
      have hl0 : 0 < l.length := (rowOf_len _ _ _ _ _ hrw).2 (by omega)
      rw [hrw] at HRow
      have HRow' : Hid (∀ w1, RIn w1 bp toks lv vv (st.1 + 1 + 1) d st.2 vbs → Calls Tryz.prog 332 #[ptrV bp] w1 fun e w' => ∃ (v vv' : Value) (vbs' : List Nat) (us : List Value), e = .returned v ∧ w'.ownsRow w1.heap.size 185 1 v l.length us ∧ TRepL w' (fun b => w1.heap.size ≤ b ∧ v.ownBlock ≠ some b) vbs' l us ∧
        RIn w' bp toks lv vv' st1.1 d st1.2 vbs' ∧ vbs <+: vbs' ∧ Fr bp vv vv' w1 w') := HRow.out
      by_cases h4 : 4 < l.length
      · have HR : Hid (total = .error (4, t.a)) := by rw [Hid, htot]; unfold argsOf; rw [hrw]; simp only [if_pos h4]
        clear HRow hrw htot
        unfold ptrV at *
        go_enter Tryz.func278, Tryz.ntmps278
        go_wp2_with (first | (go_at_call 225; refine HT.out.mono ?_; rintro e w1 ⟨rfl, m1, m2⟩; have hbb := tokBox m1 t) | (go_at_call 201; refine (HT2.out _ (m1.alloc _)).mono ?_; rintro e w2 ⟨rfl, p1, p2⟩) | (go_at_call 332; refine (HRow'.out _ p1).mono ?_; rintro e w3 ⟨v, vv3, vbs3, us, rfl, q1, q2, q3, q4, q5⟩; obtain ⟨ao, cp, hvf⟩ := row_form q1; subst hvf; obtain ⟨bx1, bx2⟩ := hbb vv3 w3 (p2.trans q5)) | (go_at_call 154; refine (HF.out _ _ _).mono ?_; rintro e w4 ⟨g, hg2, rfl, hcell, hB⟩))
        exact ⟨rfl, .errI HR.out ((q3.faulted hg2 hcell hB).after ((m2.alloc _).trans (p2.trans q5)))⟩
      · have hisT3 := (ht st1.1).isT (s := [41]) (by unfold SignLike; decide)
        have hmu : total = if isT (tk toks st1.1) [41] then .ok (.cmp t.t l, (st1.1 + 1, st1.2)) else .error (2, (tk toks st1.1).a) := by rw [htot]; unfold argsOf; rw [hrw]; simp only [if_neg h4]; rfl
        rw [hisT3] at hmu
        clear htot
        have HM := hide (fun (w' : World) (vv' : Value) (vbs' : List Nat) (h' : RIn w' bp toks lv vv' st1.1 d st1.2 vbs') => must_c h' hg ht (B [41]))
        by_cases hq3 : (tk toks st1.1).t = B [41]
        · have HR : Hid (total = .ok (.cmp t.t l, (st1.1 + 1, st1.2))) := hmu.trans (by rw [decide_eq_true hq3, if_pos rfl])
          have HM' : Hid (∀ (w' : World) (vv' : Value) (vbs' : List Nat), RIn w' bp toks lv vv' st1.1 d st1.2 vbs' → Calls Tryz.prog 159 #[ptrV bp, .string (B [41])] w' fun e w'' => e = .returned (.tuple #[]) ∧ RIn w'' bp toks lv vv' (st1.1 + 1) d st1.2 vbs' ∧ Fr bp vv' vv' w' w'') := fun w' vv' vbs' h' => (HM.out w' vv' vbs' h').mono fun e w'' h => by have := h.1 hq3; rwa [stepI_sign ht (by decide) hq3] at this
          clear HM hmu hisT3 hq3 HRow hrw
          unfold ptrV at *
          go_enter Tryz.func278, Tryz.ntmps278
          go_wp2_with (first | (go_at_call 225; refine HT.out.mono ?_; rintro e w1 ⟨rfl, m1, m2⟩; have hbb := tokBox m1 t) | (go_at_call 201; refine (HT2.out _ (m1.alloc _)).mono ?_; rintro e w2 ⟨rfl, p1, p2⟩) | (go_at_call 332; refine (HRow'.out _ p1).mono ?_; rintro e w3 ⟨v, vv3, vbs3, us, rfl, q1, q2, q3, q4, q5⟩; obtain ⟨ao, cp, hvf⟩ := row_form q1; subst hvf) | (go_at_call 159; refine (HM'.out _ _ _ q3).mono ?_; rintro e w5 ⟨rfl, s1, s2⟩; obtain ⟨bx1, bx2⟩ := hbb vv3 w5 (p2.trans (q5.trans s2))))
          go_ret
          have hw2 := ((m2.alloc _).trans p2).size
          have hK := q3.tkeeps (Ok := fun _ => True) s2
          have hL5 : TRepL w5 (fun b => w.heap.size ≤ b) vbs3 l us := q2.frame (q3.tkeeps s2) (fun b hb _ => Nat.le_trans hw2 hb.1) (List.prefix_refl _)
          exact .okI HR.out (TRep.made t.t hL5 (own_tk q1 hK) hl0 (fun b hb => Nat.le_trans hw2 hb)) (s1.alloc _) q4 (((m2.alloc _).trans (p2.trans (q5.trans s2))).alloc _)
        · have HR : Hid (total = .error (2, (tk toks st1.1).a)) := hmu.trans (by rw [decide_eq_false hq3, if_neg (by simp)])
          have HM' : Hid (∀ (w' : World) (vv' : Value) (vbs' : List Nat), RIn w' bp toks lv vv' st1.1 d st1.2 vbs' → Calls Tryz.prog 159 #[ptrV bp, .string (B [41])] w' fun e w'' => RFault 2 (tk toks st1.1).a bp lv vv' d w' e w'') := fun w' vv' vbs' h' => (HM.out w' vv' vbs' h').mono fun e w'' h => h.2 hq3
          clear HM hmu hisT3 hq3 HRow hrw
          unfold ptrV at *
          go_enter Tryz.func278, Tryz.ntmps278
          go_wp2_with (first | (go_at_call 225; refine HT.out.mono ?_; rintro e w1 ⟨rfl, m1, m2⟩; have hbb := tokBox m1 t) | (go_at_call 201; refine (HT2.out _ (m1.alloc _)).mono ?_; rintro e w2 ⟨rfl, p1, p2⟩) | (go_at_call 332; refine (HRow'.out _ p1).mono ?_; rintro e w3 ⟨v, vv3, vbs3, us, rfl, q1, q2, q3, q4, q5⟩; obtain ⟨ao, cp, hvf⟩ := row_form q1; subst hvf) | (go_at_call 159; refine (HM'.out _ _ _ q3).mono ?_; rintro e w5 hF; have hF' := hF; obtain ⟨g, vv', i', h1, rfl, h3⟩ := hF))
          exact ⟨rfl, .errI HR.out (hF'.after ((m2.alloc _).trans (p2.trans q5)))⟩
  · rw [decide_eq_false hq, if_neg (by simp)]
    rw [if_neg hq, decide_eq_false hq] at HT2
    clear hq
    unfold ptrV at *
    go_enter Tryz.func278, Tryz.ntmps278
    go_wp2_with (first | (go_at_call 225; refine HT.out.mono ?_; rintro e w1 ⟨rfl, m1, m2⟩; have hbb := tokBox m1 t) | (go_at_call 201; refine (HT2.out _ (m1.alloc _)).mono ?_; rintro e w2 ⟨rfl, p1, p2⟩; obtain ⟨bx1, bx2⟩ := hbb vv w2 p2))
    go_ret
    exact .okI rfl (.atom _) p1 (List.prefix_refl _) ((m2.alloc _).trans p2)

end Go.Proofs.YtodpkdajbnceoaaGreatDoor
