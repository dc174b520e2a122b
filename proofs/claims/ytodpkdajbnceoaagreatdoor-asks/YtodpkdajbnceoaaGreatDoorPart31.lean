import Derived.Test.YtodpkdajbnceoaaGreatDoorPart30
set_option linter.all false
set_option maxHeartbeats 4000000
set_option maxRecDepth 100000
namespace Go.Proofs.YtodpkdajbnceoaaGreatDoor
open Go.RowKit
theorem list_c (w : World) (Ok : Nat → Prop) (vbs : List Nat) (exs : List Ex) (r : Ex) (us : List Value) (v u : Value) (n0 : Nat) (hL : TRepL w Ok vbs exs us) (hr : TRep w Ok vbs r u) (hown : w.ownsRow n0 185 1 v exs.length us) (hsm : exs.length ≤ 3000) (hok : ∀ b, w.heap.size ≤ b → Ok b) :
    Calls Tryz.prog 333 #[v, u] w fun e W' => ∃ u', e = .returned u' ∧ Below w.heap.size w W' ∧ TRep W' Ok vbs (exs.foldr cellEx r) u' :=
  (callsIn_wide (n := 3)).1 (list_in _ 3 trivial trivial trivial rfl (by omega) w Ok vbs exs r us v u n0 hL hr hown hsm hok)
theorem stepI_sign {toks : List Tok} (ht : TTs toks) {i : Nat} {s : List UInt8} (hs : s ≠ []) (h : (tk toks i).t = B s) : stepI toks i = i + 1 := by
  unfold stepI
  rw [if_neg]
  intro e
  have h1 := (ht i).e e
  rw [h1] at h
  exact hs ((str_eq_iff _ _).1 h).symm
theorem brackets_c {toks : List Tok} {d : Int} (hg : GoodToks toks) (ht : TTs toks) (ex : St → R Ex) (hpo : PartOk toks ex) (HP : RReads 139 toks d ex)
    (w : World) (bp : Nat) (lv vv : Value) (st : St) (vbs : List Nat) (h : RIn w bp toks lv vv st.1 d st.2 vbs) :
    Calls Tryz.prog 279 #[ptrV bp] w fun e w' => RPost toks bp lv vv d vbs w (listOf toks ex st) e w' := by
  have HT := hide (takes_c h hg ht (B [93]))
  have hisT := (ht st.1).isT (s := [93]) (by unfold SignLike; decide)
  have hsm := hg.small
  have hlt := h.lt
  by_cases hq : (tk toks st.1).t = B [93]
  · have HR : Hid (listOf toks ex st = .ok (nilEx, (st.1 + 1, st.2))) := by unfold Hid listOf; rw [hisT, decide_eq_true hq, if_pos rfl]
    rw [if_pos hq, decide_eq_true hq, stepI_sign ht (by decide) hq] at HT
    clear hq hisT
    unfold ptrV at *
    go_enter Tryz.func279, Tryz.ntmps279
    go_wp2_with (first | (go_at_call 201; refine HT.out.mono ?_; rintro e w1 ⟨rfl, m1, m2⟩))
    go_ret
    exact .okI HR.out (.atom _) m1 (List.prefix_refl _) m2
  · rw [if_neg hq, decide_eq_false hq] at HT
    have hlo : listOf toks ex st = match rowOf toks ex (toks.length + 1) [] st with
      | .error e => .error e
      | .ok (l, st1) =>
        if isT (tk toks st1.1) [124] then
          match ex (st1.1 + 1, st1.2) with
          | .error e => .error e
          | .ok (r, st2) => mustT toks [93] (l.foldr cellEx r) st2
        else mustT toks [93] (l.foldr cellEx nilEx) st1 := by
      unfold listOf; rw [hisT, decide_eq_false hq, if_neg (by simp)]
      rfl
    rw [hlo]
    have HRow := hide (fun w1 (h1 : RIn w1 bp toks lv vv st.1 d st.2 vbs) => row_c hg ht ex hpo HP w1 bp lv vv st vbs h1)
    clear hq hisT hlo
    cases hrw : rowOf toks ex (toks.length + 1) [] st with
    | error p =>
      obtain ⟨er, a⟩ := p
      rw [hrw] at HRow
      have HRow' : Hid (∀ w1, RIn w1 bp toks lv vv st.1 d st.2 vbs → Calls Tryz.prog 332 #[ptrV bp] w1 fun e w' => RFault er a bp lv vv d w1 e w') := HRow.out
      clear HRow hrw
      unfold ptrV at *
      go_enter Tryz.func279, Tryz.ntmps279
      go_wp2_with (first | (go_at_call 201; refine HT.out.mono ?_; rintro e w1 ⟨rfl, m1, m2⟩) | (go_at_call 332; refine (HRow'.out _ m1).mono ?_; rintro e w3 hF; have hF' := hF; obtain ⟨g, vv', i', h1, rfl, h3⟩ := hF))
      exact ⟨rfl, hF'.after m2⟩
    | ok p =>
      obtain ⟨l, st1⟩ := p
      rw [hrw] at HRow
      have HRow' : Hid (∀ w1, RIn w1 bp toks lv vv st.1 d st.2 vbs → Calls Tryz.prog 332 #[ptrV bp] w1 fun e w' => ∃ (v vv' : Value) (vbs' : List Nat) (us : List Value), e = .returned v ∧ w'.ownsRow w1.heap.size 185 1 v l.length us ∧ TRepL w' (fun b => w1.heap.size ≤ b ∧ v.ownBlock ≠ some b) vbs' l us ∧
        RIn w' bp toks lv vv' st1.1 d st1.2 vbs' ∧ vbs <+: vbs' ∧ Fr bp vv vv' w1 w') := HRow.out
      have hgl := row_got hpo (toks.length + 1) [] st st l st1 ⟨by simp [szL], by omega, by simp [shortL], ⟨[], by simp⟩, by simp [varsInL]⟩ hrw
      clear HRow hrw
      have HT2 := hide (fun (w' : World) (vv' : Value) (vbs' : List Nat) (h' : RIn w' bp toks lv vv' st1.1 d st1.2 vbs') => takes_c h' hg ht (B [124]))
      have hisT2 := (ht st1.1).isT (s := [124]) (by unfold SignLike; decide)
      have HM := hide (fun (w' : World) (vv' : Value) (i : Nat) (vars : List ByteArray) (vbs' : List Nat) (h' : RIn w' bp toks lv vv' i d vars vbs') => must_c h' hg ht (B [93]))
      have HLs := hide list_c
      have hl3 : l.length ≤ 3000 := by have := hgl.size; have := hgl.le; omega
      show Calls Tryz.prog 279 #[ptrV bp] w fun e w' => RPost toks bp lv vv d vbs w (if isT (tk toks st1.1) [124] then (match ex (st1.1 + 1, st1.2) with | .error e => .error e | .ok (r, st2) => mustT toks [93] (l.foldr cellEx r) st2) else mustT toks [93] (l.foldr cellEx nilEx) st1) e w'
      rw [hisT2]
      by_cases hq2 : (tk toks st1.1).t = B [124]
      · rw [decide_eq_true hq2, if_pos rfl]
        rw [if_pos hq2, decide_eq_true hq2, stepI_sign ht (by decide) hq2] at HT2
        clear hq2 hisT2
        have HPx := hide (fun (w' : World) (vv' : Value) (vbs' : List Nat) (h' : RIn w' bp toks lv vv' (st1.1 + 1) d st1.2 vbs') => HP w' bp lv vv' (st1.1 + 1, st1.2) vbs' h')
        cases hex : ex (st1.1 + 1, st1.2) with
        | error p =>
          obtain ⟨er, a⟩ := p
          rw [hex] at HPx
          have HPx' : Hid (∀ (w' : World) (vv' : Value) (vbs' : List Nat), RIn w' bp toks lv vv' (st1.1 + 1) d st1.2 vbs' → Calls Tryz.prog 139 #[ptrV bp] w' fun e w'' => RFault er a bp lv vv' d w' e w'') := HPx.out
          clear HPx hex
          unfold ptrV at *
          go_enter Tryz.func279, Tryz.ntmps279
          go_wp2_with (first | (go_at_call 201; refine HT.out.mono ?_; clear HT; rintro e w1 ⟨rfl, m1, m2⟩) | (go_at_call 332; refine (HRow'.out _ m1).mono ?_; rintro e w2 ⟨v, vv2, vbs2, us, rfl, q1, q2, q3, q4, q5⟩; obtain ⟨ao, cp, hvf⟩ := row_form q1; subst hvf) | (go_at_call 201; refine (HT2.out _ _ _ q3).mono ?_; rintro e w3 ⟨rfl, p1, p2⟩) | (go_at_call 139; refine (HPx'.out _ _ _ p1).mono ?_; rintro e w4 hF; have hF' := hF; obtain ⟨g, vv', i', h1, rfl, h3⟩ := hF))
          exact ⟨rfl, hF'.after (m2.trans (q5.trans p2))⟩
        | ok p =>
          obtain ⟨r, st2⟩ := p
          rw [hex] at HPx
          have HPx' : Hid (∀ (w' : World) (vv' : Value) (vbs' : List Nat), RIn w' bp toks lv vv' (st1.1 + 1) d st1.2 vbs' → Calls Tryz.prog 139 #[ptrV bp] w' fun e w'' => ∃ (u vv3 : Value) (vbs3 : List Nat), e = .returned u ∧ TRep w'' (fun b => w'.heap.size ≤ b) vbs3 r u ∧ RIn w'' bp toks lv vv3 st2.1 d st2.2 vbs3 ∧ vbs' <+: vbs3 ∧ Fr bp vv' vv3 w' w'') := HPx.out
          clear HPx hex
          have hisT3 := (ht st2.1).isT (s := [93]) (by unfold SignLike; decide)
          have hmu : (mustT toks [93] (l.foldr cellEx r) st2) = if isT (tk toks st2.1) [93] then .ok (l.foldr cellEx r, (st2.1 + 1, st2.2)) else .error (2, (tk toks st2.1).a) := rfl
          rw [hisT3] at hmu
          by_cases hq3 : (tk toks st2.1).t = B [93]
          · have HR : Hid (mustT toks [93] (l.foldr cellEx r) st2 = .ok (l.foldr cellEx r, (st2.1 + 1, st2.2))) := by rw [Hid, hmu, decide_eq_true hq3, if_pos rfl]
            have HM' : Hid (∀ (w' : World) (vv' : Value) (vbs' : List Nat), RIn w' bp toks lv vv' st2.1 d st2.2 vbs' → Calls Tryz.prog 159 #[ptrV bp, .string (B [93])] w' fun e w'' => e = .returned (.tuple #[]) ∧ RIn w'' bp toks lv vv' (st2.1 + 1) d st2.2 vbs' ∧ Fr bp vv' vv' w' w'') := fun w' vv' vbs' h' => (HM.out w' vv' _ _ vbs' h').mono fun e w'' h => by have := h.1 hq3; rwa [stepI_sign ht (by decide) hq3] at this
            clear HM hmu hisT3 hq3
            obtain ⟨X, hX⟩ : ∃ X, X = l.foldr cellEx r := ⟨_, rfl⟩
            unfold ptrV at *
            go_enter Tryz.func279, Tryz.ntmps279
            go_wp2_with (first | (go_at_call 201; refine HT.out.mono ?_; clear HT; rintro e w1 ⟨rfl, m1, m2⟩) | (go_at_call 332; refine (HRow'.out _ m1).mono ?_; rintro e w2 ⟨v, vv2, vbs2, us, rfl, q1, q2, q3, q4, q5⟩; obtain ⟨ao, cp, hvf⟩ := row_form q1; subst hvf) | (go_at_call 201; refine (HT2.out _ _ _ q3).mono ?_; rintro e w3 ⟨rfl, p1, p2⟩) | (go_at_call 139; refine (HPx'.out _ _ _ p1).mono ?_; rintro e w4 ⟨u4, vv4, vbs4, rfl, r1, r2, r3, r4⟩; obtain ⟨tu4, vu4, hu4, _⟩ := r1.form; subst hu4) | (go_at_call 159; refine (HM'.out _ _ _ r2).mono ?_; rintro e w5 ⟨rfl, s1, s2⟩; have hK := q3.tkeeps (Ok := fun _ => True) (p2.trans (r4.trans s2)); have hw := (m2.trans (q5.trans (p2.trans (r4.trans s2)))).size; have hw1 := m2.size; have hw3 := (m2.trans (q5.trans p2)).size; have HL5 : Hid (TRepL w5 (fun b => w.heap.size ≤ b) vbs4 l us) := q2.frame (q3.tkeeps (p2.trans (r4.trans s2))) (fun b hb _ => Nat.le_trans hw1 hb.1) r3; have HR5 : Hid (TRep w5 (fun b => w.heap.size ≤ b) vbs4 r (.iface tu4 vu4)) := r1.frame (r2.tkeeps s2) (fun b hb _ => Nat.le_trans hw3 hb) (List.prefix_refl _); have HO5 := hide (own_tk q1 hK)) | (go_at_call 333; refine (HLs.out _ _ _ _ _ _ _ _ _ HL5.out HR5.out HO5.out hl3 (fun b hb => Nat.le_trans hw hb)).mono ?_; rintro e w6 ⟨u6, rfl, t1, t2⟩))
            go_ret
            exact .okI HR.out t2 (s1.below t1) (q4.trans r3) ((m2.trans (q5.trans (p2.trans (r4.trans s2)))).trans (Fr.of_below t1))
          · have HR : Hid (mustT toks [93] (l.foldr cellEx r) st2 = .error (2, (tk toks st2.1).a)) := by rw [Hid, hmu, decide_eq_false hq3, if_neg (by simp)]
            have HM' : Hid (∀ (w' : World) (vv' : Value) (vbs' : List Nat), RIn w' bp toks lv vv' st2.1 d st2.2 vbs' → Calls Tryz.prog 159 #[ptrV bp, .string (B [93])] w' fun e w'' => RFault 2 (tk toks st2.1).a bp lv vv' d w' e w'') := fun w' vv' vbs' h' => (HM.out w' vv' _ _ vbs' h').mono fun e w'' h => h.2 hq3
            clear HM hmu hisT3 hq3
            unfold ptrV at *
            go_enter Tryz.func279, Tryz.ntmps279
            go_wp2_with (first | (go_at_call 201; refine HT.out.mono ?_; clear HT; rintro e w1 ⟨rfl, m1, m2⟩) | (go_at_call 332; refine (HRow'.out _ m1).mono ?_; rintro e w2 ⟨v, vv2, vbs2, us, rfl, q1, q2, q3, q4, q5⟩; obtain ⟨ao, cp, hvf⟩ := row_form q1; subst hvf) | (go_at_call 201; refine (HT2.out _ _ _ q3).mono ?_; rintro e w3 ⟨rfl, p1, p2⟩) | (go_at_call 139; refine (HPx'.out _ _ _ p1).mono ?_; rintro e w4 ⟨u4, vv4, vbs4, rfl, r1, r2, r3, r4⟩; obtain ⟨tu4, vu4, hu4, _⟩ := r1.form; subst hu4) | (go_at_call 159; refine (HM'.out _ _ _ r2).mono ?_; rintro e w5 hF; have hF' := hF; obtain ⟨g, vv', i', h1, rfl, h3⟩ := hF))
            exact ⟨rfl, .errI HR.out (hF'.after (m2.trans (q5.trans (p2.trans r4))))⟩
      · rw [decide_eq_false hq2, if_neg (by simp)]
        rw [if_neg hq2, decide_eq_false hq2] at HT2
        clear hq2 hisT2
        have hisT3 := (ht st1.1).isT (s := [93]) (by unfold SignLike; decide)
        have hmu : (mustT toks [93] (l.foldr cellEx nilEx) st1) = if isT (tk toks st1.1) [93] then .ok (l.foldr cellEx nilEx, (st1.1 + 1, st1.2)) else .error (2, (tk toks st1.1).a) := rfl
        rw [hisT3] at hmu
        by_cases hq3 : (tk toks st1.1).t = B [93]
        · have HR : Hid (mustT toks [93] (l.foldr cellEx nilEx) st1 = .ok (l.foldr cellEx nilEx, (st1.1 + 1, st1.2))) := by rw [Hid, hmu, decide_eq_true hq3, if_pos rfl]
          have HM' : Hid (∀ (w' : World) (vv' : Value) (vbs' : List Nat), RIn w' bp toks lv vv' st1.1 d st1.2 vbs' → Calls Tryz.prog 159 #[ptrV bp, .string (B [93])] w' fun e w'' => e = .returned (.tuple #[]) ∧ RIn w'' bp toks lv vv' (st1.1 + 1) d st1.2 vbs' ∧ Fr bp vv' vv' w' w'') := fun w' vv' vbs' h' => (HM.out w' vv' _ _ vbs' h').mono fun e w'' h => by have := h.1 hq3; rwa [stepI_sign ht (by decide) hq3] at this
          clear HM hmu hisT3 hq3
          unfold ptrV at *
          go_enter Tryz.func279, Tryz.ntmps279
          go_wp2_with (first | (go_at_call 201; refine HT.out.mono ?_; clear HT; rintro e w1 ⟨rfl, m1, m2⟩) | (go_at_call 332; refine (HRow'.out _ m1).mono ?_; rintro e w2 ⟨v, vv2, vbs2, us, rfl, q1, q2, q3, q4, q5⟩; obtain ⟨ao, cp, hvf⟩ := row_form q1; subst hvf) | (go_at_call 201; refine (HT2.out _ _ _ q3).mono ?_; rintro e w3 ⟨rfl, p1, p2⟩) | (go_at_call 159; refine (HM'.out _ _ _ p1).mono ?_; rintro e w5 ⟨rfl, s1, s2⟩; have hK := q3.tkeeps (Ok := fun _ => True) (p2.trans s2); have hw := (m2.trans (q5.trans (p2.trans s2))).size; have hw1 := m2.size; have HL5 : Hid (TRepL w5 (fun b => w.heap.size ≤ b) vbs2 l us) := q2.frame (q3.tkeeps (p2.trans s2)) (fun b hb _ => Nat.le_trans hw1 hb.1) (List.prefix_refl _); have HO5 := hide (own_tk q1 hK)) | (go_at_call 333; refine (HLs.out _ _ _ _ nilEx _ _ _ _ HL5.out (.atom _) HO5.out hl3 (fun b hb => Nat.le_trans hw hb)).mono ?_; rintro e w6 ⟨u6, rfl, t1, t2⟩))
          go_ret
          exact .okI HR.out t2 (s1.below t1) q4 ((m2.trans (q5.trans (p2.trans s2))).trans (Fr.of_below t1))
        · have HR : Hid (mustT toks [93] (l.foldr cellEx nilEx) st1 = .error (2, (tk toks st1.1).a)) := by rw [Hid, hmu, decide_eq_false hq3, if_neg (by simp)]
          have HM' : Hid (∀ (w' : World) (vv' : Value) (vbs' : List Nat), RIn w' bp toks lv vv' st1.1 d st1.2 vbs' → Calls Tryz.prog 159 #[ptrV bp, .string (B [93])] w' fun e w'' => RFault 2 (tk toks st1.1).a bp lv vv' d w' e w'') := fun w' vv' vbs' h' => (HM.out w' vv' _ _ vbs' h').mono fun e w'' h => h.2 hq3
          clear HM hmu hisT3 hq3
          unfold ptrV at *
          go_enter Tryz.func279, Tryz.ntmps279
          go_wp2_with (first | (go_at_call 201; refine HT.out.mono ?_; clear HT; rintro e w1 ⟨rfl, m1, m2⟩) | (go_at_call 332; refine (HRow'.out _ m1).mono ?_; rintro e w2 ⟨v, vv2, vbs2, us, rfl, q1, q2, q3, q4, q5⟩; obtain ⟨ao, cp, hvf⟩ := row_form q1; subst hvf) | (go_at_call 201; refine (HT2.out _ _ _ q3).mono ?_; rintro e w3 ⟨rfl, p1, p2⟩) | (go_at_call 159; refine (HM'.out _ _ _ p1).mono ?_; rintro e w5 hF; have hF' := hF; obtain ⟨g, vv', i', h1, rfl, h3⟩ := hF))
          exact ⟨rfl, .errI HR.out (hF'.after (m2.trans (q5.trans p2)))⟩
theorem rowOf_len {toks : List Tok} {ex : St → R Ex} : ∀ (f : Nat) (acc : List Ex) (st : St) (l : List Ex) (st' : St), rowOf toks ex f acc st = .ok (l, st') → acc.length ≤ l.length ∧ (0 < f → acc.length < l.length)
  | 0, acc, st, l, st', h => by rw [rowOf] at h; cases h; exact ⟨Nat.le_refl _, fun h => absurd h (by omega)⟩
  | f + 1, acc, st, l, st', h => by
    rw [rowOf] at h
    split at h
    · cases h
    · split at h
      · have := (rowOf_len f _ _ _ _ h).1
        simp at this
        exact ⟨by omega, fun _ => by omega⟩
      · cases h
        simp
def namedOf (toks : List Tok) (ex : St → R Ex) (st : St) : R Ex :=
  if isT (tk toks (st.1 + 1)) [40] then
    match argsOf toks ex (tk toks st.1).a (st.1 + 2, st.2) with
    | .error e => .error e
    | .ok (l, st') => mustT toks [41] (.cmp (tk toks st.1).t l) st'
  else .ok (.atom (tk toks st.1).t, (st.1 + 1, st.2))
theorem TRep.made {w : World} {Ok : Nat → Prop} {vbs : List Nat} {l : List Ex} {us : List Value} {n0 cp : Nat} {ao : Option Addr} (n : ByteArray) (hL : TRepL w Ok vbs l us) (hown : w.ownsRow n0 185 1 (.slice ao l.length cp) l.length us) (h0 : 0 < l.length) (hok : ∀ b, n0 ≤ b → Ok b) :
    TRep (w.alloc (.cells #[.string n, .slice ao l.length cp, .slice none 0 0, .map none] 399)) Ok vbs (.cmp n l) (.iface 342 (ptrV w.heap.size)) := by
  rcases hown.2 with ⟨_, hz⟩ | ⟨g, cap, cur, e, r1, r2, r3, r4, r5, r6⟩
  · omega
  · cases e
    have hB : Below w.heap.size w (w.alloc (.cells #[.string n, .slice (some ⟨g, 0, none⟩) l.length cp, .slice none 0 0, .map none] 399)) := (Below.refl _ _).alloc (Nat.le_refl _) _
    refine .cmp n l w.heap.size g cp cur us (heap_alloc_new w _) (hok g r1) (by rw [hB.block g (Array.getElem?_eq_some_iff.1 r2).1]; exact r2) r3 r4 (by omega) (by simpa using r6) (hL.frame (tkeeps_below hB) (fun _ h _ => h) (List.prefix_refl _)) h0
theorem tokBox {w1 : World} {bp : Nat} {toks : List Tok} {lv vv : Value} {i : Nat} {d : Int} {vars : List ByteArray} {vbs : List Nat} (h : RIn w1 bp toks lv vv i d vars vbs) (t : Tok) :
    ∀ (vv' : Value) (W : World), Fr bp vv vv' (w1.alloc (.cells #[.int .i64 (kC t.k), .string t.t, .int .i64 t.a] 298)) W → W.cell? ⟨w1.heap.size, 1, none⟩ = some (.string t.t) ∧ W.cell? ⟨w1.heap.size, 2, none⟩ = some (.int .i64 t.a) := by
  intro vv' W hF
  have h1 : w1.heap.size ≠ bp := fun e => by have := h.lt_size; omega
  have h2 : vv.ownBlock ≠ some w1.heap.size := fun e => by have := h.blt _ (.inr (.inr (.inl e))); omega
  exact ⟨hF.cell (by rw [cell_of_block (heap_alloc_new w1 _)]; rfl) h1 h2, hF.cell (by rw [cell_of_block (heap_alloc_new w1 _)]; rfl) h1 h2⟩
theorem named_c {toks : List Tok} {d : Int} (hg : GoodToks toks) (ht : TTs toks) (ex : St → R Ex) (hpo : PartOk toks ex) (HP : RReads 139 toks d ex)
    (w : World) (bp : Nat) (lv vv : Value) (st : St) (vbs : List Nat) (h : RIn w bp toks lv vv st.1 d st.2 vbs) (hk : (tk toks st.1).k = 97) :
    Calls Tryz.prog 278 #[ptrV bp] w fun e w' => RPost toks bp lv vv d vbs w (namedOf toks ex st) e w' := by
  have HT := hide (take_c h hg ht)
  have hst : stepI toks st.1 = st.1 + 1 := by unfold stepI; rw [if_neg (by rw [hk]; decide)]
  rw [hst] at HT
  have HT2 := hide (fun (w' : World) (h' : RIn w' bp toks lv vv (st.1 + 1) d st.2 vbs) => takes_c h' hg ht (B [40]))
  have hisT := (ht (st.1 + 1)).isT (s := [40]) (by unfold SignLike; decide)
  have HF := hide newFault_c
  have ff0 := tok_f0
  have ff1 := tok_f1
  have ff2 := tok_f2
  have hsm := hg.small
  obtain ⟨t, hT⟩ : ∃ t, t = tk toks st.1 := ⟨_, rfl⟩
  have hno : namedOf toks ex st = if decide ((tk toks (st.1 + 1)).t = B [40]) then
    match argsOf toks ex t.a (st.1 + 2, st.2) with
    | .error e => .error e
    | .ok (l, st') => mustT toks [41] (.cmp t.t l) st'
    else .ok (.atom t.t, (st.1 + 1, st.2)) := by unfold namedOf; rw [hisT, hT]
  rw [hno]
  rw [← hT] at HT
  clear hno hT hst hisT hk
  unfold tokVC at HT
  by_cases hq : (tk toks (st.1 + 1)).t = B [40]
  · rw [decide_eq_true hq, if_pos rfl]
    rw [if_pos hq, decide_eq_true hq, stepI_sign ht (by decide) hq] at HT2
    clear hq
    obtain ⟨total, htot⟩ : ∃ total : R Ex, total = (match argsOf toks ex t.a (st.1 + 2, st.2) with
      | .error e => .error e
      | .ok (l, st') => mustT toks [41] (.cmp t.t l) st') := ⟨_, rfl⟩
    rw [← htot]
    have HRow := hide (fun w1 (h1 : RIn w1 bp toks lv vv (st.1 + 1 + 1) d st.2 vbs) => row_c hg ht ex hpo HP w1 bp lv vv (st.1 + 2, st.2) vbs h1)
    cases hrw : rowOf toks ex (toks.length + 1) [] (st.1 + 2, st.2) with
    | error p =>
      obtain ⟨er, a⟩ := p
      have HR : Hid (total = .error (er, a)) := by rw [Hid, htot]; unfold argsOf; rw [hrw]
      clear htot
      rw [hrw] at HRow
      have HRow' : Hid (∀ w1, RIn w1 bp toks lv vv (st.1 + 1 + 1) d st.2 vbs → Calls Tryz.prog 332 #[ptrV bp] w1 fun e w' => RFault er a bp lv vv d w1 e w') := HRow.out
      clear HRow hrw
      unfold ptrV at *
      go_enter Tryz.func278, Tryz.ntmps278
      go_wp2_with (first | (go_at_call 225; refine HT.out.mono ?_; rintro e w1 ⟨rfl, m1, m2⟩; have hbb := tokBox m1 t) | (go_at_call 201; refine (HT2.out _ (m1.alloc _)).mono ?_; rintro e w2 ⟨rfl, p1, p2⟩) | (go_at_call 332; refine (HRow'.out _ p1).mono ?_; rintro e w3 hF; have hF' := hF; obtain ⟨g, vv', i', h1, rfl, h3⟩ := hF))
      exact ⟨rfl, .errI HR.out (hF'.after ((m2.alloc _).trans p2))⟩
    | ok p =>
      obtain ⟨l, st1⟩ := p
      have hl0 : 0 < l.length := (rowOf_len _ _ _ _ _ hrw).2 (by omega)
      rw [hrw] at HRow
      have HRow' : Hid (∀ w1, RIn w1 bp toks lv vv (st.1 + 1 + 1) d st.2 vbs → Calls Tryz.prog 332 #[ptrV bp] w1 fun e w' => ∃ (v vv' : Value) (vbs' : List Nat) (us : List Value), e = .returned v ∧ w'.ownsRow w1.heap.size 185 1 v l.length us ∧ TRepL w' (fun b => w1.heap.size ≤ b ∧ v.ownBlock ≠ some b) vbs' l us ∧
        RIn w' bp toks lv vv' st1.1 d st1.2 vbs' ∧ vbs <+: vbs' ∧ Fr bp vv vv' w1 w') := HRow.out
      by_cases h4 : 4 < l.length
      · have HR : Hid (total = .error (4, t.a)) := by rw [Hid, htot]; unfold argsOf; rw [hrw]; simp only [if_pos h4]
        clear HRow hrw htot
        unfold ptrV at *
        go_enter Tryz.func278, Tryz.ntmps278
        go_wp2_with (first | (go_at_call 225; refine HT.out.mono ?_; rintro e w1 ⟨rfl, m1, m2⟩; have hbb := tokBox m1 t) | (go_at_call 201; refine (HT2.out _ (m1.alloc _)).mono ?_; rintro e w2 ⟨rfl, p1, p2⟩) | (go_at_call 332; refine (HRow'.out _ p1).mono ?_; rintro e w3 ⟨v, vv3, vbs3, us, rfl, q1, q2, q3, q4, q5⟩; obtain ⟨ao, cp, hvf⟩ := row_form q1; subst hvf; obtain ⟨bx1, bx2⟩ := hbb vv3 w3 (p2.trans q5)) | (go_at_call 154; refine (HF.out _ _ _).mono ?_; rintro e w4 ⟨g, hg2, rfl, hcell, hB⟩))
        exact ⟨rfl, .errI HR.out ((q3.faulted hg2 hcell hB).after ((m2.alloc _).trans (p2.trans q5)))⟩
      · have hisT3 := (ht st1.1).isT (s := [41]) (by unfold SignLike; decide)
        have hmu : total = if isT (tk toks st1.1) [41] then .ok (.cmp t.t l, (st1.1 + 1, st1.2)) else .error (2, (tk toks st1.1).a) := by rw [htot]; unfold argsOf; rw [hrw]; simp only [if_neg h4]; rfl
        rw [hisT3] at hmu
        clear htot
        have HM := hide (fun (w' : World) (vv' : Value) (vbs' : List Nat) (h' : RIn w' bp toks lv vv' st1.1 d st1.2 vbs') => must_c h' hg ht (B [41]))
        by_cases hq3 : (tk toks st1.1).t = B [41]
        · have HR : Hid (total = .ok (.cmp t.t l, (st1.1 + 1, st1.2))) := hmu.trans (by rw [decide_eq_true hq3, if_pos rfl])
          have HM' : Hid (∀ (w' : World) (vv' : Value) (vbs' : List Nat), RIn w' bp toks lv vv' st1.1 d st1.2 vbs' → Calls Tryz.prog 159 #[ptrV bp, .string (B [41])] w' fun e w'' => e = .returned (.tuple #[]) ∧ RIn w'' bp toks lv vv' (st1.1 + 1) d st1.2 vbs' ∧ Fr bp vv' vv' w' w'') := fun w' vv' vbs' h' => (HM.out w' vv' vbs' h').mono fun e w'' h => by have := h.1 hq3; rwa [stepI_sign ht (by decide) hq3] at this
          clear HM hmu hisT3 hq3 HRow hrw
          unfold ptrV at *
          go_enter Tryz.func278, Tryz.ntmps278
          go_wp2_with (first | (go_at_call 225; refine HT.out.mono ?_; rintro e w1 ⟨rfl, m1, m2⟩; have hbb := tokBox m1 t) | (go_at_call 201; refine (HT2.out _ (m1.alloc _)).mono ?_; rintro e w2 ⟨rfl, p1, p2⟩) | (go_at_call 332; refine (HRow'.out _ p1).mono ?_; rintro e w3 ⟨v, vv3, vbs3, us, rfl, q1, q2, q3, q4, q5⟩; obtain ⟨ao, cp, hvf⟩ := row_form q1; subst hvf) | (go_at_call 159; refine (HM'.out _ _ _ q3).mono ?_; rintro e w5 ⟨rfl, s1, s2⟩; obtain ⟨bx1, bx2⟩ := hbb vv3 w5 (p2.trans (q5.trans s2))))
          go_ret
          have hw2 := ((m2.alloc _).trans p2).size
          have hK := q3.tkeeps (Ok := fun _ => True) s2
          have hL5 : TRepL w5 (fun b => w.heap.size ≤ b) vbs3 l us := q2.frame (q3.tkeeps s2) (fun b hb _ => Nat.le_trans hw2 hb.1) (List.prefix_refl _)
          exact .okI HR.out (TRep.made t.t hL5 (own_tk q1 hK) hl0 (fun b hb => Nat.le_trans hw2 hb)) (s1.alloc _) q4 (((m2.alloc _).trans (p2.trans (q5.trans s2))).alloc _)
        · have HR : Hid (total = .error (2, (tk toks st1.1).a)) := hmu.trans (by rw [decide_eq_false hq3, if_neg (by simp)])
          have HM' : Hid (∀ (w' : World) (vv' : Value) (vbs' : List Nat), RIn w' bp toks lv vv' st1.1 d st1.2 vbs' → Calls Tryz.prog 159 #[ptrV bp, .string (B [41])] w' fun e w'' => RFault 2 (tk toks st1.1).a bp lv vv' d w' e w'') := fun w' vv' vbs' h' => (HM.out w' vv' vbs' h').mono fun e w'' h => h.2 hq3
          clear HM hmu hisT3 hq3 HRow hrw
          unfold ptrV at *
          go_enter Tryz.func278, Tryz.ntmps278
          go_wp2_with (first | (go_at_call 225; refine HT.out.mono ?_; rintro e w1 ⟨rfl, m1, m2⟩; have hbb := tokBox m1 t) | (go_at_call 201; refine (HT2.out _ (m1.alloc _)).mono ?_; rintro e w2 ⟨rfl, p1, p2⟩) | (go_at_call 332; refine (HRow'.out _ p1).mono ?_; rintro e w3 ⟨v, vv3, vbs3, us, rfl, q1, q2, q3, q4, q5⟩; obtain ⟨ao, cp, hvf⟩ := row_form q1; subst hvf) | (go_at_call 159; refine (HM'.out _ _ _ q3).mono ?_; rintro e w5 hF; have hF' := hF; obtain ⟨g, vv', i', h1, rfl, h3⟩ := hF))
          exact ⟨rfl, .errI HR.out (hF'.after ((m2.alloc _).trans (p2.trans q5)))⟩
  · rw [decide_eq_false hq, if_neg (by simp)]
    rw [if_neg hq, decide_eq_false hq] at HT2
    clear hq
    unfold ptrV at *
    go_enter Tryz.func278, Tryz.ntmps278
    go_wp2_with (first | (go_at_call 225; refine HT.out.mono ?_; rintro e w1 ⟨rfl, m1, m2⟩; have hbb := tokBox m1 t) | (go_at_call 201; refine (HT2.out _ (m1.alloc _)).mono ?_; rintro e w2 ⟨rfl, p1, p2⟩; obtain ⟨bx1, bx2⟩ := hbb vv w2 p2))
    go_ret
    exact .okI rfl (.atom _) p1 (List.prefix_refl _) ((m2.alloc _).trans p2)
theorem leaves_up {fn : Func} {tmps : Array Value} {R : Ending → World → Prop} {u : FrameMode} {w : World} {Bx bp : Nat} {d : Int} (hd : 0 ≤ d) (hd8 : d ≤ 7) (hu : u ≠ .run)
    (hB : w.cell? ⟨Bx, 0, none⟩ = some (ptrV bp)) (hc : w.cell? ⟨bp, 2, none⟩ = some (.int .i64 (d + 1))) (hf : w.frozen? ⟨bp, 2, none⟩ = false)
    (h : Leaves Tryz.prog fn tmps R [] (settle u) (w.setCell ⟨bp, 2, none⟩ (.int .i64 d))) :
    Leaves Tryz.prog fn tmps R [{ target := .fn (.func 288) #[.pointer (some ⟨Bx, 0, none⟩)], args := #[] }] u w := by
  refine leaves_cons (f := 288) (args := #[.pointer (some ⟨Bx, 0, none⟩)]) hu (by simp [go_sem]) ?_
  refine (up_c (u := u) (d := d + 1) (bp := bp) (by omega) (by omega) hB hc hf).mono ?_
  rintro e u' w'' ⟨rfl, rfl, rfl⟩
  have e1 : d + 1 - 1 = d := by omega
  rw [e1]
  exact h
section
variable {w w1 w2 : World} {bp : Nat} {toks : List Tok} {lv vv : Value} {i : Nat} {d : Int} {vars : List ByteArray} {vbs : List Nat}
structure Deeper (w w1 : World) (bp Bx : Nat) (vv : Value) : Prop where
  ge : w.heap.size ≤ Bx
  cell : w1.heap[Bx]? = some (.cells #[ptrV bp] 209 (0, 0))
  fr : Fr bp vv vv w w1
  bpl : bp < w.heap.size
  vvl : ∀ b, vv.ownBlock = some b → b < w.heap.size
theorem Deeper.at {Bx : Nat} {vv' : Value} (h : Deeper w w1 bp Bx vv) (hf : Fr bp vv vv' w1 w2) : w2.cell? ⟨Bx, 0, none⟩ = some (ptrV bp) := by
  have h1 := h.ge
  have h2 := h.bpl
  refine hf.cell (by rw [cell_of_block h.cell]; rfl) (fun e => ?_) (fun e => ?_)
  · simp at e; omega
  · have := h.vvl _ e; simp at this; omega
theorem RPost.up_err {Bx g : Nat} {er a : Int} (hD : Deeper w w1 bp Bx vv) (h : RFault er a bp lv vv (d + 1) w1 (.panicked [{ v := faultV g, recovered := false }]) w2) :
    w2.cell? ⟨Bx, 0, none⟩ = some (ptrV bp) ∧ w2.cell? ⟨bp, 2, none⟩ = some (.int .i64 (d + 1)) ∧ w2.frozen? ⟨bp, 2, none⟩ = false ∧
      RFault er a bp lv vv d w (.panicked [{ v := faultV g, recovered := false }]) (w2.setCell ⟨bp, 2, none⟩ (.int .i64 d)) := by
  obtain ⟨g', vv', i', h1, h2, h3, h4, h5⟩ := h
  have hs := hD.fr.size
  have hb := hD.bpl
  rw [h2]
  refine ⟨hD.at h4, by rw [cell_of_block h5]; rfl, by simp [World.frozen?, h5], g', vv', i', by omega, rfl, ?_, (hD.fr.trans h4).setBp _ _, by rw [heap_setCell_same h5]; rfl⟩
  rw [Below.heap_setCell _ _ _ _ (show g' ≠ bp by omega)]
  exact h3
theorem RPost.up_ok {Bx : Nat} {vv' : Value} {x : Ex} {u : Value} {st : St} {vbs' : List Nat} {r : R Ex} (hD : Deeper w w1 bp Bx vv) (hr : r = .ok (x, st)) (h1 : TRep w2 (fun b => w1.heap.size ≤ b) vbs' x u) (h2 : RIn w2 bp toks lv vv' st.1 (d + 1) st.2 vbs') (h3 : vbs <+: vbs') (h4 : Fr bp vv vv' w1 w2) :
    w2.cell? ⟨Bx, 0, none⟩ = some (ptrV bp) ∧ w2.cell? ⟨bp, 2, none⟩ = some (.int .i64 (d + 1)) ∧ w2.frozen? ⟨bp, 2, none⟩ = false ∧
      RPost toks bp lv vv d vbs w r (.returned u) (w2.setCell ⟨bp, 2, none⟩ (.int .i64 d)) := by
  have hs := hD.fr.size
  have hF : Fr bp vv' vv' w2 (w2.setCell ⟨bp, 2, none⟩ (.int .i64 d)) := (Fr.refl _ _ _).setBp _ _
  exact ⟨hD.at h4, h2.c2, h2.fz 2, .okI hr (h1.frame (h2.tkeeps hF) (fun b hb _ => Nat.le_trans hs hb) (List.prefix_refl _)) (h2.setD d) h3 ((hD.fr.trans h4).trans hF)⟩
end
theorem down_d {w : World} {bp : Nat} {toks : List Tok} {lv vv : Value} {i : Nat} {d : Int} {vars : List ByteArray} {vbs : List Nat} (h : RIn w bp toks lv vv i d vars vbs) (hg : GoodToks toks) (hd0 : 0 ≤ d) (hd7 : d ≤ 7) :
    Calls Tryz.prog 243 #[ptrV bp] w fun e w1 => ∃ Bx, e = .returned (.func (.func 288) #[] #[.pointer (some ⟨Bx, 0, none⟩)]) ∧ Deeper w w1 bp Bx vv ∧ RIn w1 bp toks lv vv i (d + 1) vars vbs :=
  (down_c h hg hd0 (by omega)).mono fun e w1 hh => by
    obtain ⟨Bx, h1, h2, h3, h4, h5⟩ := hh.2 (by omega)
    exact ⟨Bx, h2, ⟨h1, h3, h5, h.lt_size, fun b hb => h.blt b (.inr (.inr (.inl hb)))⟩, h4⟩
theorem prim_zero_c {toks : List Tok} (hg : GoodToks toks) : RReads 226 toks 8 (primS toks 0) := by
  intro w bp lv vv st vbs h
  have HD : Hid (Calls Tryz.prog 243 #[ptrV bp] w fun e w1 => RFault 4 (tk toks st.1).a bp lv vv 8 w e w1) := (down_c h hg (by omega) (by omega)).mono fun e w1 hh => hh.1 rfl
  unfold ptrV at *
  go_enter_defers Tryz.func226, Tryz.ntmps226
  go_wp2_with (first | (go_at_call 243; refine HD.out.mono ?_; rintro e w1 hF; have hF' := hF; obtain ⟨g, vv', i', h1, rfl, h3⟩ := hF))
  exact (RPost.errI (toks := toks) (vbs := vbs) rfl hF' : RPost toks bp lv vv 8 vbs w (primS toks 0 st) _ _)
theorem prim_word_c {toks : List Tok} (hg : GoodToks toks) (ht : TTs toks) (ex : St → R Ex) (hpo : PartOk toks ex) {d : Int} (hd0 : 0 ≤ d) (hd7 : d ≤ 7) (HP : RReads 139 toks (d + 1) ex) (w : World) (bp : Nat) (lv vv : Value) (st : St) (vbs : List Nat) (h : RIn w bp toks lv vv st.1 d st.2 vbs)
    (hw : (tk toks st.1).k = 110 ∨ (tk toks st.1).k = 118 ∨ (tk toks st.1).k = 97) :
    Calls Tryz.prog 226 #[ptrV bp] w fun e w' => RPost toks bp lv vv d vbs w (bareOf toks ex st) e w' := by
  have HD := hide (down_d h hg hd0 hd7)
  have HN := hide (fun w' (h' : RIn w' bp toks lv vv st.1 (d + 1) st.2 vbs) => now_c h' hg)
  have ff0 := tok_f0
  obtain ⟨t, hT⟩ : ∃ t, t = tk toks st.1 := ⟨_, rfl⟩
  rw [← hT] at HN
  rcases hw with hk | hk | hk
  · have HNu : Hid (∀ w', RIn w' bp toks lv vv st.1 (d + 1) st.2 vbs → Calls Tryz.prog 276 #[ptrV bp, .int .i64 1] w' fun e w'' => e = .returned (.iface 339 (.int .i64 (digVal t.t.data.toList))) ∧ RIn w'' bp toks lv vv (st.1 + 1) (d + 1) st.2 vbs ∧ Fr bp vv vv w' w'') := fun w' h' => (number_c h' hg ht 1 (.inl rfl)).mono fun e w'' hh => by have := hh.1 hk; rw [hT]; simpa using this
    have HR : Hid (bareOf toks ex st = .ok (.num (digVal t.t.data.toList), (st.1 + 1, st.2))) := by unfold Hid bareOf; rw [hT]; simp only [hk, if_true]
    have hkc : kC t.k = 2 := by rw [hT]; exact (ht st.1).kC_num.2 hk
    unfold ptrV tokVC tokB at *
    rw [hkc] at HN
    clear hk hT
    go_enter_defers Tryz.func226, Tryz.ntmps226
    go_wp2_with (first | (go_at_call 243; refine HD.out.mono ?_; rintro e w1 ⟨Bx, rfl, hDp, hR1⟩) | (go_at_call 156; refine (HN.out _ hR1).mono ?_; rintro e w2 ⟨rfl, rfl⟩; have hR2 := (hR1.alloc (tokB t)).drew; have hF2 : Fr bp vv vv w1 _ := ((Fr.refl bp vv w1).alloc (tokB t)).drew; unfold tokB at hR2 hF2; rw [hkc] at hR2 hF2) | (go_at_call 276; refine (HNu.out _ hR2).mono ?_; rintro e w3 ⟨rfl, hR3, hF3⟩))
    obtain ⟨c1, c2, c3, hp⟩ := RPost.up_ok hDp HR.out (.num _) hR3 (List.prefix_refl _) (hF2.trans hF3)
    exact leaves_up hd0 hd7 (by simp) c1 c2 c3 ⟨_, results_tmp (t := 2) rfl _ _ _, hp⟩
  · have hkc : kC t.k = 1 := by rw [hT]; exact (ht st.1).kC_var.2 hk
    have hbo : bareOf toks ex st = varOf t (st.1 + 1, st.2) := by unfold bareOf; rw [← hT]; simp only [show t.k = 118 by rw [hT]; exact hk]; rfl
    have hk' := hk
    unfold tokVC tokB at HN
    rw [hkc] at HN
    have HV := hide (fun w' (h' : RIn w' bp toks lv vv st.1 (d + 1) st.2 vbs) => by have := variable_c h' hg ht hk'; rw [← hT] at this; exact this)
    cases hr : varOf t (st.1 + 1, st.2) with
    | error p =>
      obtain ⟨er, a⟩ := p
      rw [hr] at HV
      have HV' : Hid (∀ w', RIn w' bp toks lv vv st.1 (d + 1) st.2 vbs → Calls Tryz.prog 277 #[ptrV bp] w' fun e w'' => RFault er a bp lv vv (d + 1) w' e w'') := HV.out
      have HR : Hid (bareOf toks ex st = .error (er, a)) := by rw [Hid, hbo, hr]
      clear HV hr hbo hT hk hk'
      unfold ptrV at *
      go_enter_defers Tryz.func226, Tryz.ntmps226
      go_wp2_with (first | (go_at_call 243; refine HD.out.mono ?_; rintro e w1 ⟨Bx, rfl, hDp, hR1⟩) | (go_at_call 156; refine (HN.out _ hR1).mono ?_; rintro e w2 ⟨rfl, rfl⟩; have hR2 := (hR1.alloc (tokB t)).drew; have hF2 : Fr bp vv vv w1 _ := ((Fr.refl bp vv w1).alloc (tokB t)).drew; unfold tokB at hR2 hF2; rw [hkc] at hR2 hF2) | (go_at_call 277; refine (HV'.out _ hR2).mono ?_; rintro e w9 hF; have hF' := hF; obtain ⟨g, vv', i', h1, rfl, h3⟩ := hF))
      obtain ⟨c1, c2, c3, hp⟩ := RPost.up_err hDp (hF'.after (hF2))
      exact leaves_up hd0 hd7 (by simp) c1 c2 c3 (RPost.errI HR.out hp)
    | ok p =>
      obtain ⟨x, st2⟩ := p
      rw [hr] at HV
      have HV' : Hid (∀ w', RIn w' bp toks lv vv st.1 (d + 1) st.2 vbs → Calls Tryz.prog 277 #[ptrV bp] w' fun e w'' => ∃ (u vv' : Value) (vbs' : List Nat), e = .returned u ∧ TRep w'' (fun b => w'.heap.size ≤ b) vbs' x u ∧ RIn w'' bp toks lv vv' st2.1 (d + 1) st2.2 vbs' ∧ vbs <+: vbs' ∧ Fr bp vv vv' w' w'') := HV.out
      have HR : Hid (bareOf toks ex st = .ok (x, st2)) := by rw [Hid, hbo, hr]
      clear HV hr hbo hT hk hk'
      unfold ptrV at *
      go_enter_defers Tryz.func226, Tryz.ntmps226
      go_wp2_with (first | (go_at_call 243; refine HD.out.mono ?_; rintro e w1 ⟨Bx, rfl, hDp, hR1⟩) | (go_at_call 156; refine (HN.out _ hR1).mono ?_; rintro e w2 ⟨rfl, rfl⟩; have hR2 := (hR1.alloc (tokB t)).drew; have hF2 : Fr bp vv vv w1 _ := ((Fr.refl bp vv w1).alloc (tokB t)).drew; unfold tokB at hR2 hF2; rw [hkc] at hR2 hF2) | (go_at_call 277; refine (HV'.out _ hR2).mono ?_; rintro e w9 ⟨u9, vv9, vbs9, rfl, r1, r2, r3, r4⟩; obtain ⟨tu9, vu9, hu9, _⟩ := r1.form; subst hu9))
      obtain ⟨c1, c2, c3, hp⟩ := RPost.up_ok hDp HR.out (r1.mono (fun b hb _ => Nat.le_trans hF2.size hb)) r2 (r3) (hF2.trans r4)
      exact leaves_up hd0 hd7 (by simp) c1 c2 c3 ⟨_, results_tmp (t := 2) rfl _ _ _, hp⟩
  · have hkc : kC t.k = 0 := by rw [hT]; exact (ht st.1).kC_name.2 hk
    have hbo : bareOf toks ex st = namedOf toks ex st := by unfold bareOf namedOf; simp only [hk]; rfl
    have hk' := hk
    unfold tokVC tokB at HN
    rw [hkc] at HN
    have HV := hide (fun w' (h' : RIn w' bp toks lv vv st.1 (d + 1) st.2 vbs) => named_c hg ht ex hpo HP w' bp lv vv st vbs h' hk')
    cases hr : namedOf toks ex st with
    | error p =>
      obtain ⟨er, a⟩ := p
      rw [hr] at HV
      have HV' : Hid (∀ w', RIn w' bp toks lv vv st.1 (d + 1) st.2 vbs → Calls Tryz.prog 278 #[ptrV bp] w' fun e w'' => RFault er a bp lv vv (d + 1) w' e w'') := HV.out
      have HR : Hid (bareOf toks ex st = .error (er, a)) := by rw [Hid, hbo, hr]
      clear HV hr hbo hT hk hk'
      unfold ptrV at *
      go_enter_defers Tryz.func226, Tryz.ntmps226
      go_wp2_with (first | (go_at_call 243; refine HD.out.mono ?_; rintro e w1 ⟨Bx, rfl, hDp, hR1⟩) | (go_at_call 156; refine (HN.out _ hR1).mono ?_; rintro e w2 ⟨rfl, rfl⟩; have hR2 := (hR1.alloc (tokB t)).drew; have hF2 : Fr bp vv vv w1 _ := ((Fr.refl bp vv w1).alloc (tokB t)).drew; unfold tokB at hR2 hF2; rw [hkc] at hR2 hF2) | (go_at_call 278; refine (HV'.out _ hR2).mono ?_; rintro e w9 hF; have hF' := hF; obtain ⟨g, vv', i', h1, rfl, h3⟩ := hF))
      obtain ⟨c1, c2, c3, hp⟩ := RPost.up_err hDp (hF'.after (hF2))
      exact leaves_up hd0 hd7 (by simp) c1 c2 c3 (RPost.errI HR.out hp)
    | ok p =>
      obtain ⟨x, st2⟩ := p
      rw [hr] at HV
      have HV' : Hid (∀ w', RIn w' bp toks lv vv st.1 (d + 1) st.2 vbs → Calls Tryz.prog 278 #[ptrV bp] w' fun e w'' => ∃ (u vv' : Value) (vbs' : List Nat), e = .returned u ∧ TRep w'' (fun b => w'.heap.size ≤ b) vbs' x u ∧ RIn w'' bp toks lv vv' st2.1 (d + 1) st2.2 vbs' ∧ vbs <+: vbs' ∧ Fr bp vv vv' w' w'') := HV.out
      have HR : Hid (bareOf toks ex st = .ok (x, st2)) := by rw [Hid, hbo, hr]
      clear HV hr hbo hT hk hk'
      unfold ptrV at *
      go_enter_defers Tryz.func226, Tryz.ntmps226
      go_wp2_with (first | (go_at_call 243; refine HD.out.mono ?_; rintro e w1 ⟨Bx, rfl, hDp, hR1⟩) | (go_at_call 156; refine (HN.out _ hR1).mono ?_; rintro e w2 ⟨rfl, rfl⟩; have hR2 := (hR1.alloc (tokB t)).drew; have hF2 : Fr bp vv vv w1 _ := ((Fr.refl bp vv w1).alloc (tokB t)).drew; unfold tokB at hR2 hF2; rw [hkc] at hR2 hF2) | (go_at_call 278; refine (HV'.out _ hR2).mono ?_; rintro e w9 ⟨u9, vv9, vbs9, rfl, r1, r2, r3, r4⟩; obtain ⟨tu9, vu9, hu9, _⟩ := r1.form; subst hu9))
      obtain ⟨c1, c2, c3, hp⟩ := RPost.up_ok hDp HR.out (r1.mono (fun b hb _ => Nat.le_trans hF2.size hb)) r2 (r3) (hF2.trans r4)
      exact leaves_up hd0 hd7 (by simp) c1 c2 c3 ⟨_, results_tmp (t := 2) rfl _ _ _, hp⟩
end Go.Proofs.YtodpkdajbnceoaaGreatDoor
