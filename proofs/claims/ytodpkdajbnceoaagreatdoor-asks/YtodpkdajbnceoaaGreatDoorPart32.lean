import Derived.Test.YtodpkdajbnceoaaGreatDoorPart31
set_option linter.all false
set_option maxHeartbeats 2000000
set_option maxRecDepth 100000
namespace Go.Proofs.YtodpkdajbnceoaaGreatDoor
open Go.RowKit
theorem bare_sign {toks : List Tok} (ht : TTs toks) (ex : St → R Ex) (st : St) (hw : ¬ ((tk toks st.1).k = 110 ∨ (tk toks st.1).k = 118 ∨ (tk toks st.1).k = 97)) :
    bareOf toks ex st = if decide ((tk toks st.1).t = B [45]) then (if (tk toks (st.1 + 1)).k = 110 then .ok (.num (-(digVal (tk toks (st.1 + 1)).t.data.toList)), (st.1 + 2, st.2)) else .error (2, (tk toks (st.1 + 1)).a))
      else if decide ((tk toks st.1).t = B [40]) then (match ex (st.1 + 1, st.2) with | .error e => .error e | .ok (x, st') => mustT toks [41] x st')
      else if decide ((tk toks st.1).t = B [91]) then listOf toks ex (st.1 + 1, st.2) else .error (2, (tk toks st.1).a) := by
  have htt := ht st.1
  rw [← htt.isT (s := [45]) (by unfold SignLike; decide), ← htt.isT (s := [40]) (by unfold SignLike; decide), ← htt.isT (s := [91]) (by unfold SignLike; decide)]
  unfold bareOf
  simp only [if_neg (fun e => hw (.inl e)), if_neg (fun e => hw (.inr (.inl e))), if_neg (fun e => hw (.inr (.inr e)))]
  rfl
theorem prim_minus_c {toks : List Tok} (hg : GoodToks toks) (ht : TTs toks) (ex : St → R Ex) (hpo : PartOk toks ex) {d : Int} (hd0 : 0 ≤ d) (hd7 : d ≤ 7) (HP : RReads 139 toks (d + 1) ex) (w : World) (bp : Nat) (lv vv : Value) (st : St) (vbs : List Nat) (h : RIn w bp toks lv vv st.1 d st.2 vbs)
    (hw : ¬ ((tk toks st.1).k = 110 ∨ (tk toks st.1).k = 118 ∨ (tk toks st.1).k = 97)) (q45 : (tk toks st.1).t = B [45]) :
    Calls Tryz.prog 226 #[ptrV bp] w fun e w' => RPost toks bp lv vv d vbs w (bareOf toks ex st) e w' := by
  have HD := hide (down_d h hg hd0 hd7)
  have HN := hide (fun w' (h' : RIn w' bp toks lv vv st.1 (d + 1) st.2 vbs) => now_c h' hg)
  have ff0 := tok_f0
  have htt := ht st.1
  have hb0 := bare_sign ht ex st hw
  obtain ⟨t, hT⟩ : ∃ t, t = tk toks st.1 := ⟨_, rfl⟩
  rw [← hT] at HN htt hw hb0 q45
  obtain ⟨K, hK⟩ : ∃ K, K = kC t.k := ⟨_, rfl⟩
  have k2 : ¬ K = 2 := fun e => hw (.inl (htt.kC_num.1 (by rw [← hK]; exact e)))
  have k1 : ¬ K = 1 := fun e => hw (.inr (.inl (htt.kC_var.1 (by rw [← hK]; exact e))))
  have k0 : ¬ K = 0 := fun e => hw (.inr (.inr (htt.kC_name.1 (by rw [← hK]; exact e))))
  have HK := hide hK.symm
  unfold tokVC tokB at HN
  rw [← hK] at HN
  clear hK htt hw h
  rw [decide_eq_true q45, if_pos rfl] at hb0
  have HT45 : Hid (∀ w', RIn w' bp toks lv vv st.1 (d + 1) st.2 vbs → Calls Tryz.prog 201 #[ptrV bp, .string (B [45])] w' fun e w'' => e = .returned (.bool true) ∧ RIn w'' bp toks lv vv (st.1 + 1) (d + 1) st.2 vbs ∧ Fr bp vv vv w' w'') := fun w' h' => by have := takes_c h' hg ht (B [45]); rw [if_pos (by rw [← hT]; exact q45), decide_eq_true (by rw [← hT]; exact q45), stepI_sign (s := [45]) ht (by decide) (by rw [← hT]; exact q45)] at this; exact this
  have HM := hide (fun w' (h' : RIn w' bp toks lv vv (st.1 + 1) (d + 1) st.2 vbs) => number_c h' hg ht (-1) (.inr rfl))
  by_cases hn : (tk toks (st.1 + 1)).k = 110
  · have HR : Hid (bareOf toks ex st = .ok (.num (-(digVal (tk toks (st.1 + 1)).t.data.toList)), (st.1 + 2, st.2))) := by rw [Hid, hb0, if_pos hn]
    have HM' : Hid (∀ w', RIn w' bp toks lv vv (st.1 + 1) (d + 1) st.2 vbs → Calls Tryz.prog 276 #[ptrV bp, .int .i64 (-1)] w' fun e w'' => e = .returned (.iface 339 (.int .i64 (-(digVal (tk toks (st.1 + 1)).t.data.toList)))) ∧ RIn w'' bp toks lv vv (st.1 + 1 + 1) (d + 1) st.2 vbs ∧ Fr bp vv vv w' w'') := fun w' h' => (HM.out w' h').mono fun e w'' hh => by have := hh.1 hn; simpa using this
    clear HM hn hb0 hT q45
    unfold ptrV at *
    go_enter_defers Tryz.func226, Tryz.ntmps226
    go_wp2_with (first | (go_at_call 243; refine HD.out.mono ?_; rintro e w1 ⟨Bx, rfl, hDp, hR1⟩) | (go_at_call 156; refine (HN.out _ hR1).mono ?_; rintro e w2 ⟨rfl, rfl⟩; have hR2 := (hR1.alloc (tokB t)).drew; have hF2 : Fr bp vv vv w1 _ := ((Fr.refl bp vv w1).alloc (tokB t)).drew; unfold tokB at hR2 hF2; rw [HK.out] at hR2 hF2) | (go_at_call 201; refine (HT45.out _ hR2).mono ?_; clear HT45; rintro e w3 ⟨rfl, hR3, hF3⟩) | (go_at_call 276; refine (HM'.out _ hR3).mono ?_; rintro e w9 ⟨rfl, hR9, hF9⟩))
    obtain ⟨c1, c2, c3, hp⟩ := RPost.up_ok hDp HR.out (.num _) hR9 (List.prefix_refl _) (hF2.trans (hF3.trans hF9))
    exact leaves_up hd0 hd7 (by simp) c1 c2 c3 ⟨_, results_tmp (t := 2) rfl _ _ _, hp⟩
  · have HR : Hid (bareOf toks ex st = .error (2, (tk toks (st.1 + 1)).a)) := by rw [Hid, hb0, if_neg hn]
    have HM' : Hid (∀ w', RIn w' bp toks lv vv (st.1 + 1) (d + 1) st.2 vbs → Calls Tryz.prog 276 #[ptrV bp, .int .i64 (-1)] w' fun e w'' => RFault 2 (tk toks (st.1 + 1)).a bp lv vv (d + 1) w' e w'') := fun w' h' => (HM.out w' h').mono fun e w'' hh => hh.2 hn
    clear HM hn hb0 hT q45
    unfold ptrV at *
    go_enter_defers Tryz.func226, Tryz.ntmps226
    go_wp2_with (first | (go_at_call 243; refine HD.out.mono ?_; rintro e w1 ⟨Bx, rfl, hDp, hR1⟩) | (go_at_call 156; refine (HN.out _ hR1).mono ?_; rintro e w2 ⟨rfl, rfl⟩; have hR2 := (hR1.alloc (tokB t)).drew; have hF2 : Fr bp vv vv w1 _ := ((Fr.refl bp vv w1).alloc (tokB t)).drew; unfold tokB at hR2 hF2; rw [HK.out] at hR2 hF2) | (go_at_call 201; refine (HT45.out _ hR2).mono ?_; clear HT45; rintro e w3 ⟨rfl, hR3, hF3⟩) | (go_at_call 276; refine (HM'.out _ hR3).mono ?_; rintro e w9 hF; have hF' := hF; obtain ⟨g, vv', i', h1, rfl, h3⟩ := hF))
    obtain ⟨c1, c2, c3, hp⟩ := RPost.up_err hDp (hF'.after (hF2.trans hF3))
    exact leaves_up hd0 hd7 (by simp) c1 c2 c3 (RPost.errI HR.out hp)
theorem prim_paren_c {toks : List Tok} (hg : GoodToks toks) (ht : TTs toks) (ex : St → R Ex) (hpo : PartOk toks ex) {d : Int} (hd0 : 0 ≤ d) (hd7 : d ≤ 7) (HP : RReads 139 toks (d + 1) ex) (w : World) (bp : Nat) (lv vv : Value) (st : St) (vbs : List Nat) (h : RIn w bp toks lv vv st.1 d st.2 vbs)
    (hw : ¬ ((tk toks st.1).k = 110 ∨ (tk toks st.1).k = 118 ∨ (tk toks st.1).k = 97)) (n45 : ¬ (tk toks st.1).t = B [45]) (q40 : (tk toks st.1).t = B [40]) :
    Calls Tryz.prog 226 #[ptrV bp] w fun e w' => RPost toks bp lv vv d vbs w (bareOf toks ex st) e w' := by
  have HD := hide (down_d h hg hd0 hd7)
  have HN := hide (fun w' (h' : RIn w' bp toks lv vv st.1 (d + 1) st.2 vbs) => now_c h' hg)
  have ff0 := tok_f0
  have htt := ht st.1
  have hb0 := bare_sign ht ex st hw
  obtain ⟨t, hT⟩ : ∃ t, t = tk toks st.1 := ⟨_, rfl⟩
  rw [← hT] at HN htt hw hb0 n45 q40
  obtain ⟨K, hK⟩ : ∃ K, K = kC t.k := ⟨_, rfl⟩
  have k2 : ¬ K = 2 := fun e => hw (.inl (htt.kC_num.1 (by rw [← hK]; exact e)))
  have k1 : ¬ K = 1 := fun e => hw (.inr (.inl (htt.kC_var.1 (by rw [← hK]; exact e))))
  have k0 : ¬ K = 0 := fun e => hw (.inr (.inr (htt.kC_name.1 (by rw [← hK]; exact e))))
  have HK := hide hK.symm
  unfold tokVC tokB at HN
  rw [← hK] at HN
  clear hK htt hw h
  rw [decide_eq_false n45, if_neg (by simp), decide_eq_true q40, if_pos rfl] at hb0
  have HT45 : Hid (∀ w', RIn w' bp toks lv vv st.1 (d + 1) st.2 vbs → Calls Tryz.prog 201 #[ptrV bp, .string (B [45])] w' fun e w'' => e = .returned (.bool false) ∧ RIn w'' bp toks lv vv st.1 (d + 1) st.2 vbs ∧ Fr bp vv vv w' w'') := fun w' h' => by have := takes_c h' hg ht (B [45]); rw [← hT, if_neg n45, decide_eq_false n45] at this; exact this
  have HT40 : Hid (∀ w', RIn w' bp toks lv vv st.1 (d + 1) st.2 vbs → Calls Tryz.prog 201 #[ptrV bp, .string (B [40])] w' fun e w'' => e = .returned (.bool true) ∧ RIn w'' bp toks lv vv (st.1 + 1) (d + 1) st.2 vbs ∧ Fr bp vv vv w' w'') := fun w' h' => by have := takes_c h' hg ht (B [40]); rw [if_pos (by rw [← hT]; exact q40), decide_eq_true (by rw [← hT]; exact q40), stepI_sign (s := [40]) ht (by decide) (by rw [← hT]; exact q40)] at this; exact this
  have HPx := hide (fun w' (h' : RIn w' bp toks lv vv (st.1 + 1) (d + 1) st.2 vbs) => HP w' bp lv vv (st.1 + 1, st.2) vbs h')
  cases hex : ex (st.1 + 1, st.2) with
  | error p =>
    obtain ⟨er, a⟩ := p
    rw [hex] at HPx hb0
    have HPx' : Hid (∀ w', RIn w' bp toks lv vv (st.1 + 1) (d + 1) st.2 vbs → Calls Tryz.prog 139 #[ptrV bp] w' fun e w'' => RFault er a bp lv vv (d + 1) w' e w'') := HPx.out
    have HR : Hid (bareOf toks ex st = .error (er, a)) := hb0
    clear HPx hex hb0 hT q40 n45
    unfold ptrV at *
    go_enter_defers Tryz.func226, Tryz.ntmps226
    go_wp2_with (first | (go_at_call 243; refine HD.out.mono ?_; rintro e w1 ⟨Bx, rfl, hDp, hR1⟩) | (go_at_call 156; refine (HN.out _ hR1).mono ?_; rintro e w2 ⟨rfl, rfl⟩; have hR2 := (hR1.alloc (tokB t)).drew; have hF2 : Fr bp vv vv w1 _ := ((Fr.refl bp vv w1).alloc (tokB t)).drew; unfold tokB at hR2 hF2; rw [HK.out] at hR2 hF2) | (go_at_call 201; refine (HT45.out _ hR2).mono ?_; clear HT45; rintro e w3 ⟨rfl, hR3, hF3⟩) | (go_at_call 201; refine (HT40.out _ hR3).mono ?_; clear HT40; rintro e w4 ⟨rfl, hR4, hF4⟩) | (go_at_call 139; refine (HPx'.out _ hR4).mono ?_; rintro e w9 hF; have hF' := hF; obtain ⟨g, vv', i', h1, rfl, h3⟩ := hF))
    obtain ⟨c1, c2, c3, hp⟩ := RPost.up_err hDp (hF'.after (hF2.trans (hF3.trans hF4)))
    exact leaves_up hd0 hd7 (by simp) c1 c2 c3 (RPost.errI HR.out hp)
  | ok p =>
    obtain ⟨x, st2⟩ := p
    rw [hex] at HPx hb0
    have HPx' : Hid (∀ w', RIn w' bp toks lv vv (st.1 + 1) (d + 1) st.2 vbs → Calls Tryz.prog 139 #[ptrV bp] w' fun e w'' => ∃ (u vv' : Value) (vbs' : List Nat), e = .returned u ∧ TRep w'' (fun b => w'.heap.size ≤ b) vbs' x u ∧ RIn w'' bp toks lv vv' st2.1 (d + 1) st2.2 vbs' ∧ vbs <+: vbs' ∧ Fr bp vv vv' w' w'') := HPx.out
    have hisT3 := (ht st2.1).isT (s := [41]) (by unfold SignLike; decide)
    have hmu : bareOf toks ex st = if isT (tk toks st2.1) [41] then .ok (x, (st2.1 + 1, st2.2)) else .error (2, (tk toks st2.1).a) := hb0
    rw [hisT3] at hmu
    have HM := hide (fun (w' : World) (vv' : Value) (vbs' : List Nat) (h' : RIn w' bp toks lv vv' st2.1 (d + 1) st2.2 vbs') => must_c h' hg ht (B [41]))
    by_cases hq3 : (tk toks st2.1).t = B [41]
    · have HR : Hid (bareOf toks ex st = .ok (x, (st2.1 + 1, st2.2))) := hmu.trans (by rw [decide_eq_true hq3, if_pos rfl])
      have HM' : Hid (∀ (w' : World) (vv' : Value) (vbs' : List Nat), RIn w' bp toks lv vv' st2.1 (d + 1) st2.2 vbs' → Calls Tryz.prog 159 #[ptrV bp, .string (B [41])] w' fun e w'' => e = .returned (.tuple #[]) ∧ RIn w'' bp toks lv vv' (st2.1 + 1) (d + 1) st2.2 vbs' ∧ Fr bp vv' vv' w' w'') := fun w' vv' vbs' h' => (HM.out w' vv' vbs' h').mono fun e w'' h => by have := h.1 hq3; rwa [stepI_sign (s := [41]) ht (by decide) hq3] at this
      clear HM hmu hisT3 hq3 HPx hex hb0 hT q40 n45
      unfold ptrV at *
      go_enter_defers Tryz.func226, Tryz.ntmps226
      go_wp2_with (first | (go_at_call 243; refine HD.out.mono ?_; rintro e w1 ⟨Bx, rfl, hDp, hR1⟩) | (go_at_call 156; refine (HN.out _ hR1).mono ?_; rintro e w2 ⟨rfl, rfl⟩; have hR2 := (hR1.alloc (tokB t)).drew; have hF2 : Fr bp vv vv w1 _ := ((Fr.refl bp vv w1).alloc (tokB t)).drew; unfold tokB at hR2 hF2; rw [HK.out] at hR2 hF2) | (go_at_call 201; refine (HT45.out _ hR2).mono ?_; clear HT45; rintro e w3 ⟨rfl, hR3, hF3⟩) | (go_at_call 201; refine (HT40.out _ hR3).mono ?_; clear HT40; rintro e w4 ⟨rfl, hR4, hF4⟩) | (go_at_call 139; refine (HPx'.out _ hR4).mono ?_; rintro e w8 ⟨u8, vv8, vbs8, rfl, r1, r2, r3, r4⟩; obtain ⟨tu8, vu8, hu8, _⟩ := r1.form; subst hu8) | (go_at_call 159; refine (HM'.out _ _ _ r2).mono ?_; rintro e w9 ⟨rfl, s1, s2⟩))
      obtain ⟨c1, c2, c3, hp⟩ := RPost.up_ok hDp HR.out (r1.frame (r2.tkeeps s2) (fun b hb _ => Nat.le_trans (hF2.trans (hF3.trans hF4)).size hb) (List.prefix_refl _)) s1 (r3) (hF2.trans (hF3.trans (hF4.trans (r4.trans s2))))
      exact leaves_up hd0 hd7 (by simp) c1 c2 c3 ⟨_, results_tmp (t := 2) rfl _ _ _, hp⟩
    · have HR : Hid (bareOf toks ex st = .error (2, (tk toks st2.1).a)) := hmu.trans (by rw [decide_eq_false hq3, if_neg (by simp)])
      have HM' : Hid (∀ (w' : World) (vv' : Value) (vbs' : List Nat), RIn w' bp toks lv vv' st2.1 (d + 1) st2.2 vbs' → Calls Tryz.prog 159 #[ptrV bp, .string (B [41])] w' fun e w'' => RFault 2 (tk toks st2.1).a bp lv vv' (d + 1) w' e w'') := fun w' vv' vbs' h' => (HM.out w' vv' vbs' h').mono fun e w'' h => h.2 hq3
      clear HM hmu hisT3 hq3 HPx hex hb0 hT q40 n45
      unfold ptrV at *
      go_enter_defers Tryz.func226, Tryz.ntmps226
      go_wp2_with (first | (go_at_call 243; refine HD.out.mono ?_; rintro e w1 ⟨Bx, rfl, hDp, hR1⟩) | (go_at_call 156; refine (HN.out _ hR1).mono ?_; rintro e w2 ⟨rfl, rfl⟩; have hR2 := (hR1.alloc (tokB t)).drew; have hF2 : Fr bp vv vv w1 _ := ((Fr.refl bp vv w1).alloc (tokB t)).drew; unfold tokB at hR2 hF2; rw [HK.out] at hR2 hF2) | (go_at_call 201; refine (HT45.out _ hR2).mono ?_; clear HT45; rintro e w3 ⟨rfl, hR3, hF3⟩) | (go_at_call 201; refine (HT40.out _ hR3).mono ?_; clear HT40; rintro e w4 ⟨rfl, hR4, hF4⟩) | (go_at_call 139; refine (HPx'.out _ hR4).mono ?_; rintro e w8 ⟨u8, vv8, vbs8, rfl, r1, r2, r3, r4⟩; obtain ⟨tu8, vu8, hu8, _⟩ := r1.form; subst hu8) | (go_at_call 159; refine (HM'.out _ _ _ r2).mono ?_; rintro e w9 hF; have hF' := hF; obtain ⟨g, vv', i', h1, rfl, h3⟩ := hF))
      obtain ⟨c1, c2, c3, hp⟩ := RPost.up_err hDp (hF'.after (hF2.trans (hF3.trans (hF4.trans r4))))
      exact leaves_up hd0 hd7 (by simp) c1 c2 c3 (RPost.errI HR.out hp)
theorem prim_list_c {toks : List Tok} (hg : GoodToks toks) (ht : TTs toks) (ex : St → R Ex) (hpo : PartOk toks ex) {d : Int} (hd0 : 0 ≤ d) (hd7 : d ≤ 7) (HP : RReads 139 toks (d + 1) ex) (w : World) (bp : Nat) (lv vv : Value) (st : St) (vbs : List Nat) (h : RIn w bp toks lv vv st.1 d st.2 vbs)
    (hw : ¬ ((tk toks st.1).k = 110 ∨ (tk toks st.1).k = 118 ∨ (tk toks st.1).k = 97)) (n45 : ¬ (tk toks st.1).t = B [45]) (n40 : ¬ (tk toks st.1).t = B [40]) (q91 : (tk toks st.1).t = B [91]) :
    Calls Tryz.prog 226 #[ptrV bp] w fun e w' => RPost toks bp lv vv d vbs w (bareOf toks ex st) e w' := by
  have HD := hide (down_d h hg hd0 hd7)
  have HN := hide (fun w' (h' : RIn w' bp toks lv vv st.1 (d + 1) st.2 vbs) => now_c h' hg)
  have ff0 := tok_f0
  have htt := ht st.1
  have hb0 := bare_sign ht ex st hw
  obtain ⟨t, hT⟩ : ∃ t, t = tk toks st.1 := ⟨_, rfl⟩
  rw [← hT] at HN htt hw hb0 n45 n40 q91
  obtain ⟨K, hK⟩ : ∃ K, K = kC t.k := ⟨_, rfl⟩
  have k2 : ¬ K = 2 := fun e => hw (.inl (htt.kC_num.1 (by rw [← hK]; exact e)))
  have k1 : ¬ K = 1 := fun e => hw (.inr (.inl (htt.kC_var.1 (by rw [← hK]; exact e))))
  have k0 : ¬ K = 0 := fun e => hw (.inr (.inr (htt.kC_name.1 (by rw [← hK]; exact e))))
  have HK := hide hK.symm
  unfold tokVC tokB at HN
  rw [← hK] at HN
  clear hK htt hw h
  rw [decide_eq_false n45, if_neg (by simp), decide_eq_false n40, if_neg (by simp), decide_eq_true q91, if_pos rfl] at hb0
  have HT45 : Hid (∀ w', RIn w' bp toks lv vv st.1 (d + 1) st.2 vbs → Calls Tryz.prog 201 #[ptrV bp, .string (B [45])] w' fun e w'' => e = .returned (.bool false) ∧ RIn w'' bp toks lv vv st.1 (d + 1) st.2 vbs ∧ Fr bp vv vv w' w'') := fun w' h' => by have := takes_c h' hg ht (B [45]); rw [← hT, if_neg n45, decide_eq_false n45] at this; exact this
  have HT40 : Hid (∀ w', RIn w' bp toks lv vv st.1 (d + 1) st.2 vbs → Calls Tryz.prog 201 #[ptrV bp, .string (B [40])] w' fun e w'' => e = .returned (.bool false) ∧ RIn w'' bp toks lv vv st.1 (d + 1) st.2 vbs ∧ Fr bp vv vv w' w'') := fun w' h' => by have := takes_c h' hg ht (B [40]); rw [← hT, if_neg n40, decide_eq_false n40] at this; exact this
  have HT91 : Hid (∀ w', RIn w' bp toks lv vv st.1 (d + 1) st.2 vbs → Calls Tryz.prog 201 #[ptrV bp, .string (B [91])] w' fun e w'' => e = .returned (.bool true) ∧ RIn w'' bp toks lv vv (st.1 + 1) (d + 1) st.2 vbs ∧ Fr bp vv vv w' w'') := fun w' h' => by have := takes_c h' hg ht (B [91]); rw [if_pos (by rw [← hT]; exact q91), decide_eq_true (by rw [← hT]; exact q91), stepI_sign (s := [91]) ht (by decide) (by rw [← hT]; exact q91)] at this; exact this
  have HV := hide (fun w' (h' : RIn w' bp toks lv vv (st.1 + 1) (d + 1) st.2 vbs) => brackets_c hg ht ex hpo HP w' bp lv vv (st.1 + 1, st.2) vbs h')
  cases hr : listOf toks ex (st.1 + 1, st.2) with
  | error p =>
    obtain ⟨er, a⟩ := p
    rw [hr] at HV
    have HV' : Hid (∀ w', RIn w' bp toks lv vv (st.1 + 1) (d + 1) st.2 vbs → Calls Tryz.prog 279 #[ptrV bp] w' fun e w'' => RFault er a bp lv vv (d + 1) w' e w'') := HV.out
    have HR : Hid (bareOf toks ex st = .error (er, a)) := by rw [Hid, hb0, hr]
    clear HV hr hb0 hT q91 n45 n40
    unfold ptrV at *
    go_enter_defers Tryz.func226, Tryz.ntmps226
    go_wp2_with (first | (go_at_call 243; refine HD.out.mono ?_; rintro e w1 ⟨Bx, rfl, hDp, hR1⟩) | (go_at_call 156; refine (HN.out _ hR1).mono ?_; rintro e w2 ⟨rfl, rfl⟩; have hR2 := (hR1.alloc (tokB t)).drew; have hF2 : Fr bp vv vv w1 _ := ((Fr.refl bp vv w1).alloc (tokB t)).drew; unfold tokB at hR2 hF2; rw [HK.out] at hR2 hF2) | (go_at_call 201; refine (HT45.out _ hR2).mono ?_; clear HT45; rintro e w3 ⟨rfl, hR3, hF3⟩) | (go_at_call 201; refine (HT40.out _ hR3).mono ?_; clear HT40; rintro e w4 ⟨rfl, hR4, hF4⟩) | (go_at_call 201; refine (HT91.out _ hR4).mono ?_; clear HT91; rintro e w5 ⟨rfl, hR5, hF5⟩) | (go_at_call 279; refine (HV'.out _ hR5).mono ?_; rintro e w9 hF; have hF' := hF; obtain ⟨g, vv', i', h1, rfl, h3⟩ := hF))
    obtain ⟨c1, c2, c3, hp⟩ := RPost.up_err hDp (hF'.after (hF2.trans (hF3.trans (hF4.trans hF5))))
    exact leaves_up hd0 hd7 (by simp) c1 c2 c3 (RPost.errI HR.out hp)
  | ok p =>
    obtain ⟨x, st2⟩ := p
    rw [hr] at HV
    have HV' : Hid (∀ w', RIn w' bp toks lv vv (st.1 + 1) (d + 1) st.2 vbs → Calls Tryz.prog 279 #[ptrV bp] w' fun e w'' => ∃ (u vv' : Value) (vbs' : List Nat), e = .returned u ∧ TRep w'' (fun b => w'.heap.size ≤ b) vbs' x u ∧ RIn w'' bp toks lv vv' st2.1 (d + 1) st2.2 vbs' ∧ vbs <+: vbs' ∧ Fr bp vv vv' w' w'') := HV.out
    have HR : Hid (bareOf toks ex st = .ok (x, st2)) := by rw [Hid, hb0, hr]
    clear HV hr hb0 hT q91 n45 n40
    unfold ptrV at *
    go_enter_defers Tryz.func226, Tryz.ntmps226
    go_wp2_with (first | (go_at_call 243; refine HD.out.mono ?_; rintro e w1 ⟨Bx, rfl, hDp, hR1⟩) | (go_at_call 156; refine (HN.out _ hR1).mono ?_; rintro e w2 ⟨rfl, rfl⟩; have hR2 := (hR1.alloc (tokB t)).drew; have hF2 : Fr bp vv vv w1 _ := ((Fr.refl bp vv w1).alloc (tokB t)).drew; unfold tokB at hR2 hF2; rw [HK.out] at hR2 hF2) | (go_at_call 201; refine (HT45.out _ hR2).mono ?_; clear HT45; rintro e w3 ⟨rfl, hR3, hF3⟩) | (go_at_call 201; refine (HT40.out _ hR3).mono ?_; clear HT40; rintro e w4 ⟨rfl, hR4, hF4⟩) | (go_at_call 201; refine (HT91.out _ hR4).mono ?_; clear HT91; rintro e w5 ⟨rfl, hR5, hF5⟩) | (go_at_call 279; refine (HV'.out _ hR5).mono ?_; rintro e w9 ⟨u9, vv9, vbs9, rfl, r1, r2, r3, r4⟩; obtain ⟨tu9, vu9, hu9, _⟩ := r1.form; subst hu9))
    obtain ⟨c1, c2, c3, hp⟩ := RPost.up_ok hDp HR.out (r1.mono (fun b hb _ => Nat.le_trans (hF2.trans (hF3.trans (hF4.trans hF5))).size hb)) r2 (r3) (hF2.trans (hF3.trans (hF4.trans (hF5.trans r4))))
    exact leaves_up hd0 hd7 (by simp) c1 c2 c3 ⟨_, results_tmp (t := 2) rfl _ _ _, hp⟩
theorem prim_none_c {toks : List Tok} (hg : GoodToks toks) (ht : TTs toks) (ex : St → R Ex) (hpo : PartOk toks ex) {d : Int} (hd0 : 0 ≤ d) (hd7 : d ≤ 7) (HP : RReads 139 toks (d + 1) ex) (w : World) (bp : Nat) (lv vv : Value) (st : St) (vbs : List Nat) (h : RIn w bp toks lv vv st.1 d st.2 vbs)
    (hw : ¬ ((tk toks st.1).k = 110 ∨ (tk toks st.1).k = 118 ∨ (tk toks st.1).k = 97)) (n45 : ¬ (tk toks st.1).t = B [45]) (n40 : ¬ (tk toks st.1).t = B [40]) (n91 : ¬ (tk toks st.1).t = B [91]) :
    Calls Tryz.prog 226 #[ptrV bp] w fun e w' => RPost toks bp lv vv d vbs w (bareOf toks ex st) e w' := by
  have HD := hide (down_d h hg hd0 hd7)
  have HN := hide (fun w' (h' : RIn w' bp toks lv vv st.1 (d + 1) st.2 vbs) => now_c h' hg)
  have ff0 := tok_f0
  have htt := ht st.1
  have hb0 := bare_sign ht ex st hw
  obtain ⟨t, hT⟩ : ∃ t, t = tk toks st.1 := ⟨_, rfl⟩
  rw [← hT] at HN htt hw hb0 n45 n40 n91
  obtain ⟨K, hK⟩ : ∃ K, K = kC t.k := ⟨_, rfl⟩
  have k2 : ¬ K = 2 := fun e => hw (.inl (htt.kC_num.1 (by rw [← hK]; exact e)))
  have k1 : ¬ K = 1 := fun e => hw (.inr (.inl (htt.kC_var.1 (by rw [← hK]; exact e))))
  have k0 : ¬ K = 0 := fun e => hw (.inr (.inr (htt.kC_name.1 (by rw [← hK]; exact e))))
  have HK := hide hK.symm
  unfold tokVC tokB at HN
  rw [← hK] at HN
  clear hK htt hw h
  rw [decide_eq_false n45, if_neg (by simp), decide_eq_false n40, if_neg (by simp), decide_eq_false n91, if_neg (by simp)] at hb0
  have HT45 : Hid (∀ w', RIn w' bp toks lv vv st.1 (d + 1) st.2 vbs → Calls Tryz.prog 201 #[ptrV bp, .string (B [45])] w' fun e w'' => e = .returned (.bool false) ∧ RIn w'' bp toks lv vv st.1 (d + 1) st.2 vbs ∧ Fr bp vv vv w' w'') := fun w' h' => by have := takes_c h' hg ht (B [45]); rw [← hT, if_neg n45, decide_eq_false n45] at this; exact this
  have HT40 : Hid (∀ w', RIn w' bp toks lv vv st.1 (d + 1) st.2 vbs → Calls Tryz.prog 201 #[ptrV bp, .string (B [40])] w' fun e w'' => e = .returned (.bool false) ∧ RIn w'' bp toks lv vv st.1 (d + 1) st.2 vbs ∧ Fr bp vv vv w' w'') := fun w' h' => by have := takes_c h' hg ht (B [40]); rw [← hT, if_neg n40, decide_eq_false n40] at this; exact this
  have HT91 : Hid (∀ w', RIn w' bp toks lv vv st.1 (d + 1) st.2 vbs → Calls Tryz.prog 201 #[ptrV bp, .string (B [91])] w' fun e w'' => e = .returned (.bool false) ∧ RIn w'' bp toks lv vv st.1 (d + 1) st.2 vbs ∧ Fr bp vv vv w' w'') := fun w' h' => by have := takes_c h' hg ht (B [91]); rw [← hT, if_neg n91, decide_eq_false n91] at this; exact this
  have HM := hide (fun (w' : World) (h' : RIn w' bp toks lv vv st.1 (d + 1) st.2 vbs) => misplaced_c h' hg)
  rw [← hT] at HM
  have HR : Hid (bareOf toks ex st = .error (2, t.a)) := hb0
  clear hb0 hT n45 n40 n91
  unfold ptrV at *
  go_enter_defers Tryz.func226, Tryz.ntmps226
  go_wp2_with (first | (go_at_call 243; refine HD.out.mono ?_; rintro e w1 ⟨Bx, rfl, hDp, hR1⟩) | (go_at_call 156; refine (HN.out _ hR1).mono ?_; rintro e w2 ⟨rfl, rfl⟩; have hR2 := (hR1.alloc (tokB t)).drew; have hF2 : Fr bp vv vv w1 _ := ((Fr.refl bp vv w1).alloc (tokB t)).drew; unfold tokB at hR2 hF2; rw [HK.out] at hR2 hF2) | (go_at_call 201; refine (HT45.out _ hR2).mono ?_; clear HT45; rintro e w3 ⟨rfl, hR3, hF3⟩) | (go_at_call 201; refine (HT40.out _ hR3).mono ?_; clear HT40; rintro e w4 ⟨rfl, hR4, hF4⟩) | (go_at_call 201; refine (HT91.out _ hR4).mono ?_; clear HT91; rintro e w5 ⟨rfl, hR5, hF5⟩) | (go_at_call 157; refine (HM.out _ hR5).mono ?_; rintro e w9 ⟨g, hg2, rfl, hcell, hB⟩))
  obtain ⟨c1, c2, c3, hp⟩ := RPost.up_err hDp ((hR5.faulted hg2 hcell hB).after (hF2.trans (hF3.trans (hF4.trans hF5))))
  exact leaves_up hd0 hd7 (by simp) c1 c2 c3 (RPost.errI HR.out hp)
theorem prim_succ_c {toks : List Tok} (hg : GoodToks toks) (ht : TTs toks) (ex : St → R Ex) (hpo : PartOk toks ex) {d : Int} (hd0 : 0 ≤ d) (hd7 : d ≤ 7) (HP : RReads 139 toks (d + 1) ex) : RReads 226 toks d (bareOf toks ex) := by
  intro w bp lv vv st vbs h
  by_cases hw : (tk toks st.1).k = 110 ∨ (tk toks st.1).k = 118 ∨ (tk toks st.1).k = 97
  · exact prim_word_c hg ht ex hpo hd0 hd7 HP w bp lv vv st vbs h hw
  · by_cases q45 : (tk toks st.1).t = B [45]
    · exact prim_minus_c hg ht ex hpo hd0 hd7 HP w bp lv vv st vbs h hw q45
    · by_cases q40 : (tk toks st.1).t = B [40]
      · exact prim_paren_c hg ht ex hpo hd0 hd7 HP w bp lv vv st vbs h hw q45 q40
      · by_cases q91 : (tk toks st.1).t = B [91]
        · exact prim_list_c hg ht ex hpo hd0 hd7 HP w bp lv vv st vbs h hw q45 q40 q91
        · exact prim_none_c hg ht ex hpo hd0 hd7 HP w bp lv vv st vbs h hw q45 q40 q91
theorem product_c {toks : List Tok} {d : Int} (hg : GoodToks toks) (ht : TTs toks) {prim : St → R Ex} (hpo : PartOk toks prim) (HP : RReads 226 toks d prim) : RReads 181 toks d (productOf toks prim) := by
  intro w bp lv vv st vbs h
  have hmf : ∀ (fn : Fn) (first cap : Array Value) (w : World), (Instr.makeFunc fn first cap).run Tryz.prog w = .ok (.func fn first cap) w := fun _ _ _ _ => rfl
  have HO : Hid (Calls Tryz.prog 180 #[ptrV bp, .int .i64 2, .func (.func 226) #[ptrV bp] #[]] w fun e w' => RPost toks bp lv vv d vbs w (productOf toks prim st) e w') := ops_c hg ht _ prim isMul 2 (fun i => (ht i).mul) hpo (.inr rfl) prim_enter HP w bp lv vv st vbs h
  unfold ptrV at *
  cases hr : productOf toks prim st with
  | error p =>
    obtain ⟨er, a⟩ := p
    rw [hr] at HO
    have HO' : Hid (Calls Tryz.prog 180 #[.pointer (some ⟨bp, 0, none⟩), .int .i64 2, .func (.func 226) #[.pointer (some ⟨bp, 0, none⟩)] #[]] w fun e w' => RFault er a bp lv vv d w e w') := HO.out
    clear HO hr
    go_enter Tryz.func181, Tryz.ntmps181
    go_wp2_with (first | (go_at_call 180; refine HO'.out.mono ?_; rintro e w9 hF; have hF' := hF; obtain ⟨g, vv', i', h1, rfl, h3⟩ := hF))
    exact ⟨rfl, hF'⟩
  | ok p =>
    obtain ⟨x, st2⟩ := p
    rw [hr] at HO
    have HO' : Hid (Calls Tryz.prog 180 #[.pointer (some ⟨bp, 0, none⟩), .int .i64 2, .func (.func 226) #[.pointer (some ⟨bp, 0, none⟩)] #[]] w fun e w' => ∃ (u vv' : Value) (vbs' : List Nat), e = .returned u ∧ TRep w' (fun b => w.heap.size ≤ b) vbs' x u ∧ RIn w' bp toks lv vv' st2.1 d st2.2 vbs' ∧ vbs <+: vbs' ∧ Fr bp vv vv' w w') := HO.out
    clear HO hr
    go_enter Tryz.func181, Tryz.ntmps181
    go_wp2_with (first | (go_at_call 180; refine HO'.out.mono ?_; rintro e w9 ⟨u9, vv9, vbs9, rfl, r1, r2, r3, r4⟩))
    go_ret
    exact ⟨u9, vv9, vbs9, rfl, r1, r2, r3, r4⟩
theorem term_c {toks : List Tok} {d : Int} (hg : GoodToks toks) (ht : TTs toks) (hn : ∀ i, (tk toks i).t.size ≤ 2000) {prim : St → R Ex} (hpo : PartOk toks prim) (HP0 : RReads 226 toks d prim) : RReads 139 toks d (exprOf toks prim) := by
  intro w bp lv vv st vbs h
  have HP := product_c hg ht hpo HP0
  have hmf : ∀ (fn : Fn) (first cap : Array Value) (w : World), (Instr.makeFunc fn first cap).run Tryz.prog w = .ok (.func fn first cap) w := fun _ _ _ _ => rfl
  have HO : Hid (Calls Tryz.prog 180 #[ptrV bp, .int .i64 1, .func (.func 181) #[ptrV bp] #[]] w fun e w' => RPost toks bp lv vv d vbs w (exprOf toks prim st) e w') := ops_c hg ht _ (productOf toks prim) isAdd 1 (fun i => (ht i).add) (product_got hpo hn) (.inl rfl) product_enter HP w bp lv vv st vbs h
  unfold ptrV at *
  clear HP HP0
  cases hr : exprOf toks prim st with
  | error p =>
    obtain ⟨er, a⟩ := p
    rw [hr] at HO
    have HO' : Hid (Calls Tryz.prog 180 #[.pointer (some ⟨bp, 0, none⟩), .int .i64 1, .func (.func 181) #[.pointer (some ⟨bp, 0, none⟩)] #[]] w fun e w' => RFault er a bp lv vv d w e w') := HO.out
    clear HO hr
    go_enter Tryz.func139, Tryz.ntmps139
    go_wp2_with (first | (go_at_call 180; refine HO'.out.mono ?_; rintro e w9 hF; have hF' := hF; obtain ⟨g, vv', i', h1, rfl, h3⟩ := hF))
    exact ⟨rfl, hF'⟩
  | ok p =>
    obtain ⟨x, st2⟩ := p
    rw [hr] at HO
    have HO' : Hid (Calls Tryz.prog 180 #[.pointer (some ⟨bp, 0, none⟩), .int .i64 1, .func (.func 181) #[.pointer (some ⟨bp, 0, none⟩)] #[]] w fun e w' => ∃ (u vv' : Value) (vbs' : List Nat), e = .returned u ∧ TRep w' (fun b => w.heap.size ≤ b) vbs' x u ∧ RIn w' bp toks lv vv' st2.1 d st2.2 vbs' ∧ vbs <+: vbs' ∧ Fr bp vv vv' w w') := HO.out
    clear HO hr
    go_enter Tryz.func139, Tryz.ntmps139
    go_wp2_with (first | (go_at_call 180; refine HO'.out.mono ?_; rintro e w9 ⟨u9, vv9, vbs9, rfl, r1, r2, r3, r4⟩))
    go_ret
    exact ⟨u9, vv9, vbs9, rfl, r1, r2, r3, r4⟩
theorem prim_at_c {toks : List Tok} (hg : GoodToks toks) (ht : TTs toks) (hn : ∀ i, (tk toks i).t.size ≤ 2000) : ∀ k : Nat, k ≤ 8 → RReads 226 toks (8 - (k : Int)) (primS toks k)
  | 0, _ => prim_zero_c hg
  | k + 1, hk => by
    have ih := prim_at_c hg ht hn k (by omega)
    have hpo := prim_got hg hn k
    have e1 : (8 : Int) - ((k + 1 : Nat) : Int) + 1 = 8 - (k : Int) := by omega
    have h := prim_succ_c hg ht (exprOf toks (primS toks k)) (expr_got hpo hn) (d := 8 - ((k + 1 : Nat) : Int)) (by omega) (by omega) (by rw [e1]; exact term_c hg ht hn hpo ih)
    exact h
theorem expr_at_c {toks : List Tok} (hg : GoodToks toks) (ht : TTs toks) (hn : ∀ i, (tk toks i).t.size ≤ 2000) : RReads 139 toks 0 (exprS toks 8) :=
  term_c hg ht hn (prim_got hg hn 8) (prim_at_c hg ht hn 8 (Nat.le_refl _))
theorem ta_hit {P : Program} {t xT : TypeId} {ds : TypeDesc} (hu : P.underlying t = some ds) (hn : ∀ m, ds ≠ .interface m) (v : Value) (w : World) : (Instr.typeAssert (.iface t v) xT t true).run P w = .ok (.tuple #[v, .bool true]) w := by
  unfold Instr.typeAssert
  rw [Sem.run_bind, run_underlying hu w, Result.andThen_ok]
  cases ds <;> first | (exact absurd rfl (hn _)) | simp
theorem Tryz.isFault (v : Value) (w : World) : (Instr.typeAssert (.iface 290 v) 20 290 true).run Tryz.prog w = .ok (.tuple #[v, .bool true]) w :=
  ta_hit Tryz.underlying290 (fun _ h => by cases h) v w
theorem Fr.toBelow {bp n : Nat} {vv vv' : Value} {a b : World} (h : Fr bp vv vv' a b) (hn : n ≤ a.heap.size) (hbp : n ≤ bp) (hv : ∀ k, vv.ownBlock = some k → n ≤ k) : Below n a b :=
  ⟨h.os, h.tape, h.output, h.size, fun k hk => h.block k (by omega) (by omega) (fun e => by have := hv k e; omega)⟩
theorem RIn.start {w2 : World} {toks : List Tok} {v : Value} {n0 : Nat} (hown : w2.ownsRow n0 298 3 v toks.length (tokC toks)) (hp : 0 < toks.length) :
    RIn (w2.alloc (.cells #[v, .int .i64 0, .int .i64 0, .slice none 0 0] 295)) w2.heap.size toks v (.slice none 0 0) 0 0 [] [] := by
  refine ⟨heap_alloc_new w2 _, (ownsRow_base hown (Nat.zero_le _)).alloc _, World.ownsRow_nil _ _ _ _, fun e => ?_, fun e => (by cases e), .inl rfl, hp, rfl, by simp, fun k b hk => (by simp at hk), List.nodup_nil⟩
  have := (hown.lt _ e).2
  omega
theorem fz_alloc {w : World} {b : Nat} {cs : Array Value} {T : TypeId} (h : w.heap[b]? = some (.cells cs T (0, 0))) (o : Obj) (j : Nat) : (w.alloc o).frozen? ⟨b, j, none⟩ = false :=
  fz_of (by rw [Below.heap_alloc _ _ _ (Array.getElem?_eq_some_iff.1 h).1]; exact h) j
theorem readBox {w w2 w9 : World} (hB : Below (w.alloc (.cells #[.nilIface] 90)).heap.size (w.alloc (.cells #[.nilIface] 90)) w2) (v vv' : Value) (h4 : Fr w2.heap.size (.slice none 0 0) vv' (w2.alloc (.cells #[v, .int .i64 0, .int .i64 0, .slice none 0 0] 295)) w9) :
    Below w.heap.size w w9 ∧ w9.heap[w.heap.size]? = some (.cells #[.nilIface] 90 (0, 0)) := by
  have hz := hB.size
  simp at hz
  have hFb : Below (w.heap.size + 1) (w2.alloc _) w9 := h4.toBelow (n := w.heap.size + 1) (by simp; omega) (by omega) (fun k e => by cases e)
  refine ⟨((below_box hB).alloc (by omega) _).trans (hFb.mono (by omega)), ?_⟩
  rw [hFb.block _ (by omega), Below.heap_alloc _ _ _ (by omega)]
  exact boxed hB
end Go.Proofs.YtodpkdajbnceoaaGreatDoor
