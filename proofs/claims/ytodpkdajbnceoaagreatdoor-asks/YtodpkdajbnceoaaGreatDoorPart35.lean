import Derived.Test.YtodpkdajbnceoaaGreatDoorPart34
set_option linter.all false
set_option maxHeartbeats 4000000
set_option maxRecDepth 100000
namespace Go.Proofs.YtodpkdajbnceoaaGreatDoor
open Go.RowKit
theorem other_zero {toks : List Tok} (hg : GoodToks toks) : GReads 202 toks 8 (litRest toks 0).2 := by
  intro w bp lv vv st vbs h
  have HD : Hid (Calls Tryz.prog 243 #[ptrV bp] w fun e w1 => RFault 4 (tk toks st.1).a bp lv vv 8 w e w1) := (down_c h hg (by omega) (by omega)).mono fun e w1 hh => hh.1 rfl
  unfold ptrV at *
  go_enter_defers Tryz.func202, Tryz.ntmps202
  go_wp2_with (first | (go_at_call 243; refine HD.out.mono ?_; rintro e w1 hF; have hF' := hF; obtain ⟨g, vv', i', h1, rfl, h3⟩ := hF))
  exact (GPost.errI (toks := toks) (vbs := vbs) rfl hF' : GPost toks bp lv vv 8 vbs w ((litRest toks 0).2 st) _ _)
theorem goal_zero {toks : List Tok} (hg : GoodToks toks) : GReads 242 toks 8 (litRest toks 0).1 := by
  intro w bp lv vv st vbs h
  have HD : Hid (Calls Tryz.prog 243 #[ptrV bp] w fun e w1 => RFault 4 (tk toks st.1).a bp lv vv 8 w e w1) := (down_c h hg (by omega) (by omega)).mono fun e w1 hh => hh.1 rfl
  unfold ptrV at *
  go_enter_defers Tryz.func242, Tryz.ntmps242
  go_wp2_with (first | (go_at_call 243; refine HD.out.mono ?_; rintro e w1 hF; have hF' := hF; obtain ⟨g, vv', i', h1, rfl, h3⟩ := hF))
  exact (GPost.errI (toks := toks) (vbs := vbs) rfl hF' : GPost toks bp lv vv 8 vbs w ((litRest toks 0).1 st) _ _)
theorem other_succ {toks : List Tok} (hg : GoodToks toks) {d : Int} (hd0 : 0 ≤ d) (hd7 : d ≤ 7) {r : St → R Bd} (HB : GReads 158 toks (d + 1) r) : GReads 202 toks d r := by
  intro w bp lv vv st vbs h
  have HD := hide (down_d h hg hd0 hd7)
  have HB' := hide HB
  clear HB
  cases hr : r st with
  | error p =>
    obtain ⟨er, a⟩ := p
    have H1 := hide (fun (w' : World) (h' : RIn w' bp toks lv vv st.1 (d + 1) st.2 vbs) => HB'.out.err hr h')
    clear hr HB'
    unfold ptrV at *
    go_enter_defers Tryz.func202, Tryz.ntmps202
    go_wp2_with (first | (go_at_call 243; refine HD.out.mono ?_; rintro e w1 ⟨Bx, rfl, hDp, hR1⟩) | (go_at_call 158; refine (H1.out _ hR1).mono ?_; rintro e w9 hF; have hF' := hF; obtain ⟨g, vv', i', h1, rfl, h3⟩ := hF))
    obtain ⟨c1, c2, c3, hp⟩ := RPost.up_err hDp hF'
    exact leaves_up hd0 hd7 (by simp) c1 c2 c3 hp
  | ok p =>
    obtain ⟨x, st2⟩ := p
    have H1 := hide (fun (w' : World) (h' : RIn w' bp toks lv vv st.1 (d + 1) st.2 vbs) => HB'.out.ok hr h')
    clear hr HB'
    unfold ptrV at *
    go_enter_defers Tryz.func202, Tryz.ntmps202
    go_wp2_with (first | (go_at_call 243; refine HD.out.mono ?_; rintro e w1 ⟨Bx, rfl, hDp, hR1⟩) | (go_at_call 158; refine (H1.out _ hR1).mono ?_; rintro e w9 ⟨t9, v9, vv9, vbs9, rfl, r9, p9, f9⟩))
    obtain ⟨c1, c2, c3, hp⟩ := GPost.up_ok (t := t9) (v := v9) (r := .ok (x, st2)) hDp rfl r9 p9 f9
    exact leaves_up hd0 hd7 (by simp) c1 c2 c3 ⟨_, results_tmp (t := 2) rfl _ _ _, hp⟩
theorem must_y {w : World} {bp : Nat} {toks : List Tok} {lv vv : Value} {i : Nat} {d : Int} {vars : List ByteArray} {vbs : List Nat} (h : RIn w bp toks lv vv i d vars vbs) (hg : GoodToks toks) (ht : TTs toks) {s : List UInt8} (hs : s ≠ []) (hq : (tk toks i).t = B s) :
    Calls Tryz.prog 159 #[ptrV bp, .string (B s)] w fun e w' => e = .returned (.tuple #[]) ∧ RIn w' bp toks lv vv (i + 1) d vars vbs ∧ Fr bp vv vv w w' :=
  (must_c h hg ht (B s)).mono fun e w' hh => by have := hh.1 hq; rwa [step_is ht hs hq] at this
theorem must_n {w : World} {bp : Nat} {toks : List Tok} {lv vv : Value} {i : Nat} {d : Int} {vars : List ByteArray} {vbs : List Nat} (h : RIn w bp toks lv vv i d vars vbs) (hg : GoodToks toks) (ht : TTs toks) {s : List UInt8} (hq : (tk toks i).t ≠ B s) :
    Calls Tryz.prog 159 #[ptrV bp, .string (B s)] w fun e w' => RFault 2 (tk toks i).a bp lv vv d w e w' :=
  (must_c h hg ht (B s)).mono fun e w' hh => hh.2 hq
section
variable {toks : List Tok} {d : Int} {w : World} {bp : Nat} {lv vv : Value} {st : St} {vbs : List Nat}
theorem goalC_cut (hg : GoodToks toks) (ht : TTs toks) (hd0 : 0 ≤ d) (hd7 : d ≤ 7) {r : R Bd} {x : Bd} (h : RIn w bp toks lv vv st.1 d st.2 vbs) (hq : (tk toks st.1).t = B [33]) (hr : r = .ok (x, (st.1 + 1, st.2))) :
    Calls Tryz.prog 242 #[ptrV bp] w fun e w' => GPost toks bp lv vv d vbs w r e w' := by
  have HD := hide (down_d h hg hd0 hd7)
  have HT := hide (fun (w' : World) (h' : RIn w' bp toks lv vv st.1 (d + 1) st.2 vbs) => takes_y h' hg ht (s := [33]) (by simp) hq)
  have HR := hide hr
  clear hq hr
  unfold ptrV at *
  go_enter_defers Tryz.func242, Tryz.ntmps242
  go_wp2_with (first | (go_at_call 243; refine HD.out.mono ?_; rintro e w1 ⟨Bx, rfl, hDp, hR1⟩) | (go_at_call 201; refine (HT.out _ hR1).mono ?_; rintro e w2 ⟨rfl, hR2, hF2⟩))
  obtain ⟨c1, c2, c3, hp⟩ := GPost.up_ok hDp HR.out hR2 (List.prefix_refl _) hF2
  exact leaves_up hd0 hd7 (by simp) c1 c2 c3 ⟨_, results_tmp (t := 2) rfl _ _ _, hp⟩
theorem goalC_not (hg : GoodToks toks) (ht : TTs toks) (hd0 : 0 ≤ d) (hd7 : d ≤ 7) {lit : St → R Bd} (HB : GReads 242 toks (d + 1) lit) (h : RIn w bp toks lv vv st.1 d st.2 vbs) (hq1 : (tk toks st.1).t ≠ B [33]) (hq : (tk toks st.1).t = B [92, 43]) :
    Calls Tryz.prog 242 #[ptrV bp] w fun e w' => GPost toks bp lv vv d vbs w (notOf (lit (st.1 + 1, st.2))) e w' := by
  have HD := hide (down_d h hg hd0 hd7)
  have HT1 := hide (fun (w' : World) (h' : RIn w' bp toks lv vv st.1 (d + 1) st.2 vbs) => takes_n h' hg ht (s := [33]) hq1)
  have HT2 := hide (fun (w' : World) (h' : RIn w' bp toks lv vv st.1 (d + 1) st.2 vbs) => takes_y h' hg ht (s := [92, 43]) (by simp) hq)
  have HB' := hide HB
  clear hq hq1 HB
  cases hr : lit (st.1 + 1, st.2) with
  | error p =>
    obtain ⟨er, a⟩ := p
    have H1 := hide (fun (w' : World) (h' : RIn w' bp toks lv vv (st.1 + 1) (d + 1) st.2 vbs) => HB'.out.err hr h')
    clear hr HB'
    unfold ptrV at *
    go_enter_defers Tryz.func242, Tryz.ntmps242
    go_wp2_with (go_at_call 243; refine HD.out.mono ?_; rintro e w1 ⟨Bx, rfl, hDp, hR1⟩)
    refine (HT1.out _ hR1).mono ?_
    rintro e w2 ⟨rfl, hR2, hF2⟩
    go_wp2_with fail
    refine (HT2.out _ hR2).mono ?_
    rintro e w3 ⟨rfl, hR3, hF3⟩
    go_wp2_with fail
    refine (H1.out _ hR3).mono ?_
    rintro e w9 hF
    have hF' := hF
    obtain ⟨g, vv', i', h1, rfl, h3⟩ := hF
    obtain ⟨c1, c2, c3, hp⟩ := RPost.up_err hDp (hF'.after (hF2.trans hF3))
    exact leaves_up hd0 hd7 (by simp) c1 c2 c3 hp
  | ok p =>
    obtain ⟨x, st2⟩ := p
    have H1 := hide (fun (w' : World) (h' : RIn w' bp toks lv vv (st.1 + 1) (d + 1) st.2 vbs) => HB'.out.ok hr h')
    clear hr HB'
    unfold ptrV at *
    go_enter_defers Tryz.func242, Tryz.ntmps242
    go_wp2_with (go_at_call 243; refine HD.out.mono ?_; rintro e w1 ⟨Bx, rfl, hDp, hR1⟩)
    refine (HT1.out _ hR1).mono ?_
    rintro e w2 ⟨rfl, hR2, hF2⟩
    go_wp2_with fail
    refine (HT2.out _ hR2).mono ?_
    rintro e w3 ⟨rfl, hR3, hF3⟩
    go_wp2_with fail
    refine (H1.out _ hR3).mono ?_
    rintro e w9 ⟨t9, v9, vv9, vbs9, rfl, r9, p9, f9⟩
    go_wp2_with fail
    obtain ⟨c1, c2, c3, hp⟩ := GPost.up_ok (r := notOf (.ok (x, st2))) hDp rfl r9 p9 ((hF2.trans hF3).trans f9)
    exact leaves_up hd0 hd7 (by simp) c1 c2 c3 ⟨_, results_tmp (t := 2) rfl _ _ _, hp⟩
theorem goalC_par (hg : GoodToks toks) (ht : TTs toks) (hd0 : 0 ≤ d) (hd7 : d ≤ 7) {body : St → R Bd} (HB : GReads 158 toks (d + 1) body) (h : RIn w bp toks lv vv st.1 d st.2 vbs) (hq1 : (tk toks st.1).t ≠ B [33]) (hq2 : (tk toks st.1).t ≠ B [92, 43]) (hq : (tk toks st.1).t = B [40]) :
    Calls Tryz.prog 242 #[ptrV bp] w fun e w' => GPost toks bp lv vv d vbs w (parOf toks (body (st.1 + 1, st.2))) e w' := by
  have HD := hide (down_d h hg hd0 hd7)
  have HT1 := hide (fun (w' : World) (h' : RIn w' bp toks lv vv st.1 (d + 1) st.2 vbs) => takes_n h' hg ht (s := [33]) hq1)
  have HT2 := hide (fun (w' : World) (h' : RIn w' bp toks lv vv st.1 (d + 1) st.2 vbs) => takes_n h' hg ht (s := [92, 43]) hq2)
  have HT3 := hide (fun (w' : World) (h' : RIn w' bp toks lv vv st.1 (d + 1) st.2 vbs) => takes_y h' hg ht (s := [40]) (by simp) hq)
  have HB' := hide HB
  clear hq hq1 hq2 HB
  cases hr : body (st.1 + 1, st.2) with
  | error p =>
    obtain ⟨er, a⟩ := p
    have H1 := hide (fun (w' : World) (h' : RIn w' bp toks lv vv (st.1 + 1) (d + 1) st.2 vbs) => HB'.out.err hr h')
    clear hr HB'
    unfold ptrV at *
    go_enter_defers Tryz.func242, Tryz.ntmps242
    go_wp2_with (go_at_call 243; refine HD.out.mono ?_; rintro e w1 ⟨Bx, rfl, hDp, hR1⟩)
    refine (HT1.out _ hR1).mono ?_
    rintro e w2 ⟨rfl, hR2, hF2⟩
    go_wp2_with fail
    refine (HT2.out _ hR2).mono ?_
    rintro e w3 ⟨rfl, hR3, hF3⟩
    go_wp2_with fail
    refine (HT3.out _ hR3).mono ?_
    rintro e w4 ⟨rfl, hR4, hF4⟩
    go_wp2_with fail
    refine (H1.out _ hR4).mono ?_
    rintro e w9 hF
    have hF' := hF
    obtain ⟨g, vv', i', h1, rfl, h3⟩ := hF
    obtain ⟨c1, c2, c3, hp⟩ := RPost.up_err hDp (hF'.after ((hF2.trans hF3).trans hF4))
    exact leaves_up hd0 hd7 (by simp) c1 c2 c3 hp
  | ok p =>
    obtain ⟨x, st2⟩ := p
    have H1 := hide (fun (w' : World) (h' : RIn w' bp toks lv vv (st.1 + 1) (d + 1) st.2 vbs) => HB'.out.ok hr h')
    have hi := ht.is st2.1 (s := [41]) (by unfold SignLike; decide)
    by_cases hq5 : (tk toks st2.1).t = B [41]
    · have HM := hide (fun (w' : World) (vv' : Value) (vbs' : List Nat) (h' : RIn w' bp toks lv vv' st2.1 (d + 1) st2.2 vbs') => must_y h' hg ht (s := [41]) (by simp) hq5)
      have HR : Hid (parOf toks (.ok (x, st2)) = .ok (x, (st2.1 + 1, st2.2))) := by unfold Hid parOf mustT; dsimp only; rw [hi, decide_eq_true hq5, if_pos rfl]
      rw [HR.out]
      clear hr HB' hi hq5
      unfold ptrV at *
      go_enter_defers Tryz.func242, Tryz.ntmps242
      go_wp2_with (go_at_call 243; refine HD.out.mono ?_; rintro e w1 ⟨Bx, rfl, hDp, hR1⟩)
      refine (HT1.out _ hR1).mono ?_
      rintro e w2 ⟨rfl, hR2, hF2⟩
      go_wp2_with fail
      refine (HT2.out _ hR2).mono ?_
      rintro e w3 ⟨rfl, hR3, hF3⟩
      go_wp2_with fail
      refine (HT3.out _ hR3).mono ?_
      rintro e w4 ⟨rfl, hR4, hF4⟩
      go_wp2_with fail
      refine (H1.out _ hR4).mono ?_
      rintro e w5 ⟨t5, v5, vv5, vbs5, rfl, r5, p5, f5⟩
      go_wp2_with fail
      refine (HM.out _ _ _ r5).mono ?_
      rintro e w6 ⟨rfl, r6, f6⟩
      go_wp2_with fail
      obtain ⟨c1, c2, c3, hp⟩ := GPost.up_ok (t := t5) (v := v5) (r := .ok (x, (st2.1 + 1, st2.2))) hDp rfl r6 p5 ((((hF2.trans hF3).trans hF4).trans f5).trans f6)
      exact leaves_up hd0 hd7 (by simp) c1 c2 c3 ⟨_, results_tmp (t := 2) rfl _ _ _, hp⟩
    · have HM := hide (fun (w' : World) (vv' : Value) (vbs' : List Nat) (h' : RIn w' bp toks lv vv' st2.1 (d + 1) st2.2 vbs') => must_n h' hg ht (s := [41]) hq5)
      have HR : Hid (parOf toks (.ok (x, st2)) = .error (2, (tk toks st2.1).a)) := by unfold Hid parOf mustT; dsimp only; rw [hi, decide_eq_false hq5, if_neg (by simp)]
      rw [HR.out]
      clear hr HB' hi hq5
      unfold ptrV at *
      go_enter_defers Tryz.func242, Tryz.ntmps242
      go_wp2_with (go_at_call 243; refine HD.out.mono ?_; rintro e w1 ⟨Bx, rfl, hDp, hR1⟩)
      refine (HT1.out _ hR1).mono ?_
      rintro e w2 ⟨rfl, hR2, hF2⟩
      go_wp2_with fail
      refine (HT2.out _ hR2).mono ?_
      rintro e w3 ⟨rfl, hR3, hF3⟩
      go_wp2_with fail
      refine (HT3.out _ hR3).mono ?_
      rintro e w4 ⟨rfl, hR4, hF4⟩
      go_wp2_with fail
      refine (H1.out _ hR4).mono ?_
      rintro e w5 ⟨t5, v5, vv5, vbs5, rfl, r5, p5, f5⟩
      go_wp2_with fail
      refine (HM.out _ _ _ r5).mono ?_
      rintro e w9 hF
      have hF' := hF
      obtain ⟨g, vv', i', h1, rfl, h3⟩ := hF
      obtain ⟨c1, c2, c3, hp⟩ := RPost.up_err hDp (hF'.after (((hF2.trans hF3).trans hF4).trans f5))
      exact leaves_up hd0 hd7 (by simp) c1 c2 c3 hp
theorem goalC_plain (hg : GoodToks toks) (ht : TTs toks) (hd0 : 0 ≤ d) (hd7 : d ≤ 7) {r : St → R Bd} (HB : GReads 287 toks (d + 1) r) (h : RIn w bp toks lv vv st.1 d st.2 vbs) (hq1 : (tk toks st.1).t ≠ B [33]) (hq2 : (tk toks st.1).t ≠ B [92, 43]) (hq3 : (tk toks st.1).t ≠ B [40]) :
    Calls Tryz.prog 242 #[ptrV bp] w fun e w' => GPost toks bp lv vv d vbs w (r st) e w' := by
  have HD := hide (down_d h hg hd0 hd7)
  have HT1 := hide (fun (w' : World) (h' : RIn w' bp toks lv vv st.1 (d + 1) st.2 vbs) => takes_n h' hg ht (s := [33]) hq1)
  have HT2 := hide (fun (w' : World) (h' : RIn w' bp toks lv vv st.1 (d + 1) st.2 vbs) => takes_n h' hg ht (s := [92, 43]) hq2)
  have HT3 := hide (fun (w' : World) (h' : RIn w' bp toks lv vv st.1 (d + 1) st.2 vbs) => takes_n h' hg ht (s := [40]) hq3)
  have HB' := hide HB
  clear hq1 hq2 hq3 HB
  cases hr : r st with
  | error p =>
    obtain ⟨er, a⟩ := p
    have H1 := hide (fun (w' : World) (h' : RIn w' bp toks lv vv st.1 (d + 1) st.2 vbs) => HB'.out.err hr h')
    clear hr HB'
    unfold ptrV at *
    go_enter_defers Tryz.func242, Tryz.ntmps242
    go_wp2_with (go_at_call 243; refine HD.out.mono ?_; rintro e w1 ⟨Bx, rfl, hDp, hR1⟩)
    refine (HT1.out _ hR1).mono ?_
    rintro e w2 ⟨rfl, hR2, hF2⟩
    go_wp2_with fail
    refine (HT2.out _ hR2).mono ?_
    rintro e w3 ⟨rfl, hR3, hF3⟩
    go_wp2_with fail
    refine (HT3.out _ hR3).mono ?_
    rintro e w4 ⟨rfl, hR4, hF4⟩
    go_wp2_with fail
    refine (H1.out _ hR4).mono ?_
    rintro e w9 hF
    have hF' := hF
    obtain ⟨g, vv', i', h1, rfl, h3⟩ := hF
    obtain ⟨c1, c2, c3, hp⟩ := RPost.up_err hDp (hF'.after ((hF2.trans hF3).trans hF4))
    exact leaves_up hd0 hd7 (by simp) c1 c2 c3 hp
  | ok p =>
    obtain ⟨x, st2⟩ := p
    have H1 := hide (fun (w' : World) (h' : RIn w' bp toks lv vv st.1 (d + 1) st.2 vbs) => HB'.out.ok hr h')
    clear hr HB'
    unfold ptrV at *
    go_enter_defers Tryz.func242, Tryz.ntmps242
    go_wp2_with (go_at_call 243; refine HD.out.mono ?_; rintro e w1 ⟨Bx, rfl, hDp, hR1⟩)
    refine (HT1.out _ hR1).mono ?_
    rintro e w2 ⟨rfl, hR2, hF2⟩
    go_wp2_with fail
    refine (HT2.out _ hR2).mono ?_
    rintro e w3 ⟨rfl, hR3, hF3⟩
    go_wp2_with fail
    refine (HT3.out _ hR3).mono ?_
    rintro e w4 ⟨rfl, hR4, hF4⟩
    go_wp2_with fail
    refine (H1.out _ hR4).mono ?_
    rintro e w9 ⟨t9, v9, vv9, vbs9, rfl, r9, p9, f9⟩
    go_wp2_with fail
    obtain ⟨c1, c2, c3, hp⟩ := GPost.up_ok (t := t9) (v := v9) (r := .ok (x, st2)) hDp rfl r9 p9 (((hF2.trans hF3).trans hF4).trans f9)
    exact leaves_up hd0 hd7 (by simp) c1 c2 c3 ⟨_, results_tmp (t := 2) rfl _ _ _, hp⟩
end
theorem goal_succ {toks : List Tok} (hg : GoodToks toks) (ht : TTs toks) {d : Int} (hd0 : 0 ≤ d) (hd7 : d ≤ 7) {lit body : St → R Bd} {ex : St → R Ex} (HL : GReads 242 toks (d + 1) lit) (HB : GReads 158 toks (d + 1) body) (HP : GReads 287 toks (d + 1) (plainOf toks ex)) :
    GReads 242 toks d (goalOf toks lit body ex) := by
  intro w bp lv vv st vbs h
  have i1 := ht.is st.1 (s := [33]) (by unfold SignLike; decide)
  have i2 := ht.is st.1 (s := [92, 43]) (by unfold SignLike; decide)
  have i3 := ht.is st.1 (s := [40]) (by unfold SignLike; decide)
  by_cases h1 : (tk toks st.1).t = B [33]
  · rw [decide_eq_true h1] at i1
    exact goalC_cut hg ht hd0 hd7 h h1 (goalOf_cut i1)
  · rw [decide_eq_false h1] at i1
    by_cases h2 : (tk toks st.1).t = B [92, 43]
    · rw [decide_eq_true h2] at i2
      rw [goalOf_not i1 i2]
      exact goalC_not hg ht hd0 hd7 HL h h1 h2
    · rw [decide_eq_false h2] at i2
      by_cases h3 : (tk toks st.1).t = B [40]
      · rw [decide_eq_true h3] at i3
        rw [goalOf_par i1 i2 i3]
        exact goalC_par hg ht hd0 hd7 HB h h1 h2 h3
      · rw [decide_eq_false h3] at i3
        rw [goalOf_plain i1 i2 i3]
        exact goalC_plain hg ht hd0 hd7 HP h h1 h2 h3
theorem two_mem {l : List UInt8} (h : testsL l = 2) : l = [61] ∨ l = [92, 61] ∨ l = [61, 61] ∨ l = [105, 115] ∨ l = [60] ∨ l = [62] ∨ l = [61, 60] ∨ l = [62, 61] ∨ l = [61, 58, 61] := by
  unfold testsL at h
  split at h
  · omega
  · split at h
    · omega
    · split at h
      · rename_i q
        simp only [Bool.or_eq_true, beq_iff_eq] at q
        rcases q with (((((((q | q) | q) | q) | q) | q) | q) | q) | q
        · exact .inl q
        · exact .inr (.inl q)
        · exact .inr (.inr (.inl q))
        · exact .inr (.inr (.inr (.inl q)))
        · exact .inr (.inr (.inr (.inr (.inl q))))
        · exact .inr (.inr (.inr (.inr (.inr (.inl q)))))
        · exact .inr (.inr (.inr (.inr (.inr (.inr (.inl q))))))
        · exact .inr (.inr (.inr (.inr (.inr (.inr (.inr (.inl q)))))))
        · exact .inr (.inr (.inr (.inr (.inr (.inr (.inr (.inr q)))))))
      · omega
theorem TT.two {t : Tok} (h : TT t) : twoT t = (isSignL t.t.toList || t.t.toList == [105, 115]) := by
  rw [two_sign]
  unfold twoT testsN
  by_cases hq : testsL t.t.toList = 2
  · have hc : cls (t.t.toList.headD 0).toNat = 0 ∨ cls (t.t.toList.headD 0).toNat = 115 := by
      rcases two_mem hq with q | q | q | q | q | q | q | q | q <;> rw [q] <;> decide
    have hne : t.t.toList ≠ [] := fun e => by rw [e] at hq; exact absurd hq (by decide)
    have e : t.t.data.toList = t.t.toList := (go_bytes_toList _).symm
    rw [hq]
    rcases h.kind with k | k | k | k | k
    · simp [k]
    · have := h.v k; rw [e] at this; rw [this] at hc; exact absurd hc (by decide)
    · have := h.n k; rw [e] at this; rw [this] at hc; exact absurd hc (by decide)
    · simp [k]
    · have := h.e k
      rw [this, go_bytes_toList] at hne
      exact absurd rfl hne
  · have : (testsL t.t.toList == 2) = false := by simpa using hq
    rw [this]; rfl
theorem plain_c {toks : List Tok} {d : Int} (hg : GoodToks toks) (ht : TTs toks) {ex : St → R Ex} (htop : PartTop ex) (HP : RReads 139 toks d ex)
    (HA : ∀ (w : World) (vbs : List Nat) (x : Ex) (u : Value) (Ok : Nat → Prop), TRep w Ok vbs x u → TopOk x → Calls Tryz.prog 284 #[u] w fun e w' => CallPost x w e w') : GReads 287 toks d (plainOf toks ex) := by
  intro w bp lv vv st vbs h
  have HP' := hide HP
  have HA' := hide HA
  have HN := hide (fun (w' : World) (h' : RIn w' bp toks lv vv st.1 d st.2 vbs) => now_c h' hg)
  have ff2 := tok_f2
  obtain ⟨t0, hT0⟩ : ∃ t, t = tk toks st.1 := ⟨_, rfl⟩
  rw [← hT0] at HN
  unfold tokVC tokB at HN
  have HT0 := hide hT0
  clear hT0 HP HA
  have r1 := (h.alloc (tokB t0)).drew
  have f1 : Fr bp vv vv w (w.alloc (tokB t0)).drew := ((Fr.refl _ _ _).alloc _).drew
  unfold tokB at r1 f1
  cases hr : ex st with
  | error p =>
    obtain ⟨er, a⟩ := p
    have HR : Hid (plainOf toks ex st = .error (er, a)) := plain_err hr
    have H1 : Hid (∀ w', RIn w' bp toks lv vv st.1 d st.2 vbs → Calls Tryz.prog 139 #[ptrV bp] w' fun e w'' => RFault er a bp lv vv d w' e w'') := fun w' h' => (HP'.out w' bp lv vv st vbs h').mono fun e w'' hp => by rw [hr] at hp; exact hp
    clear hr HP' HA'
    unfold ptrV at *
    go_enter Tryz.func287, Tryz.ntmps287
    go_wp2_with (first | (go_at_call 156; refine (HN.out _ h).mono ?_; rintro e w1 ⟨rfl, rfl⟩) | (go_at_call 139; refine (H1.out _ r1).mono ?_; rintro e w3 hF; have hF' := hF; obtain ⟨g, vv', i', h1, rfl, h3⟩ := hF))
    exact ⟨rfl, .errI HR.out (hF'.after f1)⟩
  | ok p =>
    obtain ⟨x, s1⟩ := p
    have hx := htop _ _ _ hr
    have H1 : Hid (∀ w', RIn w' bp toks lv vv st.1 d st.2 vbs → Calls Tryz.prog 139 #[ptrV bp] w' fun e w'' => ∃ (u vv' : Value) (vbs' : List Nat), e = .returned u ∧ TRep w'' (fun b => w'.heap.size ≤ b) vbs' x u ∧ RIn w'' bp toks lv vv' s1.1 d s1.2 vbs' ∧ vbs <+: vbs' ∧ Fr bp vv vv' w' w'') := fun w' h' => (HP'.out w' bp lv vv st vbs h').mono fun e w'' hp => by rw [hr] at hp; exact hp
    have HN1 := hide (fun (w' : World) (vv' : Value) (vbs' : List Nat) (h' : RIn w' bp toks lv vv' s1.1 d s1.2 vbs') => now_c h' hg)
    have htt := ht s1.1
    have h2 := htt.two
    obtain ⟨t, hT⟩ : ∃ t, t = tk toks s1.1 := ⟨_, rfl⟩
    rw [← hT] at HN1 h2 htt
    have HTK := hide hT
    clear hT
    unfold tokVC tokB at HN1
    obtain ⟨sg, hsg⟩ : ∃ b, isSignL t.t.toList = b := ⟨_, rfl⟩
    have HS : Hid (∀ w', Calls Tryz.prog 335 #[.string t.t] w' fun e w'' => e = .returned (.bool sg) ∧ w'' = w') := fun w' => by have := isSign_c t.t w'; rw [hsg] at this; exact this
    rw [hsg] at h2
    clear hsg
    cases hq : twoT t with
    | true =>
      rw [hq] at h2
      have hne : t.k ≠ 101 := fun e => by
        have he := htt.e e
        unfold twoT at hq
        have e2 : testsN ByteArray.empty = -1 := by unfold testsN; rw [go_bytes_toList]; decide
        rw [he, e2] at hq
        simp at hq
      have hstep : stepI toks s1.1 = s1.1 + 1 := by unfold stepI; rw [if_neg (by rw [← HTK.out]; exact hne)]
      have HTk := hide (fun (w' : World) (vv' : Value) (vbs' : List Nat) (h' : RIn w' bp toks lv vv' s1.1 d s1.2 vbs') => by have := take_c h' hg ht; rw [hstep] at this; exact this)
      have HB4 : Hid (∀ {w3 : World} {vv3 : Value} {vbs3 : List Nat}, RIn w3 bp toks lv vv3 s1.1 d s1.2 vbs3 → RIn ((w3.alloc (.cells #[.int .i64 (kC t.k), .string t.t, .int .i64 t.a] 298)).alloc (.cells #[.int .i64 (kC t.k), .string t.t, .int .i64 t.a] 298)).drew bp toks lv vv3 s1.1 d s1.2 vbs3) := fun h' => ((h'.alloc _).alloc _).drew
      have HBX : Hid (∀ {w3 : World} {vv3 : Value} {vbs3 : List Nat}, RIn w3 bp toks lv vv3 s1.1 d s1.2 vbs3 → ((w3.alloc (.cells #[.int .i64 (kC t.k), .string t.t, .int .i64 t.a] 298)).alloc (.cells #[.int .i64 (kC t.k), .string t.t, .int .i64 t.a] 298)).drew.cell? ⟨w3.heap.size + 1, 1, none⟩ = some (.string t.t) ∧ ¬ w3.heap.size + 1 = bp ∧ ¬ vv3.ownBlock = some (w3.heap.size + 1) ∧
          Below w3.heap.size w3 ((w3.alloc (.cells #[.int .i64 (kC t.k), .string t.t, .int .i64 t.a] 298)).alloc (.cells #[.int .i64 (kC t.k), .string t.t, .int .i64 t.a] 298)).drew) := fun {w3 vv3 vbs3} h' => by
        refine ⟨?_, fun e => by have := h'.lt_size; omega, fun e => by have := h'.blt _ (.inr (.inr (.inl e))); omega, (((Below.refl _ _).alloc (Nat.le_refl _) _).alloc (by simp) _).drew⟩
        have h9 := heap_top (w3.alloc (.cells #[.int .i64 (kC t.k), .string t.t, .int .i64 t.a] 298)) (.cells #[.int .i64 (kC t.k), .string t.t, .int .i64 t.a] 298) (k := w3.heap.size + 1) (by simp)
        rw [cell_of_block h9]; rfl
      have hpl : plainOf toks ex st = match ex (s1.1 + 1, s1.2) with | .error e => .error e | .ok (y, s2) => .ok (.mk 103 t.t [x, y] [], s2) := by
        unfold plainOf; rw [hr]; simp only [← HTK.out, hq, if_true]
        cases ex (s1.1 + 1, s1.2) <;> rfl
      obtain ⟨isb, hisb⟩ : ∃ b, (t.t.toList == [105, 115]) = b := ⟨_, rfl⟩
      rw [hisb] at h2
      have HH2 := hide h2
      clear h2 hq htt hne hstep HA'
      cases hr2 : ex (s1.1 + 1, s1.2) with
      | error p =>
        obtain ⟨er, a2⟩ := p
        have HR : Hid (plainOf toks ex st = .error (er, a2)) := by rw [Hid, hpl, hr2]
        have HE : Hid (∀ (w' : World) (vv' : Value) (vbs' : List Nat), RIn w' bp toks lv vv' (s1.1 + 1) d s1.2 vbs' → Calls Tryz.prog 139 #[ptrV bp] w' fun e w'' => RFault er a2 bp lv vv' d w' e w'') := fun w' vv' vbs' h' => (HP'.out w' bp lv vv' (s1.1 + 1, s1.2) vbs' h').mono fun e w'' hp => by rw [hr2] at hp; exact hp
        clear hr2 hpl hr HP'
        unfold ptrV tokVC at *
        cases sg with
        | true =>
          go_enter Tryz.func287, Tryz.ntmps287
          go_upto_region 6 with (first | (go_at_call 156; refine (HN.out _ h).mono ?_; rintro e w1 ⟨rfl, rfl⟩) | (go_at_call 139; refine (H1.out _ r1).mono ?_; rintro e w3 ⟨u3, vv3, vbs3, rfl, q3, r3, p3, f3⟩; obtain ⟨tu, vu, rfl, _⟩ := q3.form) | (go_at_call 156; refine (HN1.out _ _ _ r3).mono ?_; rintro e w4 ⟨rfl, rfl⟩) | (go_at_call 335; refine (HS.out _).mono ?_; rintro e w5 ⟨rfl, rfl⟩) | (go_at_call 225; refine (HTk.out _ _ _ (HB4.out r3)).mono ?_; rintro e w6 ⟨rfl, r6, f6⟩))
          obtain ⟨hbox, hnb, hnv, hB4⟩ := HBX.out r3
          have hbx4 : w6.drew.cell? ⟨w3.heap.size + 1, 1, none⟩ = some (.string t.t) := f6.cell hbox hnb hnv
          have r7 := r6.drew
          have hbs4 := r7.lt_size
          have HFX : Hid (Fr bp vv vv3 w w6.drew) := (((f1.trans f3).trans (Fr.of_below hB4)).trans f6).drew
          have HCe : Hid (Calls Tryz.prog 139 #[.pointer (some ⟨bp, 0, none⟩)] w6.drew fun e w' => RFault er a2 bp lv vv3 d w6.drew e w') := HE.out _ _ _ r7
          refine wp_region_held_drew (S := fun w' => w'.cell? ⟨w3.heap.size + 1, 1, none⟩ = some (.string t.t)) (by kernel_rfl) hbx4 (fun hS => ?_)
          refine wpAnyH_take (i := 0) (v := .pointer (some ⟨w3.heap.size + 1, 1, none⟩)) rfl (by kernel_rfl) (by kernel_rfl) (by kernel_rfl) (fun _ _ _ h => h) (Or.inl ⟨by rfl, by intro w hSw; (try dsimp only at hSw); go_simp⟩) hS ?_
          (try simp only [Act.put, List.setIfInBounds_toArray, List.set_cons_zero, List.set_cons_succ])
          refine wpAnyH_take (i := 1) (v := .string t.t) rfl (by kernel_rfl) (by kernel_rfl) (by kernel_rfl) (fun _ _ _ h => h) (Or.inl ⟨by rfl, by intro w hSw; (try dsimp only at hSw); go_simp⟩) hS ?_
          (try simp only [Act.put, List.setIfInBounds_toArray, List.set_cons_zero, List.set_cons_succ])
          refine wpAnyH_take (i := 2) (v := .iface tu vu) rfl (by kernel_rfl) (by kernel_rfl) (by kernel_rfl) (fun _ _ _ h => h) (Or.inl ⟨by rfl, by intro w hSw; (try dsimp only at hSw); go_simp⟩) hS ?_
          (try simp only [Act.put, List.setIfInBounds_toArray, List.set_cons_zero, List.set_cons_succ])
          refine wpAnyH_take (i := 3) (v := .pointer (some ⟨bp, 0, none⟩)) rfl (by kernel_rfl) (by kernel_rfl) (by kernel_rfl) (fun _ _ _ h => h) (Or.inl ⟨by rfl, by intro w hSw; (try dsimp only at hSw); go_simp⟩) hS ?_
          (try simp only [Act.put, List.setIfInBounds_toArray, List.set_cons_zero, List.set_cons_succ])
          refine wpAnyH_ready (rs := [4]) (by kernel_rfl) (by simp) ?_
          refine AllReadyH.cons rfl (fun K hK => ?_) AllReadyH.nil
          go_simp
          refine HCe.out.mono ?_
          rintro e w9 hF
          have hF' := hF
          obtain ⟨g, vv', i', h1, rfl, h3⟩ := hF
          exact ⟨rfl, .errI HR.out (hF'.after HFX.out)⟩
        | false =>
          have his1 : isb = true := by have := HH2.out; simpa using this.symm
          subst his1
          go_enter Tryz.func287, Tryz.ntmps287
          go_upto_region 6 with (first | (go_at_call 156; refine (HN.out _ h).mono ?_; rintro e w1 ⟨rfl, rfl⟩) | (go_at_call 139; refine (H1.out _ r1).mono ?_; rintro e w3 ⟨u3, vv3, vbs3, rfl, q3, r3, p3, f3⟩; obtain ⟨tu, vu, rfl, _⟩ := q3.form) | (go_at_call 156; refine (HN1.out _ _ _ r3).mono ?_; rintro e w4 ⟨rfl, rfl⟩) | (go_at_call 335; refine (HS.out _).mono ?_; rintro e w5 ⟨rfl, rfl⟩) | (go_at_call 225; refine (HTk.out _ _ _ (HB4.out r3)).mono ?_; rintro e w6 ⟨rfl, r6, f6⟩))
          obtain ⟨hbox, hnb, hnv, hB4⟩ := HBX.out r3
          have hbx4 : w6.drew.cell? ⟨w3.heap.size + 1, 1, none⟩ = some (.string t.t) := f6.cell hbox hnb hnv
          have r7 := r6.drew
          have hbs4 := r7.lt_size
          have HFX : Hid (Fr bp vv vv3 w w6.drew) := (((f1.trans f3).trans (Fr.of_below hB4)).trans f6).drew
          have HCe : Hid (Calls Tryz.prog 139 #[.pointer (some ⟨bp, 0, none⟩)] w6.drew fun e w' => RFault er a2 bp lv vv3 d w6.drew e w') := HE.out _ _ _ r7
          refine wp_region_held_drew (S := fun w' => w'.cell? ⟨w3.heap.size + 1, 1, none⟩ = some (.string t.t)) (by kernel_rfl) hbx4 (fun hS => ?_)
          refine wpAnyH_take (i := 0) (v := .pointer (some ⟨w3.heap.size + 1, 1, none⟩)) rfl (by kernel_rfl) (by kernel_rfl) (by kernel_rfl) (fun _ _ _ h => h) (Or.inl ⟨by rfl, by intro w hSw; (try dsimp only at hSw); go_simp⟩) hS ?_
          (try simp only [Act.put, List.setIfInBounds_toArray, List.set_cons_zero, List.set_cons_succ])
          refine wpAnyH_take (i := 1) (v := .string t.t) rfl (by kernel_rfl) (by kernel_rfl) (by kernel_rfl) (fun _ _ _ h => h) (Or.inl ⟨by rfl, by intro w hSw; (try dsimp only at hSw); go_simp⟩) hS ?_
          (try simp only [Act.put, List.setIfInBounds_toArray, List.set_cons_zero, List.set_cons_succ])
          refine wpAnyH_take (i := 2) (v := .iface tu vu) rfl (by kernel_rfl) (by kernel_rfl) (by kernel_rfl) (fun _ _ _ h => h) (Or.inl ⟨by rfl, by intro w hSw; (try dsimp only at hSw); go_simp⟩) hS ?_
          (try simp only [Act.put, List.setIfInBounds_toArray, List.set_cons_zero, List.set_cons_succ])
          refine wpAnyH_take (i := 3) (v := .pointer (some ⟨bp, 0, none⟩)) rfl (by kernel_rfl) (by kernel_rfl) (by kernel_rfl) (fun _ _ _ h => h) (Or.inl ⟨by rfl, by intro w hSw; (try dsimp only at hSw); go_simp⟩) hS ?_
          (try simp only [Act.put, List.setIfInBounds_toArray, List.set_cons_zero, List.set_cons_succ])
          refine wpAnyH_ready (rs := [4]) (by kernel_rfl) (by simp) ?_
          refine AllReadyH.cons rfl (fun K hK => ?_) AllReadyH.nil
          go_simp
          refine HCe.out.mono ?_
          rintro e w9 hF
          have hF' := hF
          obtain ⟨g, vv', i', h1, rfl, h3⟩ := hF
          exact ⟨rfl, .errI HR.out (hF'.after HFX.out)⟩
      | ok p =>
        obtain ⟨y, s2⟩ := p
        have HR : Hid (plainOf toks ex st = .ok (.mk 103 t.t [x, y] [], s2)) := by rw [Hid, hpl, hr2]
        have HE : Hid (∀ (w' : World) (vv' : Value) (vbs' : List Nat), RIn w' bp toks lv vv' (s1.1 + 1) d s1.2 vbs' → Calls Tryz.prog 139 #[ptrV bp] w' fun e w'' => ∃ (u vv'' : Value) (vbs'' : List Nat), e = .returned u ∧ TRep w'' (fun b => w'.heap.size ≤ b) vbs'' y u ∧ RIn w'' bp toks lv vv'' s2.1 d s2.2 vbs'' ∧ vbs' <+: vbs'' ∧ Fr bp vv' vv'' w' w'') := fun w' vv' vbs' h' => (HP'.out w' bp lv vv' (s1.1 + 1, s1.2) vbs' h').mono fun e w'' hp => by rw [hr2] at hp; exact hp
        clear hr2 hpl hr HP'
        unfold ptrV tokVC at *
        cases sg with
        | true =>
          go_enter Tryz.func287, Tryz.ntmps287
          go_upto_region 6 with (first | (go_at_call 156; refine (HN.out _ h).mono ?_; rintro e w1 ⟨rfl, rfl⟩) | (go_at_call 139; refine (H1.out _ r1).mono ?_; rintro e w3 ⟨u3, vv3, vbs3, rfl, q3, r3, p3, f3⟩; obtain ⟨tu, vu, rfl, _⟩ := q3.form) | (go_at_call 156; refine (HN1.out _ _ _ r3).mono ?_; rintro e w4 ⟨rfl, rfl⟩) | (go_at_call 335; refine (HS.out _).mono ?_; rintro e w5 ⟨rfl, rfl⟩) | (go_at_call 225; refine (HTk.out _ _ _ (HB4.out r3)).mono ?_; rintro e w6 ⟨rfl, r6, f6⟩))
          obtain ⟨hbox, hnb, hnv, hB4⟩ := HBX.out r3
          have hbx4 : w6.drew.cell? ⟨w3.heap.size + 1, 1, none⟩ = some (.string t.t) := f6.cell hbox hnb hnv
          have r7 := r6.drew
          have hbs4 := r7.lt_size
          have HFX : Hid (Fr bp vv vv3 w w6.drew) := (((f1.trans f3).trans (Fr.of_below hB4)).trans f6).drew
          have HCe : Hid (Calls Tryz.prog 139 #[.pointer (some ⟨bp, 0, none⟩)] w6.drew fun e w' => ∃ (u vv' : Value) (vbs' : List Nat), e = .returned u ∧ TRep w' (fun b => w6.drew.heap.size ≤ b) vbs' y u ∧ RIn w' bp toks lv vv' s2.1 d s2.2 vbs' ∧ vbs3 <+: vbs' ∧ Fr bp vv3 vv' w6.drew w') := HE.out _ _ _ r7
          go_region_held (fun w' => w'.cell? ⟨w3.heap.size + 1, 1, none⟩ = some (.string t.t)) (first | assumption | exact cell_alloc1 hbx3 _ | exact cell_alloc1 (cell_alloc1 hbx3 _) _) (first | (refine HCe.out.mono ?_; rintro e w9 ⟨u2, vv9, vbs9, rfl, q9, r9, p9, f9⟩; have hbx3 := f9.cell hbx4 hnb hnv; obtain ⟨tu2, vu2, rfl, _⟩ := q9.form))
          go_wp2
          go_ret
          exact .okI HR.out (r9.alloc _) (p3.trans p9) ((HFX.out.trans f9).alloc _)
        | false =>
          have his1 : isb = true := by have := HH2.out; simpa using this.symm
          subst his1
          go_enter Tryz.func287, Tryz.ntmps287
          go_upto_region 6 with (first | (go_at_call 156; refine (HN.out _ h).mono ?_; rintro e w1 ⟨rfl, rfl⟩) | (go_at_call 139; refine (H1.out _ r1).mono ?_; rintro e w3 ⟨u3, vv3, vbs3, rfl, q3, r3, p3, f3⟩; obtain ⟨tu, vu, rfl, _⟩ := q3.form) | (go_at_call 156; refine (HN1.out _ _ _ r3).mono ?_; rintro e w4 ⟨rfl, rfl⟩) | (go_at_call 335; refine (HS.out _).mono ?_; rintro e w5 ⟨rfl, rfl⟩) | (go_at_call 225; refine (HTk.out _ _ _ (HB4.out r3)).mono ?_; rintro e w6 ⟨rfl, r6, f6⟩))
          obtain ⟨hbox, hnb, hnv, hB4⟩ := HBX.out r3
          have hbx4 : w6.drew.cell? ⟨w3.heap.size + 1, 1, none⟩ = some (.string t.t) := f6.cell hbox hnb hnv
          have r7 := r6.drew
          have hbs4 := r7.lt_size
          have HFX : Hid (Fr bp vv vv3 w w6.drew) := (((f1.trans f3).trans (Fr.of_below hB4)).trans f6).drew
          have HCe : Hid (Calls Tryz.prog 139 #[.pointer (some ⟨bp, 0, none⟩)] w6.drew fun e w' => ∃ (u vv' : Value) (vbs' : List Nat), e = .returned u ∧ TRep w' (fun b => w6.drew.heap.size ≤ b) vbs' y u ∧ RIn w' bp toks lv vv' s2.1 d s2.2 vbs' ∧ vbs3 <+: vbs' ∧ Fr bp vv3 vv' w6.drew w') := HE.out _ _ _ r7
          go_region_held (fun w' => w'.cell? ⟨w3.heap.size + 1, 1, none⟩ = some (.string t.t)) (first | assumption | exact cell_alloc1 hbx3 _ | exact cell_alloc1 (cell_alloc1 hbx3 _) _) (first | (refine HCe.out.mono ?_; rintro e w9 ⟨u2, vv9, vbs9, rfl, q9, r9, p9, f9⟩; have hbx3 := f9.cell hbx4 hnb hnv; obtain ⟨tu2, vu2, rfl, _⟩ := q9.form))
          go_wp2
          go_ret
          exact .okI HR.out (r9.alloc _) (p3.trans p9) ((HFX.out.trans f9).alloc _)
    | false =>
      rw [hq] at h2
      have hsg0 : sg = false := by cases sg with | false => rfl | true => simp at h2
      subst hsg0
      have his : (t.t.toList == [105, 115]) = false := by simpa using h2.symm
      have hcall : plainOf toks ex st = callOf t0.a x s1 := by rw [plain_call hr (by rw [← HTK.out]; exact hq), HT0.out]
      have HAC : Hid (∀ (w' : World) (vbs' : List Nat) (u : Value) (Ok : Nat → Prop), TRep w' Ok vbs' x u → Calls Tryz.prog 284 #[u] w' fun e w'' => CallPost x w' e w'') := fun w' vbs' u Ok hu => HA'.out w' vbs' x u Ok hu hx
      have HF := hide newFault_c
      obtain ⟨bd, hbd⟩ : ∃ b, badEx x = b := ⟨_, rfl⟩
      cases bd with
      | true =>
        have HR : Hid (plainOf toks ex st = .error (2, t0.a)) := by rw [Hid, hcall, callOf, if_pos hbd]
        have HAC' : Hid (∀ (w' : World) (vbs' : List Nat) (u : Value) (Ok : Nat → Prop), TRep w' Ok vbs' x u → Calls Tryz.prog 284 #[u] w' fun e w'' => Below w'.heap.size w' w'' ∧ ∃ a c, e = .returned (.tuple #[.agg #[.string (exName x), .slice a (exArgs x).length c], .bool false])) := fun w' vbs' u Ok hu => (HAC.out w' vbs' u Ok hu).mono fun e w'' hp => by unfold CallPost at hp; rw [hbd] at hp; exact hp
        clear hbd hcall hr HAC HP' HA' h2 hq htt
        unfold ptrV at *
        go_enter Tryz.func287, Tryz.ntmps287
        go_wp2_with (first | (go_at_call 156; refine (HN.out _ h).mono ?_; rintro e w1 ⟨rfl, rfl⟩) | (go_at_call 139; refine (H1.out _ r1).mono ?_; rintro e w3 ⟨u3, vv3, vbs3, rfl, q3, r3, p3, f3⟩; obtain ⟨tu, vu, rfl, _⟩ := q3.form) | (go_at_call 156; refine (HN1.out _ _ _ r3).mono ?_; rintro e w4 ⟨rfl, rfl⟩) | (go_at_call 335; refine (HS.out _).mono ?_; rintro e w5 ⟨rfl, rfl⟩))
        have hB4 : Below w3.heap.size w3 ((w3.alloc (.cells #[.int .i64 (kC t.k), .string t.t, .int .i64 t.a] 298)).alloc (.cells #[.int .i64 (kC t.k), .string t.t, .int .i64 t.a] 298)).drew := (((Below.refl _ _).alloc (Nat.le_refl _) _).alloc (by simp) _).drew
        refine (HAC'.out _ _ _ _ (q3.frame (tkeeps_below hB4) (fun _ h _ => h) (List.prefix_refl _))).mono ?_
        rintro e w6 ⟨hB6, a6, c6, rfl⟩
        have r6 := (r3.below (below_next hB4 hB6)).alloc (.cells #[.string (exName x), .slice a6 (exArgs x).length c6] 223)
        have f6 := ((f1.trans f3).trans (Fr.of_below (below_next hB4 hB6))).alloc (.cells #[.string (exName x), .slice a6 (exArgs x).length c6] 223)
        go_wp2_with (go_at_call 154; refine (HF.out _ _ _).mono ?_; rintro e w7 ⟨g, hg2, rfl, hcell, hB7⟩)
        exact ⟨rfl, .errI HR.out ((r6.faulted hg2 hcell hB7).after f6)⟩
      | false =>
        have HAC' : Hid (∀ (w' : World) (vbs' : List Nat) (u : Value) (Ok : Nat → Prop), TRep w' Ok vbs' x u → Calls Tryz.prog 284 #[u] w' fun e w'' => Below w'.heap.size w' w'' ∧ ∃ a c, e = .returned (.tuple #[.agg #[.string (exName x), .slice a (exArgs x).length c], .bool true])) := fun w' vbs' u Ok hu => (HAC.out w' vbs' u Ok hu).mono fun e w'' hp => by unfold CallPost at hp; rw [hbd] at hp; exact hp
        obtain ⟨tv, htv⟩ : ∃ v, testsN (exName x) = v := ⟨_, rfl⟩
        have HAr : Hid (∀ w', Calls Tryz.prog 285 #[.string (exName x)] w' fun e w'' => e = .returned (.tuple #[.int .i64 (if 0 ≤ tv then tv else 2), .bool (decide (0 ≤ tv))]) ∧ w'' = w') := fun w' => by have := arity_c (exName x) w'; unfold arV at this; rw [htv] at this; exact this
        rw [callOf, if_neg (by rw [hbd]; simp), htv] at hcall
        by_cases hn0 : 0 ≤ tv
        · rw [if_pos hn0, decide_eq_true hn0] at HAr
          by_cases hne : tv = ((exArgs x).length : Int)
          · have hne' : (tv == ((exArgs x).length : Int)) = true := by simpa using hne
            have HR : Hid (plainOf toks ex st = .ok (.mk 103 (exName x) (exArgs x) [], s1)) := by rw [Hid, hcall, if_neg (fun q => q.2 hne)]
            clear hbd hcall hr HAC HP' HA' h2 hq htt htv hne
            unfold ptrV at *
            go_enter Tryz.func287, Tryz.ntmps287
            go_wp2_with (first | (go_at_call 156; refine (HN.out _ h).mono ?_; rintro e w1 ⟨rfl, rfl⟩) | (go_at_call 139; refine (H1.out _ r1).mono ?_; rintro e w3 ⟨u3, vv3, vbs3, rfl, q3, r3, p3, f3⟩; obtain ⟨tu, vu, rfl, _⟩ := q3.form) | (go_at_call 156; refine (HN1.out _ _ _ r3).mono ?_; rintro e w4 ⟨rfl, rfl⟩) | (go_at_call 335; refine (HS.out _).mono ?_; rintro e w5 ⟨rfl, rfl⟩))
            have hB4 : Below w3.heap.size w3 ((w3.alloc (.cells #[.int .i64 (kC t.k), .string t.t, .int .i64 t.a] 298)).alloc (.cells #[.int .i64 (kC t.k), .string t.t, .int .i64 t.a] 298)).drew := (((Below.refl _ _).alloc (Nat.le_refl _) _).alloc (by simp) _).drew
            refine (HAC'.out _ _ _ _ (q3.frame (tkeeps_below hB4) (fun _ h _ => h) (List.prefix_refl _))).mono ?_
            rintro e w6 ⟨hB6, a6, c6, rfl⟩
            have r6 := (r3.below (below_next hB4 hB6)).alloc (.cells #[.string (exName x), .slice a6 (exArgs x).length c6] 223)
            have f6 := ((f1.trans f3).trans (Fr.of_below (below_next hB4 hB6))).alloc (.cells #[.string (exName x), .slice a6 (exArgs x).length c6] 223)
            go_wp2_with (go_at_call 285; refine (HAr.out _).mono ?_; rintro e w7 ⟨rfl, rfl⟩)
            go_ret
            exact .okI HR.out r6 p3 f6
          · have hne' : (tv == ((exArgs x).length : Int)) = false := by simpa using hne
            have HR : Hid (plainOf toks ex st = .error (3, t0.a)) := by rw [Hid, hcall, if_pos ⟨hn0, hne⟩]
            clear hbd hcall hr HAC HP' HA' h2 hq htt htv hne
            unfold ptrV at *
            go_enter Tryz.func287, Tryz.ntmps287
            go_wp2_with (first | (go_at_call 156; refine (HN.out _ h).mono ?_; rintro e w1 ⟨rfl, rfl⟩) | (go_at_call 139; refine (H1.out _ r1).mono ?_; rintro e w3 ⟨u3, vv3, vbs3, rfl, q3, r3, p3, f3⟩; obtain ⟨tu, vu, rfl, _⟩ := q3.form) | (go_at_call 156; refine (HN1.out _ _ _ r3).mono ?_; rintro e w4 ⟨rfl, rfl⟩) | (go_at_call 335; refine (HS.out _).mono ?_; rintro e w5 ⟨rfl, rfl⟩))
            have hB4 : Below w3.heap.size w3 ((w3.alloc (.cells #[.int .i64 (kC t.k), .string t.t, .int .i64 t.a] 298)).alloc (.cells #[.int .i64 (kC t.k), .string t.t, .int .i64 t.a] 298)).drew := (((Below.refl _ _).alloc (Nat.le_refl _) _).alloc (by simp) _).drew
            refine (HAC'.out _ _ _ _ (q3.frame (tkeeps_below hB4) (fun _ h _ => h) (List.prefix_refl _))).mono ?_
            rintro e w6 ⟨hB6, a6, c6, rfl⟩
            have r6 := (r3.below (below_next hB4 hB6)).alloc (.cells #[.string (exName x), .slice a6 (exArgs x).length c6] 223)
            have f6 := ((f1.trans f3).trans (Fr.of_below (below_next hB4 hB6))).alloc (.cells #[.string (exName x), .slice a6 (exArgs x).length c6] 223)
            go_wp2_with (first | (go_at_call 285; refine (HAr.out _).mono ?_; rintro e w7 ⟨rfl, rfl⟩) | (go_at_call 154; refine (HF.out _ _ _).mono ?_; rintro e w7 ⟨g, hg2, rfl, hcell, hB7⟩))
            exact ⟨rfl, .errI HR.out ((r6.faulted hg2 hcell hB7).after f6)⟩
        · rw [if_neg hn0, decide_eq_false hn0] at HAr
          have HR : Hid (plainOf toks ex st = .ok (.mk 103 (exName x) (exArgs x) [], s1)) := by rw [Hid, hcall, if_neg (fun q => hn0 q.1)]
          clear hbd hcall hr HAC HP' HA' h2 hq htt htv
          unfold ptrV at *
          go_enter Tryz.func287, Tryz.ntmps287
          go_wp2_with (first | (go_at_call 156; refine (HN.out _ h).mono ?_; rintro e w1 ⟨rfl, rfl⟩) | (go_at_call 139; refine (H1.out _ r1).mono ?_; rintro e w3 ⟨u3, vv3, vbs3, rfl, q3, r3, p3, f3⟩; obtain ⟨tu, vu, rfl, _⟩ := q3.form) | (go_at_call 156; refine (HN1.out _ _ _ r3).mono ?_; rintro e w4 ⟨rfl, rfl⟩) | (go_at_call 335; refine (HS.out _).mono ?_; rintro e w5 ⟨rfl, rfl⟩))
          have hB4 : Below w3.heap.size w3 ((w3.alloc (.cells #[.int .i64 (kC t.k), .string t.t, .int .i64 t.a] 298)).alloc (.cells #[.int .i64 (kC t.k), .string t.t, .int .i64 t.a] 298)).drew := (((Below.refl _ _).alloc (Nat.le_refl _) _).alloc (by simp) _).drew
          refine (HAC'.out _ _ _ _ (q3.frame (tkeeps_below hB4) (fun _ h _ => h) (List.prefix_refl _))).mono ?_
          rintro e w6 ⟨hB6, a6, c6, rfl⟩
          have r6 := (r3.below (below_next hB4 hB6)).alloc (.cells #[.string (exName x), .slice a6 (exArgs x).length c6] 223)
          have f6 := ((f1.trans f3).trans (Fr.of_below (below_next hB4 hB6))).alloc (.cells #[.string (exName x), .slice a6 (exArgs x).length c6] 223)
          go_wp2_with (go_at_call 285; refine (HAr.out _).mono ?_; rintro e w7 ⟨rfl, rfl⟩)
          go_ret
          exact .okI HR.out r6 p3 f6
end Go.Proofs.YtodpkdajbnceoaaGreatDoor
