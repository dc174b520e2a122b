import Derived.Test.YtodpkdajbnceoaaGreatDoorPart56
set_option linter.unusedVariables false
set_option linter.unusedSimpArgs false
namespace Go.Proofs.YtodpkdajbnceoaaGreatDoor
open Go.RowKit

/-! One deeper: a body behind an or, a goal. -/

set_option maxRecDepth 100000 in
set_option maxHeartbeats 1000000 in
theorem other_zero {toks : List Tok} (hg : GoodToks toks) : GReads 202 toks 8 (litRest toks 0).2 := by
  intro w bp lv vv st vbs h
  have HD : Hid (Calls Tryz.prog 243 #[ptrV bp] w fun e w1 => RFault 4 (tk toks st.1).a bp lv vv 8 w e w1) := (down_c h hg (by omega) (by omega)).mono fun e w1 hh => hh.1 rfl
  unfold ptrV at *
  go_enter_defers Tryz.func202, Tryz.ntmps202
  go_wp2_with (first | (go_at_call 243; refine HD.out.mono ?_; rintro e w1 hF; have hF' := hF; obtain ⟨g, vv', i', h1, rfl, h3⟩ := hF))
  exact (GPost.errI (toks := toks) (vbs := vbs) rfl hF' : GPost toks bp lv vv 8 vbs w ((litRest toks 0).2 st) _ _)

set_option maxRecDepth 100000 in
set_option maxHeartbeats 1000000 in
theorem goal_zero {toks : List Tok} (hg : GoodToks toks) : GReads 242 toks 8 (litRest toks 0).1 := by
  intro w bp lv vv st vbs h
  have HD : Hid (Calls Tryz.prog 243 #[ptrV bp] w fun e w1 => RFault 4 (tk toks st.1).a bp lv vv 8 w e w1) := (down_c h hg (by omega) (by omega)).mono fun e w1 hh => hh.1 rfl
  unfold ptrV at *
  go_enter_defers Tryz.func242, Tryz.ntmps242
  go_wp2_with (first | (go_at_call 243; refine HD.out.mono ?_; rintro e w1 hF; have hF' := hF; obtain ⟨g, vv', i', h1, rfl, h3⟩ := hF))
  exact (GPost.errI (toks := toks) (vbs := vbs) rfl hF' : GPost toks bp lv vv 8 vbs w ((litRest toks 0).1 st) _ _)

set_option maxRecDepth 100000 in
set_option maxHeartbeats 1000000 in
theorem other_succ {toks : List Tok} (hg : GoodToks toks) {d : Int} (hd0 : 0 ≤ d) (hd7 : d ≤ 7) {r : St → R Bd} (HB : GReads 158 toks (d + 1) r) : GReads 202 toks d r := by
  intro w bp lv vv st vbs h
  have HD := hide (down_d h hg hd0 hd7)
  have HB' := hide HB
  clear HB
  cases hr : r st with
  | error p =>
    obtain ⟨er, a⟩ := p
    have H1 := hide (fun (w' : World) (h' : RIn w' bp toks lv vv st.1 (d + 1) st.2 vbs) => HB'.out.err hr h')
    clear hr HB'
    unfold ptrV at *
    go_enter_defers Tryz.func202, Tryz.ntmps202
    go_wp2_with (first | (go_at_call 243; refine HD.out.mono ?_; rintro e w1 ⟨Bx, rfl, hDp, hR1⟩) | (go_at_call 158; refine (H1.out _ hR1).mono ?_; rintro e w9 hF; have hF' := hF; obtain ⟨g, vv', i', h1, rfl, h3⟩ := hF))
    obtain ⟨c1, c2, c3, hp⟩ := RPost.up_err hDp hF'
    exact leaves_up hd0 hd7 (by simp) c1 c2 c3 hp
  | ok p =>
    obtain ⟨x, st2⟩ := p
    have H1 := hide (fun (w' : World) (h' : RIn w' bp toks lv vv st.1 (d + 1) st.2 vbs) => HB'.out.ok hr h')
    clear hr HB'
    unfold ptrV at *
    go_enter_defers Tryz.func202, Tryz.ntmps202
    go_wp2_with (first | (go_at_call 243; refine HD.out.mono ?_; rintro e w1 ⟨Bx, rfl, hDp, hR1⟩) | (go_at_call 158; refine (H1.out _ hR1).mono ?_; rintro e w9 ⟨t9, v9, vv9, vbs9, rfl, r9, p9, f9⟩))
    obtain ⟨c1, c2, c3, hp⟩ := GPost.up_ok (t := t9) (v := v9) (r := .ok (x, st2)) hDp rfl r9 p9 f9
    exact leaves_up hd0 hd7 (by simp) c1 c2 c3 ⟨_, results_tmp (t := 2) rfl _ _ _, hp⟩

theorem must_y {w : World} {bp : Nat} {toks : List Tok} {lv vv : Value} {i : Nat} {d : Int} {vars : List ByteArray} {vbs : List Nat} (h : RIn w bp toks lv vv i d vars vbs) (hg : GoodToks toks) (ht : TTs toks) {s : List UInt8} (hs : s ≠ []) (hq : (tk toks i).t = B s) :
    Calls Tryz.prog 159 #[ptrV bp, .string (B s)] w fun e w' => e = .returned (.tuple #[]) ∧ RIn w' bp toks lv vv (i + 1) d vars vbs ∧ Fr bp vv vv w w' :=
  (must_c h hg ht (B s)).mono fun e w' hh => by have := hh.1 hq; rwa [step_is ht hs hq] at this
theorem must_n {w : World} {bp : Nat} {toks : List Tok} {lv vv : Value} {i : Nat} {d : Int} {vars : List ByteArray} {vbs : List Nat} (h : RIn w bp toks lv vv i d vars vbs) (hg : GoodToks toks) (ht : TTs toks) {s : List UInt8} (hq : (tk toks i).t ≠ B s) :
    Calls Tryz.prog 159 #[ptrV bp, .string (B s)] w fun e w' => RFault 2 (tk toks i).a bp lv vv d w e w' :=
  (must_c h hg ht (B s)).mono fun e w' hh => hh.2 hq

section
variable {toks : List Tok} {d : Int} {w : World} {bp : Nat} {lv vv : Value} {st : St} {vbs : List Nat}

set_option maxRecDepth 100000 in
set_option maxHeartbeats 1000000 in
theorem goalC_cut (hg : GoodToks toks) (ht : TTs toks) (hd0 : 0 ≤ d) (hd7 : d ≤ 7) {r : R Bd} {x : Bd} (h : RIn w bp toks lv vv st.1 d st.2 vbs) (hq : (tk toks st.1).t = B [33]) (hr : r = .ok (x, (st.1 + 1, st.2))) :
    Calls Tryz.prog 242 #[ptrV bp] w fun e w' => GPost toks bp lv vv d vbs w r e w' := by
  have HD := hide (down_d h hg hd0 hd7)
  have HT := hide (fun (w' : World) (h' : RIn w' bp toks lv vv st.1 (d + 1) st.2 vbs) => takes_y h' hg ht (s := [33]) (by simp) hq)
  have HR := hide hr
  clear hq hr
  unfold ptrV at *
  go_enter_defers Tryz.func242, Tryz.ntmps242
  go_wp2_with (first | (go_at_call 243; refine HD.out.mono ?_; rintro e w1 ⟨Bx, rfl, hDp, hR1⟩) | (go_at_call 201; refine (HT.out _ hR1).mono ?_; rintro e w2 ⟨rfl, hR2, hF2⟩))
  obtain ⟨c1, c2, c3, hp⟩ := GPost.up_ok hDp HR.out hR2 (List.prefix_refl _) hF2
  exact leaves_up hd0 hd7 (by simp) c1 c2 c3 ⟨_, results_tmp (t := 2) rfl _ _ _, hp⟩

set_option maxRecDepth 100000 in
set_option maxHeartbeats 1000000 in
theorem goalC_not (hg : GoodToks toks) (ht : TTs toks) (hd0 : 0 ≤ d) (hd7 : d ≤ 7) {lit : St → R Bd} (HB : GReads 242 toks (d + 1) lit) (h : RIn w bp toks lv vv st.1 d st.2 vbs) (hq1 : (tk toks st.1).t ≠ B [33]) (hq : (tk toks st.1).t = B [92, 43]) :
    Calls Tryz.prog 242 #[ptrV bp] w fun e w' => GPost toks bp lv vv d vbs w (notOf (lit (st.1 + 1, st.2))) e w' := by
  have HD := hide (down_d h hg hd0 hd7)
  have HT1 := hide (fun (w' : World) (h' : RIn w' bp toks lv vv st.1 (d + 1) st.2 vbs) => takes_n h' hg ht (s := [33]) hq1)
  have HT2 := hide (fun (w' : World) (h' : RIn w' bp toks lv vv st.1 (d + 1) st.2 vbs) => takes_y h' hg ht (s := [92, 43]) (by simp) hq)
  have HB' := hide HB
  clear hq hq1 HB
  cases hr : lit (st.1 + 1, st.2) with
  | error p =>
    obtain ⟨er, a⟩ := p
    have H1 := hide (fun (w' : World) (h' : RIn w' bp toks lv vv (st.1 + 1) (d + 1) st.2 vbs) => HB'.out.err hr h')
    clear hr HB'
    unfold ptrV at *
    go_enter_defers Tryz.func242, Tryz.ntmps242
    go_wp2_with (go_at_call 243; refine HD.out.mono ?_; rintro e w1 ⟨Bx, rfl, hDp, hR1⟩)
    refine (HT1.out _ hR1).mono ?_
    rintro e w2 ⟨rfl, hR2, hF2⟩
    go_wp2_with fail
    refine (HT2.out _ hR2).mono ?_
    rintro e w3 ⟨rfl, hR3, hF3⟩
    go_wp2_with fail
    refine (H1.out _ hR3).mono ?_
    rintro e w9 hF
    have hF' := hF
    obtain ⟨g, vv', i', h1, rfl, h3⟩ := hF
    obtain ⟨c1, c2, c3, hp⟩ := RPost.up_err hDp (hF'.after (hF2.trans hF3))
    exact leaves_up hd0 hd7 (by simp) c1 c2 c3 hp
  | ok p =>
    obtain ⟨x, st2⟩ := p
    have H1 := hide (fun (w' : World) (h' : RIn w' bp toks lv vv (st.1 + 1) (d + 1) st.2 vbs) => HB'.out.ok hr h')
    clear hr HB'
    unfold ptrV at *
    go_enter_defers Tryz.func242, Tryz.ntmps242
    go_wp2_with (go_at_call 243; refine HD.out.mono ?_; rintro e w1 ⟨Bx, rfl, hDp, hR1⟩)
    refine (HT1.out _ hR1).mono ?_
    rintro e w2 ⟨rfl, hR2, hF2⟩
    go_wp2_with fail
    refine (HT2.out _ hR2).mono ?_
    rintro e w3 ⟨rfl, hR3, hF3⟩
    go_wp2_with fail
    refine (H1.out _ hR3).mono ?_
    rintro e w9 ⟨t9, v9, vv9, vbs9, rfl, r9, p9, f9⟩
    go_wp2_with fail
    obtain ⟨c1, c2, c3, hp⟩ := GPost.up_ok (r := notOf (.ok (x, st2))) hDp rfl r9 p9 ((hF2.trans hF3).trans f9)
    exact leaves_up hd0 hd7 (by simp) c1 c2 c3 ⟨_, results_tmp (t := 2) rfl _ _ _, hp⟩

set_option maxRecDepth 100000 in
set_option maxHeartbeats 2000000 in
theorem goalC_par (hg : GoodToks toks) (ht : TTs toks) (hd0 : 0 ≤ d) (hd7 : d ≤ 7) {body : St → R Bd} (HB : GReads 158 toks (d + 1) body) (h : RIn w bp toks lv vv st.1 d st.2 vbs) (hq1 : (tk toks st.1).t ≠ B [33]) (hq2 : (tk toks st.1).t ≠ B [92, 43]) (hq : (tk toks st.1).t = B [40]) :
    Calls Tryz.prog 242 #[ptrV bp] w fun e w' => GPost toks bp lv vv d vbs w (parOf toks (body (st.1 + 1, st.2))) e w' := by
  have HD := hide (down_d h hg hd0 hd7)
  have HT1 := hide (fun (w' : World) (h' : RIn w' bp toks lv vv st.1 (d + 1) st.2 vbs) => takes_n h' hg ht (s := [33]) hq1)
  have HT2 := hide (fun (w' : World) (h' : RIn w' bp toks lv vv st.1 (d + 1) st.2 vbs) => takes_n h' hg ht (s := [92, 43]) hq2)
  have HT3 := hide (fun (w' : World) (h' : RIn w' bp toks lv vv st.1 (d + 1) st.2 vbs) => takes_y h' hg ht (s := [40]) (by simp) hq)
  have HB' := hide HB
  clear hq hq1 hq2 HB
  cases hr : body (st.1 + 1, st.2) with
  | error p =>
    obtain ⟨er, a⟩ := p
    have H1 := hide (fun (w' : World) (h' : RIn w' bp toks lv vv (st.1 + 1) (d + 1) st.2 vbs) => HB'.out.err hr h')
    clear hr HB'
    unfold ptrV at *
    go_enter_defers Tryz.func242, Tryz.ntmps242
    go_wp2_with (go_at_call 243; refine HD.out.mono ?_; rintro e w1 ⟨Bx, rfl, hDp, hR1⟩)
    refine (HT1.out _ hR1).mono ?_
    rintro e w2 ⟨rfl, hR2, hF2⟩
    go_wp2_with fail
    refine (HT2.out _ hR2).mono ?_
    rintro e w3 ⟨rfl, hR3, hF3⟩
    go_wp2_with fail
    refine (HT3.out _ hR3).mono ?_
    rintro e w4 ⟨rfl, hR4, hF4⟩
    go_wp2_with fail
    refine (H1.out _ hR4).mono ?_
    rintro e w9 hF
    have hF' := hF
    obtain ⟨g, vv', i', h1, rfl, h3⟩ := hF
    obtain ⟨c1, c2, c3, hp⟩ := RPost.up_err hDp (hF'.after ((hF2.trans hF3).trans hF4))
    exact leaves_up hd0 hd7 (by simp) c1 c2 c3 hp
  | ok p =>
    obtain ⟨x, st2⟩ := p
    have H1 := hide (fun (w' : World) (h' : RIn w' bp toks lv vv (st.1 + 1) (d + 1) st.2 vbs) => HB'.out.ok hr h')
    have hi := ht.is st2.1 (s := [41]) (by unfold SignLike; decide)
    by_cases hq5 : (tk toks st2.1).t = B [41]
    · have HM := hide (fun (w' : World) (vv' : Value) (vbs' : List Nat) (h' : RIn w' bp toks lv vv' st2.1 (d + 1) st2.2 vbs') => must_y h' hg ht (s := [41]) (by simp) hq5)
      have HR : Hid (parOf toks (.ok (x, st2)) = .ok (x, (st2.1 + 1, st2.2))) := by unfold Hid parOf mustT; dsimp only; rw [hi, decide_eq_true hq5, if_pos rfl]
      rw [HR.out]
      clear hr HB' hi hq5
      unfold ptrV at *
      go_enter_defers Tryz.func242, Tryz.ntmps242
      go_wp2_with (go_at_call 243; refine HD.out.mono ?_; rintro e w1 ⟨Bx, rfl, hDp, hR1⟩)
      refine (HT1.out _ hR1).mono ?_
      rintro e w2 ⟨rfl, hR2, hF2⟩
      go_wp2_with fail
      refine (HT2.out _ hR2).mono ?_
      rintro e w3 ⟨rfl, hR3, hF3⟩
      go_wp2_with fail
      refine (HT3.out _ hR3).mono ?_
      rintro e w4 ⟨rfl, hR4, hF4⟩
      go_wp2_with fail
      refine (H1.out _ hR4).mono ?_
      rintro e w5 ⟨t5, v5, vv5, vbs5, rfl, r5, p5, f5⟩
      go_wp2_with fail
      refine (HM.out _ _ _ r5).mono ?_
      rintro e w6 ⟨rfl, r6, f6⟩
      go_wp2_with fail
      obtain ⟨c1, c2, c3, hp⟩ := GPost.up_ok (t := t5) (v := v5) (r := .ok (x, (st2.1 + 1, st2.2))) hDp rfl r6 p5 ((((hF2.trans hF3).trans hF4).trans f5).trans f6)
      exact leaves_up hd0 hd7 (by simp) c1 c2 c3 ⟨_, results_tmp (t := 2) rfl _ _ _, hp⟩
    · have HM := hide (fun (w' : World) (vv' : Value) (vbs' : List Nat) (h' : RIn w' bp toks lv vv' st2.1 (d + 1) st2.2 vbs') => must_n h' hg ht (s := [41]) hq5)
      have HR : Hid (parOf toks (.ok (x, st2)) = .error (2, (tk toks st2.1).a)) := by unfold Hid parOf mustT; dsimp only; rw [hi, decide_eq_false hq5, if_neg (by simp)]
      rw [HR.out]
      clear hr HB' hi hq5
      unfold ptrV at *
      go_enter_defers Tryz.func242, Tryz.ntmps242
      go_wp2_with (go_at_call 243; refine HD.out.mono ?_; rintro e w1 ⟨Bx, rfl, hDp, hR1⟩)
      refine (HT1.out _ hR1).mono ?_
      rintro e w2 ⟨rfl, hR2, hF2⟩
      go_wp2_with fail
      refine (HT2.out _ hR2).mono ?_
      rintro e w3 ⟨rfl, hR3, hF3⟩
      go_wp2_with fail
      refine (HT3.out _ hR3).mono ?_
      rintro e w4 ⟨rfl, hR4, hF4⟩
      go_wp2_with fail
      refine (H1.out _ hR4).mono ?_
      rintro e w5 ⟨t5, v5, vv5, vbs5, rfl, r5, p5, f5⟩
      go_wp2_with fail
      refine (HM.out _ _ _ r5).mono ?_
      rintro e w9 hF
      have hF' := hF
      obtain ⟨g, vv', i', h1, rfl, h3⟩ := hF
      obtain ⟨c1, c2, c3, hp⟩ := RPost.up_err hDp (hF'.after (((hF2.trans hF3).trans hF4).trans f5))
      exact leaves_up hd0 hd7 (by simp) c1 c2 c3 hp

set_option maxRecDepth 100000 in
set_option maxHeartbeats 1000000 in
theorem goalC_plain (hg : GoodToks toks) (ht : TTs toks) (hd0 : 0 ≤ d) (hd7 : d ≤ 7) {r : St → R Bd} (HB : GReads 287 toks (d + 1) r) (h : RIn w bp toks lv vv st.1 d st.2 vbs) (hq1 : (tk toks st.1).t ≠ B [33]) (hq2 : (tk toks st.1).t ≠ B [92, 43]) (hq3 : (tk toks st.1).t ≠ B [40]) :
    Calls Tryz.prog 242 #[ptrV bp] w fun e w' => GPost toks bp lv vv d vbs w (r st) e w' := by
  have HD := hide (down_d h hg hd0 hd7)
  have HT1 := hide (fun (w' : World) (h' : RIn w' bp toks lv vv st.1 (d + 1) st.2 vbs) => takes_n h' hg ht (s := [33]) hq1)
  have HT2 := hide (fun (w' : World) (h' : RIn w' bp toks lv vv st.1 (d + 1) st.2 vbs) => takes_n h' hg ht (s := [92, 43]) hq2)
  have HT3 := hide (fun (w' : World) (h' : RIn w' bp toks lv vv st.1 (d + 1) st.2 vbs) => takes_n h' hg ht (s := [40]) hq3)
  have HB' := hide HB
  clear hq1 hq2 hq3 HB
  cases hr : r st with
  | error p =>
    obtain ⟨er, a⟩ := p
    have H1 := hide (fun (w' : World) (h' : RIn w' bp toks lv vv st.1 (d + 1) st.2 vbs) => HB'.out.err hr h')
    clear hr HB'
    unfold ptrV at *
    go_enter_defers Tryz.func242, Tryz.ntmps242
    go_wp2_with (go_at_call 243; refine HD.out.mono ?_; rintro e w1 ⟨Bx, rfl, hDp, hR1⟩)
    refine (HT1.out _ hR1).mono ?_
    rintro e w2 ⟨rfl, hR2, hF2⟩
    go_wp2_with fail
    refine (HT2.out _ hR2).mono ?_
    rintro e w3 ⟨rfl, hR3, hF3⟩
    go_wp2_with fail
    refine (HT3.out _ hR3).mono ?_
    rintro e w4 ⟨rfl, hR4, hF4⟩
    go_wp2_with fail
    refine (H1.out _ hR4).mono ?_
    rintro e w9 hF
    have hF' := hF
    obtain ⟨g, vv', i', h1, rfl, h3⟩ := hF
    obtain ⟨c1, c2, c3, hp⟩ := RPost.up_err hDp (hF'.after ((hF2.trans hF3).trans hF4))
    exact leaves_up hd0 hd7 (by simp) c1 c2 c3 hp
  | ok p =>
    obtain ⟨x, st2⟩ := p
    have H1 := hide (fun (w' : World) (h' : RIn w' bp toks lv vv st.1 (d + 1) st.2 vbs) => HB'.out.ok hr h')
    clear hr HB'
    unfold ptrV at *
    go_enter_defers Tryz.func242, Tryz.ntmps242
    go_wp2_with (go_at_call 243; refine HD.out.mono ?_; rintro e w1 ⟨Bx, rfl, hDp, hR1⟩)
    refine (HT1.out _ hR1).mono ?_
    rintro e w2 ⟨rfl, hR2, hF2⟩
    go_wp2_with fail
    refine (HT2.out _ hR2).mono ?_
    rintro e w3 ⟨rfl, hR3, hF3⟩
    go_wp2_with fail
    refine (HT3.out _ hR3).mono ?_
    rintro e w4 ⟨rfl, hR4, hF4⟩
    go_wp2_with fail
    refine (H1.out _ hR4).mono ?_
    rintro e w9 ⟨t9, v9, vv9, vbs9, rfl, r9, p9, f9⟩
    go_wp2_with fail
    obtain ⟨c1, c2, c3, hp⟩ := GPost.up_ok (t := t9) (v := v9) (r := .ok (x, st2)) hDp rfl r9 p9 (((hF2.trans hF3).trans hF4).trans f9)
    exact leaves_up hd0 hd7 (by simp) c1 c2 c3 ⟨_, results_tmp (t := 2) rfl _ _ _, hp⟩
end

theorem goal_succ {toks : List Tok} (hg : GoodToks toks) (ht : TTs toks) {d : Int} (hd0 : 0 ≤ d) (hd7 : d ≤ 7) {lit body : St → R Bd} {ex : St → R Ex} (HL : GReads 242 toks (d + 1) lit) (HB : GReads 158 toks (d + 1) body) (HP : GReads 287 toks (d + 1) (plainOf toks ex)) :
    GReads 242 toks d (goalOf toks lit body ex) := by
  intro w bp lv vv st vbs h
  have i1 := ht.is st.1 (s := [33]) (by unfold SignLike; decide)
  have i2 := ht.is st.1 (s := [92, 43]) (by unfold SignLike; decide)
  have i3 := ht.is st.1 (s := [40]) (by unfold SignLike; decide)
  by_cases h1 : (tk toks st.1).t = B [33]
  · rw [decide_eq_true h1] at i1
    exact goalC_cut hg ht hd0 hd7 h h1 (goalOf_cut i1)
  · rw [decide_eq_false h1] at i1
    by_cases h2 : (tk toks st.1).t = B [92, 43]
    · rw [decide_eq_true h2] at i2
      rw [goalOf_not i1 i2]
      exact goalC_not hg ht hd0 hd7 HL h h1 h2
    · rw [decide_eq_false h2] at i2
      by_cases h3 : (tk toks st.1).t = B [40]
      · rw [decide_eq_true h3] at i3
        rw [goalOf_par i1 i2 i3]
        exact goalC_par hg ht hd0 hd7 HB h h1 h2 h3
      · rw [decide_eq_false h3] at i3
        rw [goalOf_plain i1 i2 i3]
        exact goalC_plain hg ht hd0 hd7 HP h h1 h2 h3

end Go.Proofs.YtodpkdajbnceoaaGreatDoor
