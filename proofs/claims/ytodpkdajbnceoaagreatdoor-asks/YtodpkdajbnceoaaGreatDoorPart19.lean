import Derived.Test.YtodpkdajbnceoaaGreatDoorPart18
set_option linter.all false
set_option maxHeartbeats 4000000
set_option maxRecDepth 100000
namespace Go.Proofs.YtodpkdajbnceoaaGreatDoor
open Go.RowKit
theorem arow_of {w : World} {Ok : Nat → Prop} {l : List Ex} {v : Value} (h : ArgV w Ok l v) : ∃ ao ac, v = .slice ao l.length ac ∧ ARow w Ok l ao ac := by
  rcases h with ⟨h1, h2⟩ | h
  · subst h1
    exact ⟨none, 0, h2, .inl ⟨rfl, rfl, rfl⟩⟩
  · obtain ⟨g, cap, cur, cs, h1, h2, h3, h4, h5, h6, h7, h8⟩ := h
    exact ⟨_, _, h1, .inr ⟨g, cur, cs, rfl, h2, h3, h4, h5, h6, h7, h8⟩⟩
section
variable {H0 : Nat} {w : World} {wk hb : Nat} {V : _root_.Fin 6 → Value} {avs : List Value} {most : Int} {lv kv : Value} {fx : Fix} {s : Wk}
def GoOn (s s' : Wk) (r : Bool) : Prop :=
  (s'.ls = s.ls ∧ s'.todo = s.todo ∧ s'.bk = s.bk) ∨ (r = true ∧ ∃ x : Gl, s'.ls = s.ls ++ [x] ∧ x.cut = s.bk.length ∧ x.rest = s.todo ∧ s'.todo = s.ls.length ∧ s'.bk = s.bk)
def GoalPost (H0 : Nat) (w : World) (wk hb : Nat) (most : Int) (fx : Fix) (s : Wk) (e : Ending) (w' : World) : Prop :=
  ∃ r s' V' avs' lv' kv', e = .returned (.bool r) ∧ WkIn H0 w' wk hb V' avs' most lv' kv' fx s' ∧ Below H0 w w' ∧ Later s.h s'.h 2002 (max (s.h.cost + 2) (9 * most + 2)) ∧ GoOn s s' r
theorem Later.of_made {h : Hp} {T' : List Nd} {k : Nat} {M : Int} (hp : h.T <+: T') (hl : T'.length ≤ h.T.length + k) (hM : h.cost ≤ M) : Later h { h with T := T' } k M := ⟨hp, hl, Int.le_refl _, hM, Nat.le_refl _⟩
theorem Later.trans {h h1 h2 : Hp} {k1 k2 : Nat} {M1 M2 : Int} (a : Later h h1 k1 M1) (b : Later h1 h2 k2 M2) : Later h h2 (k1 + k2) M2 := ⟨a.T.trans b.T, by have := a.len; have := b.len; omega, Int.le_trans a.lo b.lo, b.hi, Nat.le_trans a.bs b.bs⟩
theorem goal_z {g bc : Nat} {av k m ba bq vv : Value} {c : Cl} (h : WkIn H0 w wk hb V avs most lv kv fx s) (hA : BaseIs w H0 fx.a g bc av k m ba bq vv c) (hs : s.ls.length ≤ 900000000) (hbs : s.bk.length ≤ 1000000000) (hT : s.h.T.length + 3000 ≤ 900000000) (hm0 : 0 ≤ most) (hm : most ≤ 100000000) (hc : s.h.cost ≤ 1000000000)
    (kk : Int) (nm : ByteArray) (args : List Ex) (parts : List Bd) (cs : List Value) (hb' : BRep w (fun b => b < H0) (.mk kk nm args parts) cs) (xv : Value) (vs : List Nat) (hv : RowV w hb V s.h.T.length xv vs) (hx : exOkL vs.length args) (hsz : szL args ≤ 2001) :
    Calls Tryz.prog 134 #[.pointer (some ⟨wk, 0, none⟩), .agg cs.toArray, xv] w fun e w' => GoalPost H0 w wk hb most fx s e w' := by
  obtain ⟨i0, hi, hz0, hz1, hz2⟩ := info_parts Tryz.infoInt
  cases hb' with
  | mk _ _ _ _ av2 pv2 ha hp =>
  obtain ⟨a1, ac, rfl, hAR⟩ := arow_of ha
  obtain ⟨p0, p1, p2, rfl⟩ : ∃ p0 p1 p2, pv2 = .slice p0 p1 p2 := by cases hp <;> exact ⟨_, _, _, rfl⟩
  obtain ⟨xo, xc, hxf⟩ := row_form hv.own
  subst hxf
  have hll : args.length ≤ 2001 := by have := szL_len args; omega
  obtain ⟨w0, hw0⟩ : ∃ w0, w0 = w.alloc (.cells #[.int .u8 kk, .string nm, .slice a1 args.length ac, .slice p0 p1 p2] 47) := ⟨_, rfl⟩
  have hB0 : Below w.heap.size w w0 := by rw [hw0]; exact (Below.refl _ _).alloc (Nat.le_refl _) _
  have hbx0 : w0.heap[w.heap.size]? = some (.cells #[.int .u8 kk, .string nm, .slice a1 args.length ac, .slice p0 p1 p2] 47 (0, 0)) := by rw [hw0]; exact heap_alloc_new _ _
  have hs0 : w.heap.size < w0.heap.size := (Array.getElem?_eq_some_iff.1 hbx0).1
  have h0 := h.below hB0
  have hA0 := hA.keep h.size (hB0.mono h.size)
  have hnx : ¬ HM hb V w.heap.size := fun e => by have := h.S.H.tab.H.mlt _ e; omega
  have hwn : ¬ HM hb V wk := HM_not h.S.H.tab.H h.cells (.inr (.inr rfl))
  have hM : ∀ b, HM hb V b → H0 ≤ b := h.nh
  have hsH := h.size
  have HH := hide h0
  have HA := hide hA0
  have HB0 := hide hB0
  have HX := hide hx
  have HV := hide hv
  have HN := hide h.S.nds
  have hst : MadeAtB s.h.bs s.h.err w0 hb V avs s.h.cost most (.slice none 0 0) (madeL vs (args.take 0) s.h.T).1 w0 V (madeL vs (args.take 0) s.h.T).2 [] := ⟨by simpa [madeL] using h0.S.tabB, HFr.refl _ _ _, World.ownsRow_nil _ _ _ _, by simp [Value.ownBlock], by simp [Value.ownBlock], by simp⟩
  have HST := hide hst
  have HAR := hide hAR
  clear h h0 hA hA0 hB0 hx hv hst ha hp hAR
  go_enter Tryz.func134, Tryz.ntmps134
  go_wp2_with fail
  rw [← hw0]
  clear hw0
  go_loopg [7, 8] args.length (fun gk v i wr => ∃ j V1 avs2, j + gk = args.length ∧ i = .int .i64 (j : Nat) ∧ (j = 0 → v = .slice none 0 0) ∧ MadeAtB s.h.bs s.h.err w0 hb V avs s.h.cost most v (madeL vs (args.take j) s.h.T).1 wr V1 (madeL vs (args.take j) s.h.T).2 avs2)
  case atStart => exact ⟨0, V, [], by omega, rfl, fun _ => rfl, HST.out⟩
  case round =>
    obtain ⟨j, V1, avs2, hj, rfl, hv0, hA1⟩ := hrel
    have hbx : wr.heap[w.heap.size]? = some (.cells #[.int .u8 kk, .string nm, .slice a1 args.length ac, .slice p0 p1 p2] 47 (0, 0)) := by rw [hA1.fr.block _ hs0 hnx]; exact hbx0
    have x1 : wr.cell? ⟨w.heap.size, 1, none⟩ = some (.string nm) := by rw [cell_of_block hbx]; rfl
    have x2 : wr.cell? ⟨w.heap.size, 2, none⟩ = some (.slice a1 args.length ac) := by rw [cell_of_block hbx]; rfl
    have hs1 := hA1.fr.size
    have hlen1 := madeL_len vs (args.take j) s.h.T
    have hszt := szL_take args j
    have hM1 : ∀ b, HM hb V1 b → H0 ≤ b := fun b q => (hA1.fr.mnew b q).elim (hM b) (fun r => by omega)
    have hwc : wr.cell? ⟨wk, 0, none⟩ = some (.pointer (some ⟨hb, 0, none⟩)) := by
      have e1 := HH.out.cs.1
      have e2 := hA1.fr.block wk HH.out.lt hwn
      unfold World.cell? at e1 ⊢
      rw [e2]; exact e1
    have hwl : wk < wr.heap.size := Nat.lt_of_lt_of_le HH.out.lt hs1
    obtain ⟨idx, hidx⟩ : ∃ i, i = (madeL vs (args.take j) s.h.T).1 := ⟨_, rfl⟩
    obtain ⟨T1, hT1⟩ : ∃ t, t = (madeL vs (args.take j) s.h.T).2 := ⟨_, rfl⟩
    rw [← hidx, ← hT1] at hA1
    rw [← hT1] at hlen1
    have HIX := hide hidx
    have HT1 := hide hT1
    clear hidx hT1
    by_cases hlt : j < args.length
    · have hkeep : ∀ b, b < H0 → b < w.heap.size → wr.heap[b]? = w.heap[b]? := fun b q1 q2 => by
        rw [hA1.fr.block b (by omega) (fun e => by have := hM b e; omega), HB0.out.block b q2]
      obtain ⟨g', a, b, c', d, x, y, z, rfl, hac, hmx, hgl, hel, q0, q1, q2, q3, q4⟩ := arow_elem HAR.out hkeep hlt
      have hszj := szL_get args j hlt
      have hidl : idx.length ≤ 900000000 := by rw [HIX.out, madeL_len1]; have := List.length_take_le j args; omega
      have ho1 : wr.ownsRow 0 3 1 (.slice xo vs.length xc) vs.length (intsV vs) := own_hfr (own_below HV.out.own HB0.out) hA1.fr HV.out.vn
      have hvn1 : ∀ b, (Value.slice xo vs.length xc).ownBlock = some b → ¬ HM hb V1 b := fun b q => not_HM hA1.fr (by have := (HV.out.own.lt b q).2; omega) (HV.out.vn b q)
      have hBd : Below wr.heap.size wr wr.drew := (Below.refl _ _).drew
      have HC := hide (madeB_any _ args[j] (Nat.le_refl _) wr.drew hb V1 T1 (avs ++ avs2) s.h.cost most _ H0 (fun b => b < H0) xo xc vs (hA1.T.below hBd) (ERep.frame (w := wr) (w' := wr.drew) (Ok := fun b => b < H0) (Ok' := fun b => b < H0) (fun b q _ => ⟨rfl, q⟩) hel) (fun b q => q) hM1 (by show H0 ≤ wr.heap.size; omega) (own_below ho1 hBd) hvn1 (varsInL_get args (exOkL.vars HX.out) j hlt) HV.out.few (by omega))
      have hown1 := hA1.own
      obtain ⟨vo, vcap, hvf⟩ := row_form hown1
      subst hvf
      clear hkeep hel ho1 hvn1 hbx hv0
      go_wp2_with fail
      go_region_with (go_at_call 65; refine HC.out.mono ?_; rintro e w1 ⟨rfl, V2, avs3, hT2, hf2, hn3⟩)
      all_goals
        have hf2' : HFr hb V1 V2 wr w1 := (HFr.of_below (Below.refl _ _).drew).trans hf2
        have hown2 := own_hfr hown1 hf2' hA1.vn
        go_wp2_with (at_builtin; refine wpList_append_own2 rfl _ _ 65 rfl w0.heap.size 3 i0 (.int .i64 0) 1 8 Tryz.underlyingInts hi hz0 hz1 hz2 rfl (by decide) _ _ _ rfl (hown2.alloc _) (⟨w1.heap.size, 0, none⟩ : Addr) 1 1 [.int .i64 (madeS vs args[j] T1).1] rfl rfl ?_ ?_ ?_ ?_ ?_ ?_)
        · exact cell_one_new _ _ _
        · intro u hu; simp at hu; subst hu; rfl
        · unfold maxLen; omega
        · omega
        · have := hf2'.size; simp; omega
        intro v' w2 hov hgv hnv
        have HS := hide (madeB_step hA1 hT2 hf2' hn3 hov hgv (by simpa using hnv))
        obtain ⟨vo', vcap', hvf'⟩ := row_form hov
        clear hov hgv hnv hT2 hf2 hn3 hown2 hf2'
        subst hvf'
        go_wp2_with fail
        go_roundg (gk - 1)
        case measure => omega
        case rel =>
          have e : args.take (j + 1) = args.take j ++ [args[j]] := List.take_succ_eq_append_getElem hlt
          refine ⟨j + 1, V2, avs2 ++ avs3, by omega, by go_num, fun q => absurd q (by omega), ?_⟩
          rw [e, madeL_snoc, ← HT1.out, ← HIX.out]
          exact HS.out
    · have ej : j = args.length := by omega
      subst ej
      rw [List.take_length] at hlen1
      have hmi := madeL_is vs args s.h.T HX.out HV.out.lt HN.out
      have e1 := HT1.out
      have e2 := HIX.out
      rw [List.take_length] at e1 e2
      rw [← e1, ← e2] at hmi
      have HIL : Hid (idx.length = args.length) := by unfold Hid; rw [e2, madeL_len1]
      have S1 : Sound hb most wr V1 (avs ++ avs2) { s.h with T := T1 } := hA1.T.sound HH.out.S hmi.pre hmi.ok (by omega)
      obtain ⟨h1, b1⟩ := HH.out.heaped S1 hA1.fr hmi.pre
      have hAr := HA.out.keep HH.out.size b1
      have L1 : Later s.h { s.h with T := T1 } 2001 (max (s.h.cost + 2) (9 * most + 2)) := Later.of_made hmi.pre (by omega) (by omega)
      have HBB : Hid (Below H0 w wr) := (HB0.out.mono hsH).trans b1
      have hown1 := hA1.own
      have hvn := hA1.vn
      have HTS := hide (tests_any nm wr)
      obtain ⟨vo, vcap, hvf⟩ := row_form hown1
      subst hvf
      have HL1 := hide L1
      have HMI := hide hmi
      have HAr := hide hAr
      have H1 := hide h1
      have HS1 := hide S1
      clear hA1 hmi hAr h1 S1 L1 b1 hbx e1 e2
      obtain ⟨tn, hq⟩ : ∃ tn, tn = testsN nm := ⟨_, rfl⟩
      rw [← hq] at HTS
      have HQ := hide hq
      clear hq
      have hBd : Below wr.heap.size wr wr.drew := (Below.refl _ _).drew
      have H1d := hide (H1.out.below hBd)
      by_cases htn : tn = (idx.length : Int)
      · have hb1 : (tn == (idx.length : Int)) = true := by simpa using htn
        have HTE := hide (test_s (HS1.out.below hBd) hm0 (by omega) (show s.h.cost ≤ 1000000000 from hc) (by show T1.length + 1 ≤ 1000000000; omega) idx (own_below (ownsRow_base hown1 (Nat.zero_le _)) hBd) hvn HMI.out.lt (nm := nm) (by rw [← HQ.out]; exact htn))
        clear htn hv0
        go_wp2_with (go_at_call 103; refine HTS.out.mono ?_; rintro e w1 ⟨rfl, hw1⟩; subst w1)
        go_region_with (go_at_call 176; refine HTE.out.mono ?_; rintro e w2 ⟨b, h2, V2, avs4, rfl, S2, f2, L2⟩)
        all_goals
          obtain ⟨h3, b3⟩ := H1d.out.heaped S2 f2 L2.T
          have HP : Hid (GoalPost H0 w wk hb most fx s (.returned (.bool b)) w2) := ⟨b, _, _, _, _, _, rfl, h3, HBB.out.trans ((hBd.mono H1.out.size).trans b3), (HL1.out.trans L2).mono (by omega) (Int.le_refl _), .inl ⟨rfl, rfl, rfl⟩⟩
          clear h3 b3 S2 f2 L2
          go_wp2_with fail
          go_ret
          exact HP.out
      · have hb1 : (tn == (idx.length : Int)) = false := by simpa using htn
        have HNX := hide (next_z H1.out HAr.out nm idx.length 0 (Nat.zero_le _))
        by_cases hna : nm = B [97] ∧ idx.length = 0
        · have hr : (if 0 = 0 ∧ nm = B [97] ∧ idx.length = 0 then (0 : Int) else -1) = 0 := if_pos ⟨rfl, hna⟩
          rw [hr] at HNX
          obtain ⟨hn1, hn2⟩ := hna
          have hv1 := hv0 (by rw [← HIL.out]; exact hn2)
          injection hv1 with hvo hvl hvc
          obtain ⟨ko, kc, hkv⟩ := row_form H1.out.bo
          have H1k := H1d.out
          rw [hkv] at H1k
          have HCL := hide (clause_z (s := { s with h := { s.h with T := T1 } }) H1k (HAr.out.keep H1.out.size (hBd.mono H1.out.size)) hs hbs (by show T1.length + 13 ≤ 900000000; omega) (by show s.h.cost ≤ 1000000000000; omega) s.todo)
          obtain ⟨c0, c1, c2, c3, c4, cf⟩ := H1d.out.cs
          obtain ⟨y0, y1, y2, y3, y4, yf⟩ := H1.out.cs
          rw [hkv] at c4 y4
          have hlw := H1.out.lt
          rw [hvo, hvc, hn2]
          rw [hn2] at HNX hb1
          rw [hn1] at HNX x1 HTS
          rw [hn1]
          clear htn hr hv0 H1k cf yf hkv
          go_wp2_with (first | (go_at_call 103; refine HTS.out.mono ?_; rintro e w1 ⟨rfl, hw1⟩; subst w1) | (go_at_call 135; refine HNX.out.mono ?_; rintro e w1 ⟨rfl, hw1⟩; subst w1))
          go_region_with (go_at_call 91; refine HCL.out.mono ?_; rintro e w2 ⟨rfl, V2, avs4, lv2, kv2, v2, h2, b2⟩)
          all_goals
            have HP : Hid (GoalPost H0 w wk hb most fx s (.returned (.bool true)) w2) := ⟨true, _, _, _, _, _, rfl, h2, HBB.out.trans ((hBd.mono H1.out.size).trans b2), ⟨HL1.out.T, by have : T1.length ≤ s.h.T.length + 2001 := HL1.out.len; show T1.length ≤ _; omega, by show s.h.cost ≤ s.h.cost + 1; omega, by show s.h.cost + 1 ≤ _; omega, Nat.le_refl _⟩, .inr ⟨rfl, _, rfl, rfl, rfl, rfl, rfl⟩⟩
            clear h2 b2
            go_wp2_with fail
            go_ret
            exact HP.out
        · have hr : (if 0 = 0 ∧ nm = B [97] ∧ idx.length = 0 then (0 : Int) else -1) = -1 := if_neg (fun q => hna q.2)
          rw [hr] at HNX
          obtain ⟨c0, _, _, _, _, _⟩ := H1.out.cs
          have e8 := HS1.out.H.tab.H.fz 8
          have d8 : wr.cell? ⟨hb, 8, none⟩ = some (.int .i64 s.h.err) := by rw [HS1.out.H.tab.H.c 8]; rfl
          have hhl := HS1.out.H.tab.H.lt_size
          obtain ⟨q1, q2⟩ := HS1.out.H.fault 10
          obtain ⟨h3, b3⟩ := H1.out.heaped (h' := { s.h with T := T1, err := 10 }) ⟨q1, HS1.out.f4, HS1.out.nums, HS1.out.c0⟩ q2 (List.prefix_refl _)
          have HP : Hid (GoalPost H0 w wk hb most fx s (.returned (.bool false)) (wr.setCell ⟨hb, 8, none⟩ (.int .i64 10))) := ⟨false, _, _, _, _, _, rfl, h3, HBB.out.trans b3, ⟨HL1.out.T, by have := HL1.out.len; show T1.length ≤ _; have : T1.length ≤ s.h.T.length + 2001 := HL1.out.len; omega, Int.le_refl _, HL1.out.hi, Nat.le_refl _⟩, .inl ⟨rfl, rfl, rfl⟩⟩
          clear htn hr hna h3 b3 q1 q2 hv0
          go_wp2_with (first | (go_at_call 103; refine HTS.out.mono ?_; rintro e w1 ⟨rfl, hw1⟩; subst w1) | (go_at_call 135; refine HNX.out.mono ?_; rintro e w1 ⟨rfl, hw1⟩; subst w1))
          go_ret
          exact HP.out
end
end Go.Proofs.YtodpkdajbnceoaaGreatDoor
