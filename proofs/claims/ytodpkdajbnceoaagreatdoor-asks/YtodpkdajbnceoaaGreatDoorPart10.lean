import Derived.Test.YtodpkdajbnceoaaGreatDoorPart09
set_option linter.all false
set_option maxHeartbeats 4000000
set_option maxRecDepth 100000
namespace Go.Proofs.YtodpkdajbnceoaaGreatDoor
open Go.RowKit
theorem ErOk.ok {r : R Ex} {st st' : PS} {w w' : World} {bp : Nat} {vv' : Value} {cs : List Value} (h : ErOk r st w w' bp vv' st' cs) (he : st'.err = 0) :
    ∃ x, r = .ok (x, (st'.i, st'.vars)) ∧ st.i ≤ st'.i ∧ st'.vars.length ≤ 12 ∧ ERep w' (okS w bp vv') x cs := by
  cases r with
  | error e => obtain ⟨e1, e2, e3⟩ := h; exact absurd (e1.symm.trans he) e3
  | ok p =>
    obtain ⟨f1, f2, f3, f4, f5, f6⟩ := h
    exact ⟨p.1, by rw [f2, f3], by rw [f2]; exact f4, by rw [f3]; exact f5, f6⟩
theorem ErOk.err {r : R Ex} {st st' : PS} {w w' : World} {bp : Nat} {vv' : Value} {cs : List Value} (h : ErOk r st w w' bp vv' st' cs) (he : st'.err ≠ 0) :
    ∃ a : Nat, r = .error (st'.err, a) ∧ st'.at_ = a := by
  cases r with
  | error e => obtain ⟨e1, e2, e3⟩ := h; exact ⟨e.2, by rw [e1], e2⟩
  | ok p => exact absurd h.1 he
def opC (z0 : Int) (z1 : ByteArray) (z5 : Nat) : Bool := z0 == 99 && (z1.toList == [43] || z1.toList == [45] || z1.toList == [42] || z1.toList == [47, 47] || (z1.toList == [109, 111, 100] && (z5 : Int) == 2))
def badC (z0 : Int) (z1 : ByteArray) (z5 : Nat) : Bool := (!(z0 == 97) && !(z0 == 99)) || opC z0 z1 z5 || z1.toList == [46] || z1.toList == [91, 93]
theorem nat_beq2 (n : Nat) : ((n : Int) == 2) = (n == 2) := by
  rw [Bool.eq_iff_iff]; simp; omega
theorem ERep.told {w : World} {Ok : Nat → Prop} {x : Ex} {z0 : Int} {z1 : ByteArray} {z2 z3 : Int} {z4 : Option Addr} {z5 z6 : Nat} (h : ERep w Ok x [.int .u8 z0, .string z1, .int .i64 z2, .int .i64 z3, .slice z4 z5 z6]) :
    badC z0 z1 z5 = badEx x ∧ z1 = exName x ∧ z5 = (exArgs x).length ∧ ArgV w Ok (exArgs x) (.slice z4 z5 z6) := by
  cases h with
  | atom n => exact ⟨by simp [badC, opC, badEx, opEx, exName], rfl, rfl, .inl ⟨rfl, rfl⟩⟩
  | num v => exact ⟨by simp [badC, opC, badEx], rfl, rfl, .inl ⟨rfl, rfl⟩⟩
  | var k => exact ⟨by simp [badC, opC, badEx], rfl, rfl, .inl ⟨rfl, rfl⟩⟩
  | cmp n args g cap cur cs ho hg hc hm hs ht hr =>
    exact ⟨by simp only [badC, opC, badEx, opEx, exName, nat_beq2]; simp, rfl, rfl, .inr ⟨g, _, cur, cs, rfl, ho, hg, hc, hm, hs, ht, hr⟩⟩
theorem ArgV.two {w' : World} {Ok' : Nat → Prop} {x y : Ex} {cs ds : List Value} {g : Nat} (hx : ERep w' Ok' x cs) (hy : ERep w' Ok' y ds) (hg : w'.heap[g]? = some (.cells (cs ++ ds).toArray 125 (0, 0))) (ho : Ok' g) :
    ArgV w' Ok' [x, y] (.slice (some ⟨g, 0, none⟩) 2 2) := by
  have h1 := hx.len
  have h2 := hy.len
  refine .inr ⟨g, 2, (cs ++ ds).toArray, cs ++ ds, rfl, ho, hg, Nat.le_refl _, by unfold maxLen; omega, by simp [h1, h2], by simp [List.take_of_length_le, h1, h2], ?_⟩
  have := ERepL.cons x [y] cs (ds ++ []) hx (ERepL.cons y [] ds [] hy .nil)
  simpa using this
theorem ERep.goS {w1 wr w' : World} {bp : Nat} {vv1 vv2 : Value} {x : Ex} {cs : List Value} (h : ERep wr (okS w1 bp vv1) x cs) (hf : Fr bp vv1 vv2 wr w') : ERep w' (okS w1 bp vv2) x cs := ERep.frame (okS_go hf) h
theorem ERep.asideS {w w1 wr : World} {bp : Nat} {vv1 : Value} {x : Ex} {cs : List Value} (h : ERep wr (okS w1 bp vv1) x cs) (hs : w.heap.size < w1.heap.size) : ERep wr (fun b => okS w bp vv1 b ∧ b ≠ w.heap.size) x cs :=
  ERep.frame (fun b hb _ => ⟨rfl, ⟨Nat.le_trans (Nat.le_of_lt hs) hb.1, hb.2⟩, by have := hb.1; omega⟩) h
theorem two_fin {w wr : World} {bp : Nat} {toks : List Tok} {lv vv vv1 : Value} {st st1 : PS} {x y : Ex} {cs ds : List Value} {n : ByteArray} (h : Way w bp toks lv vv st wr vv1 st1) (he : st1.err = 0) (hi : st.i ≤ st1.i) (hv : st1.vars.length ≤ 12)
    (hx : ERep wr (fun b => okS w bp vv1 b ∧ b ≠ w.heap.size) x cs) (hy : ERep wr (fun b => okS w bp vv1 b ∧ b ≠ w.heap.size) y ds) :
    BdFin w bp vv1 st (wr.alloc (.cells (cs ++ ds).toArray 125)) [.int .u8 103, .string n, .slice (some ⟨wr.heap.size, 0, none⟩) 2 2, .slice none 0 0] st1 (.ok (.mk 103 n [x, y] [], (st1.i, st1.vars))) := by
  have hs := h.res.lt
  have hf : ∀ b, (okS w bp vv1 b ∧ b ≠ w.heap.size) → b < wr.heap.size → (wr.alloc (.cells (cs ++ ds).toArray 125)).heap[b]? = wr.heap[b]? ∧ (okS w bp vv1 b ∧ b ≠ w.heap.size) := fun _ hb hlt => ⟨Below.heap_alloc _ _ _ hlt, hb⟩
  exact ⟨he, rfl, rfl, hi, hv, .mk 103 _ _ [] _ _ (ArgV.two (hx.frame hf) (hy.frame hf) (heap_alloc_new _ _) ⟨⟨by omega, by have := h.P.lt_size; omega, (h.P.new (Nat.le_refl _)).2.2⟩, by omega⟩) .none⟩
theorem fault_keep {st : PS} {e a : Int} (h : st.err ≠ 0) : st.fault e a = st := by unfold PS.fault; rw [if_neg h]
theorem fault_new {st : PS} {e a : Int} (h : st.err = 0) : (st.fault e a).err = e ∧ (st.fault e a).at_ = a := by unfold PS.fault; rw [if_pos h]; exact ⟨rfl, rfl⟩
theorem plain_err {toks : List Tok} {ex : St → R Ex} {st : St} {e : Int × Nat} (h : ex st = .error e) : plainOf toks ex st = .error e := by unfold plainOf; rw [h]
theorem plain_call {toks : List Tok} {ex : St → R Ex} {st s1 : St} {x : Ex} (h : ex st = .ok (x, s1)) (h2 : twoT (tk toks s1.1) = false) : plainOf toks ex st = callOf (tk toks st.1).a x s1 := by
  unfold plainOf; rw [h]; simp [h2]
theorem goal_plain {toks : List Tok} {d : Int} {lit body : St → R Bd} {ex : St → R Ex} (hg : GoodToks toks) (hl : Reads 64 toks d ex) {w : World} {bp : Nat} {lv vv : Value} {st : PS} (h : PIn w bp toks lv vv st) (he : st.err = 0) (hv : st.vars.length ≤ 12) (hd : st.deep = d)
    (h1 : isT (tk toks st.i) [33] = false) (h2 : isT (tk toks st.i) [92, 43] = false) (h3 : isT (tk toks st.i) [40] = false) :
    Calls Tryz.prog 172 #[.pointer (some ⟨bp, 0, none⟩)] w fun e w' => BPost bp toks lv vv st w (goalOf toks lit body ex (st.i, st.vars)) e w' := by
  rw [goalOf_plain (st := (st.i, st.vars)) h1 h2 h3]
  have hW0 := Way.start h
  have HB1 := hide (isB_eq he h1)
  have HB2 := hide (isB_eq he h2)
  have HB3 := hide (isB_eq he h3)
  have HL := hide hl
  have hbpz := h.lt_size
  clear h1 h2 h3 hl
  obtain ⟨total, htot⟩ : ∃ t, plainOf toks ex (st.i, st.vars) = t := ⟨_, rfl⟩
  have HT := hide htot
  rw [htot]
  clear htot
  go_enter Tryz.func172, Tryz.ntmps172
  go_wp2_with fail
  refine (is_any hW0.P hg (B [33])).mono ?_
  rintro e w1 ⟨b, rfl, rfl, hP1, hfr1⟩
  rw [HB1.out] at hP1 ⊢
  have hW1 : Way w bp toks lv vv st w1 vv st := hW0.go hP1 hfr1
  go_wp2_with fail
  refine (is_any hW1.P hg (B [92, 43])).mono ?_
  rintro e w2 ⟨b, rfl, rfl, hP2, hfr2⟩
  rw [HB2.out] at hP2 ⊢
  have hW2 : Way w bp toks lv vv st w2 vv st := hW1.go hP2 hfr2
  go_wp2_with fail
  refine (is_any hW2.P hg (B [40])).mono ?_
  rintro e w3 ⟨b, rfl, rfl, hP3, hfr3⟩
  rw [HB3.out] at hP3 ⊢
  have hW3 : Way w bp toks lv vv st w3 vv st := hW2.go hP3 hfr3
  obtain ⟨t, ht⟩ : ∃ t, t = tk toks st.i := ⟨_, rfl⟩
  have HTK := hide ht
  have HN := hide (next_any hW3.P hg)
  rw [← ht] at HN
  clear ht
  go_wp2_with fail
  refine HN.out.mono ?_
  rintro e w4 ⟨rfl, hb4⟩
  unfold tokV
  have hW4' := hW3.go (hW3.P.below hb4) (Fr.of_below hb4)
  have hW4 := hW4'.alloc (.cells #[.int .u8 t.k, .string t.t, .int .i64 t.a] 133)
  have hs4 := hW4'.res.lt
  have hT4 := Box.mk' (w0 := w) hW4'.P (Nat.le_of_lt hs4) #[.int .u8 t.k, .string t.t, .int .i64 t.a] 133
  go_wp2_with fail
  refine (HL.out _ _ _ _ _ hW4.P he hv hd).mono ?_
  rintro e w5 ⟨cs, vv5, st5, rfl, ⟨z0, z1, z2, z3, z4, z5, z6, rfl⟩, hP5, hfr5, hdp5, hok5⟩
  have hW5' := hW4.go hP5 hfr5
  have hT5 := hT4.go hfr5 hbpz
  have hs5 : w4.heap.size < w5.heap.size := hT5.lt
  have hW5 := hW5'.alloc (.cells #[.int .u8 z0, .string z1, .int .i64 z2, .int .i64 z3, .slice z4 z5 z6] 125)
  have hX5 := Box.mk' (w0 := w) hP5 (by omega) #[.int .u8 z0, .string z1, .int .i64 z2, .int .i64 z3, .slice z4 z5 z6] 125
  have hfx5 := (Fr.refl bp vv5 w5).alloc (.cells #[.int .u8 z0, .string z1, .int .i64 z2, .int .i64 z3, .slice z4 z5 z6] 125)
  have hT5' := hT5.go hfx5 hbpz
  obtain ⟨u, hu⟩ : ∃ u, u = tk toks st5.i := ⟨_, rfl⟩
  have HU := hide hu
  have HN5 := hide (next_any hW5.P hg)
  rw [← hu] at HN5
  clear hu
  go_wp2_with fail
  refine HN5.out.mono ?_
  rintro e w6 ⟨rfl, hb6⟩
  unfold tokV
  have hW6' := hW5.go (hW5.P.below hb6) (Fr.of_below hb6)
  have hfr56 := hfx5.trans (Fr.of_below (bp := bp) (vv := vv5) hb6)
  have hT6' := hT5'.go (Fr.of_below (bp := bp) (vv := vv5) hb6) hbpz
  have hX6' := hX5.go (Fr.of_below (bp := bp) (vv := vv5) hb6) hbpz
  have hs6 : w5.heap.size < w6.heap.size := hX6'.lt
  have hU6 := Box.mk' (w0 := w) hW6'.P (by omega) #[.int .u8 u.k, .string u.t, .int .i64 u.a] 133
  have hfu := (Fr.refl bp vv5 w6).alloc (.cells #[.int .u8 u.k, .string u.t, .int .i64 u.a] 133)
  have hT6 := hT6'.go hfu hbpz
  have hX6 := hX6'.go hfu hbpz
  have hW6 := hW6'.go (hW6'.P.alloc _) hfu
  obtain ⟨t0, t1, t2, tf⟩ := box3 hT6'.at_
  obtain ⟨x0, x1, x2, x3, x4, xf⟩ := box5 hX6'.at_
  have p4 := hW6'.P.c4
  have hl4 : w4.heap.size < w6.heap.size := hT6'.lt
  have hpz := hW6'.P.lt_size
  have hrz := hW6'.res.lt
  go_upto_region 17 with (go_at_call 103; refine (tests_any _ _).mono ?_; rintro e w7 ⟨rfl, rfl⟩)
  go_cut [11, 62] (fun tv b wx => tv = .int .i64 (testsN u.t) ∧ b = .bool (st5.err == 0 && twoT u) ∧ w6.alloc (.cells #[.int .u8 u.k, .string u.t, .int .i64 u.a] 133) = wx)
  case first =>
    go_wp2_with fail
    all_goals
      go_meet
      case rel => go_light; refine ⟨?_, ?_, ?_⟩ <;> simp [twoT, *]
  case rest =>
    obtain ⟨rfl, rfl, rfl⟩ := hcut
    obtain ⟨u0, u1, u2, uf⟩ := box3 hU6.at_
    by_cases h2 : st5.err = 0 ∧ twoT u = true
    · obtain ⟨e5, hu2⟩ := h2
      obtain ⟨x, hr5, hi5, hv5, hx5⟩ := hok5.ok e5
      have hbt : (st5.err == 0 && twoT u) = true := by simp [e5, hu2]
      rw [hbt]
      have hue : u.k ≠ 101 := by intro q; simp [twoT, q] at hu2
      have hlt := hW6'.P.lt
      have hsm := hg.small
      have hnx : st5.i + 1 < toks.length := hg.next hlt (by rw [← HU.out]; exact hue)
      have HT2 : Hid (total = match ex (st5.i + 1, st5.vars) with | .error e => .error e | .ok (y, s2) => .ok (.mk 103 u.t [x, y] [], s2)) := by
        unfold Hid; rw [← HT.out]; unfold plainOf; rw [hr5]; simp only [← HU.out, hu2, if_true]
        cases ex (st5.i + 1, st5.vars) <;> rfl
      have p1 := hW6'.P.c1
      have pf := hW6'.P.fz 1
      have hW7 : Way w bp toks lv vv st ((w6.setCell ⟨bp, 1, none⟩ (.int .i64 ((st5.i : Int) + 1))).alloc (.cells #[.int .u8 u.k, .string u.t, .int .i64 u.a] 133)) vv5 st5.pass :=
        (hW6'.go (hW6'.P.pass hnx) ((Fr.refl _ _ _).setBp _ _)).alloc _
      have hfp : Fr bp vv5 vv5 w6 ((w6.setCell ⟨bp, 1, none⟩ (.int .i64 ((st5.i : Int) + 1))).alloc (.cells #[.int .u8 u.k, .string u.t, .int .i64 u.a] 133)) := ((Fr.refl _ _ _).setBp _ _).alloc _
      have hX7 := hX6'.go hfp hbpz
      have hU7 : Box w ((w6.setCell ⟨bp, 1, none⟩ (.int .i64 ((st5.i : Int) + 1))).alloc (.cells #[.int .u8 u.k, .string u.t, .int .i64 u.a] 133)) vv5 w6.heap.size #[.int .u8 u.k, .string u.t, .int .i64 u.a] 133 := by
        have := Box.mk' (w0 := w) (hW6'.P.pass hnx) (by simp [World.setCell]; omega) #[.int .u8 u.k, .string u.t, .int .i64 u.a] 133
        simpa [World.setCell] using this
      clear hbt hu2 hue hr5 HT hok5
      go_wp2_with fail
      refine (HL.out _ _ _ _ _ hW7.P e5 hv5 (hdp5.trans hd)).mono ?_
      rintro e w8 ⟨cs8, vv8, st8, rfl, ⟨y0, y1, y2, y3, y4, y5, y6, rfl⟩, hP8, hfr8, hdp8, hok8⟩
      have hW8' := hW7.go hP8 hfr8
      have hX8 := hX7.go hfr8 hbpz
      have hU8 := hU7.go hfr8 hbpz
      have hW8 := hW8'.alloc (.cells #[.int .u8 y0, .string y1, .int .i64 y2, .int .i64 y3, .slice y4 y5 y6] 125)
      have hfy := (Fr.refl bp vv8 w8).alloc (.cells #[.int .u8 y0, .string y1, .int .i64 y2, .int .i64 y3, .slice y4 y5 y6] 125)
      obtain ⟨a0, a1, a2, a3, a4, af⟩ := box5 hX8.at_
      obtain ⟨b0, b1, b2, bf⟩ := box3 hU8.at_
      obtain ⟨d0, d1, d2, d3, df⟩ := box4 hW8'.res.at_
      have hl1 := hX8.lt
      have hl2 := hU8.lt
      have hl4 := hW8'.res.lt
      have hE := Way.endA (x0 := 103) (x1 := u.t) (x2 := some ⟨w8.heap.size + 1, 0, none⟩) (x3 := 2) (x4 := 2) (x5 := none) (x6 := 0) (x7 := 0) (r := total) (o := .cells #[.int .u8 z0, .string z1, .int .i64 z2, .int .i64 z3, .slice z4 z5 z6, .int .u8 y0, .string y1, .int .i64 y2, .int .i64 y3, .slice y4 y5 y6] 125) hW8 (hdp8.trans hdp5) (by
        by_cases e8 : st8.err = 0
        · obtain ⟨y, hr8, hi8, hv8, hy8⟩ := hok8.ok e8
          have hr8' : ex (st5.i + 1, st5.vars) = .ok (y, (st8.i, st8.vars)) := hr8
          have hi8' : st5.i + 1 ≤ st8.i := hi8
          rw [HT2.out, hr8']
          have := two_fin (n := u.t) hW8 e8 (by omega) hv8 ((hx5.goS (((hfr56.trans hfp).trans hfr8).trans hfy)).asideS hW4.res.lt) ((hy8.goS hfy).asideS hW7.res.lt)
          rw [show (w8.alloc (.cells #[.int .u8 y0, .string y1, .int .i64 y2, .int .i64 y3, .slice y4 y5 y6] 125)).heap.size = w8.heap.size + 1 by simp] at this
          exact this
        · obtain ⟨a8, hr8, hat⟩ := hok8.err e8
          have hr8' : ex (st5.i + 1, st5.vars) = .error (st8.err, a8) := hr8
          rw [HT2.out, hr8']
          exact ⟨rfl, hat, e8⟩)
      rw [set4_alloc _ _ _ _ _ _ _ hl4] at hE
      clear hok8
      go_wp2_with fail
      exact bodyPost_ret (v := .agg #[.int .u8 103, .string u.t, .slice (some ⟨w8.heap.size + 1, 0, none⟩) 2 2, .slice none 0 0]) (by simp [results, Tryz.results172, go_sem, d0, d1, d2, d3, hl4]) rfl hE
    · have hbt : (st5.err == 0 && twoT u) = false := by
        cases hq : (st5.err == 0 && twoT u) with
        | false => rfl
        | true => simp at hq; exact absurd hq h2
      rw [hbt]
      clear hbt
      have HPL : Hid (∀ x, ex (st.i, st.vars) = .ok (x, (st5.i, st5.vars)) → st5.err = 0 → total = callOf t.a x (st5.i, st5.vars)) := fun x hr e5 => by
        have hq : twoT (tk toks st5.i) = false := by rw [← HU.out]; cases hq : twoT u with | false => rfl | true => exact absurd ⟨e5, hq⟩ h2
        rw [← HT.out, plain_call hr hq, HTK.out]
      have HER : Hid (∀ a, ex (st.i, st.vars) = .error (st5.err, a) → total = .error (st5.err, a)) := fun a hr => by rw [← HT.out]; exact plain_err hr
      clear h2 HT
      have HOK := hide hok5
      clear hok5
      go_upto_region 21 with fail
      go_cut [13] (fun b wx => b = .bool (opC z0 z1 z5) ∧ w6.alloc (.cells #[.int .u8 u.k, .string u.t, .int .i64 u.a] 133) = wx)
      case first =>
        go_wp2_with fail
        all_goals
          go_meet
          case rel => go_light; refine ⟨?_, ?_⟩ <;> simp [opC, *]
      case rest =>
        obtain ⟨rfl, rfl⟩ := hcut
        go_upto_region 22 with fail
        go_cut [13, 132] (fun _ b wx => b = .bool (badC z0 z1 z5) ∧ w6.alloc (.cells #[.int .u8 u.k, .string u.t, .int .i64 u.a] 133) = wx)
        case first =>
          go_wp2_with fail
          all_goals
            go_meet
            case rel => go_light; refine ⟨?_, ?_⟩ <;> simp [badC, *]
        case rest =>
          obtain ⟨rfl, rfl⟩ := hcut
          cases hbad : badC z0 z1 z5 with
          | true =>
            go_wp2_with fail
            refine (fault_any hW6.P 2 t.a).mono ?_
            rintro e w9 ⟨rfl, hP9, hfr9⟩
            have hW9 := hW6.go hP9 hfr9
            obtain ⟨d0, d1, d2, d3, df⟩ := box4 hW9.res.at_
            have hE := Way.end_ (x0 := 0) (x1 := ByteArray.empty) (x2 := none) (x3 := 0) (x4 := 0) (x5 := none) (x6 := 0) (x7 := 0) (r := total) hW9 ((PS.fault_deep _ _ _).trans hdp5) (by
              by_cases e5 : st5.err = 0
              · obtain ⟨x, hr5, hi5, hv5, hx5⟩ := HOK.out.ok e5
                have hb := hx5.told.1
                rw [HPL.out x hr5 e5, callOf, if_pos (by rw [← hb]; exact hbad)]
                exact ⟨(fault_new e5).1, (fault_new e5).2, by decide⟩
              · obtain ⟨a5, hr5, hat⟩ := HOK.out.err e5
                rw [HER.out a5 hr5, fault_keep e5]
                exact ⟨rfl, hat, e5⟩)
            go_wp2_with fail
            exact bodyPost_ret (v := .agg #[.int .u8 0, .string ByteArray.empty, .slice none 0 0, .slice none 0 0]) (by simp [results, Tryz.results172, go_sem, d0, d1, d2, d3]; rfl) rfl hE
          | false =>
            obtain ⟨tv, htv⟩ : ∃ v, testsN z1 = v := ⟨_, rfl⟩
            have HTV := hide htv
            go_upto_region 26 with (go_at_call 103; refine (tests_any _ _).mono ?_; rintro e w7 ⟨rfl, rfl⟩; rw [HTV.out])
            clear htv
            by_cases hn : 0 ≤ tv ∧ tv ≠ (z5 : Int)
            · obtain ⟨hn1, hn2⟩ := hn
              have hn2' : (tv == (z5 : Int)) = false := by simpa using hn2
              go_wp2_with fail
              refine (fault_any hW6.P 3 t.a).mono ?_
              rintro e w9 ⟨rfl, hP9, hfr9⟩
              have hW9 := hW6.go hP9 hfr9
              have hX9 := hX6.go hfr9 hbpz
              obtain ⟨d0, d1, d2, d3, df⟩ := box4 hW9.res.at_
              obtain ⟨a0, a1, a2, a3, a4, af⟩ := box5 hX9.at_
              have hl1 := hX9.lt
              have hE := Way.end_ (x0 := 103) (x1 := z1) (x2 := z4) (x3 := z5) (x4 := z6) (x5 := none) (x6 := 0) (x7 := 0) (r := total) hW9 ((PS.fault_deep _ _ _).trans hdp5) (by
                by_cases e5 : st5.err = 0
                · obtain ⟨x, hr5, hi5, hv5, hx5⟩ := HOK.out.ok e5
                  obtain ⟨q1, q2, q3, q4⟩ := hx5.told
                  rw [HPL.out x hr5 e5, callOf, if_neg (by rw [← q1, hbad]; simp), if_pos (by rw [← q2, ← q3, HTV.out]; exact ⟨hn1, hn2⟩)]
                  exact ⟨(fault_new e5).1, (fault_new e5).2, by decide⟩
                · obtain ⟨a5, hr5, hat⟩ := HOK.out.err e5
                  rw [HER.out a5 hr5, fault_keep e5]
                  exact ⟨rfl, hat, e5⟩)
              go_wp2_with fail
              exact bodyPost_ret (v := .agg #[.int .u8 103, .string z1, .slice z4 z5 z6, .slice none 0 0]) (by simp [results, Tryz.results172, go_sem, d0, d1, d2, d3]) rfl hE
            · have hcond : 0 ≤ tv → (tv == (z5 : Int)) = true := fun q => by
                cases hq : (tv == (z5 : Int)) with
                | true => rfl
                | false => exact absurd ⟨q, by simpa using hq⟩ hn
              obtain ⟨d0, d1, d2, d3, df⟩ := box4 hW6'.res.at_
              have hW6x := hW6
              have hE := Way.end_ (x0 := 103) (x1 := z1) (x2 := z4) (x3 := z5) (x4 := z6) (x5 := none) (x6 := 0) (x7 := 0) (r := total) hW6 hdp5 (by
                by_cases e5 : st5.err = 0
                · obtain ⟨x, hr5, hi5, hv5, hx5⟩ := HOK.out.ok e5
                  obtain ⟨q1, q2, q3, q4⟩ := hx5.told
                  rw [HPL.out x hr5 e5, callOf, if_neg (by rw [← q1, hbad]; simp), if_neg (by rw [← q2, ← q3, HTV.out]; exact hn), ← q2]
                  refine ⟨e5, rfl, rfl, hi5, hv5, .mk _ _ _ _ _ _ (ArgV.frame (fun b hb _ => ?_) q4) .none⟩
                  have := okS_go (hfr56.trans hfu) b hb (by assumption)
                  exact ⟨this.1, ⟨by have := this.2.1; have := hW4.res.lt; omega, this.2.2⟩, by have := hb.1; have := hW4.res.lt; omega⟩
                · obtain ⟨a5, hr5, hat⟩ := HOK.out.err e5
                  rw [HER.out a5 hr5]
                  exact ⟨rfl, hat, e5⟩)
              rw [set4_alloc _ _ _ _ _ _ _ hrz] at hE
              by_cases hn0 : 0 ≤ tv
              · have hn2 := hcond hn0
                clear hcond hn
                go_wp2_with fail
                exact bodyPost_ret (v := .agg #[.int .u8 103, .string z1, .slice z4 z5 z6, .slice none 0 0]) (by simp [results, Tryz.results172, go_sem, d0, d1, d2, d3, hrz]) rfl hE
              · clear hcond hn
                go_wp2_with fail
                exact bodyPost_ret (v := .agg #[.int .u8 103, .string z1, .slice z4 z5 z6, .slice none 0 0]) (by simp [results, Tryz.results172, go_sem, d0, d1, d2, d3, hrz]) rfl hE
theorem goal_any {toks : List Tok} {d : Int} {lit body : St → R Bd} {ex : St → R Ex} (hg : GoodToks toks) (hl : ReadsB 128 toks d lit) (hb : ReadsB 51 toks d body) (hx : Reads 64 toks d ex) :
    ReadsB 172 toks d (goalOf toks lit body ex) := by
  intro w bp lv vv st h he hv hd
  cases h1 : isT (tk toks st.i) [33] with
  | true => exact goal_cut hg h he hv h1
  | false =>
    cases h2 : isT (tk toks st.i) [92, 43] with
    | true => exact goal_not hg hl h he hv hd h1 h2
    | false =>
      cases h3 : isT (tk toks st.i) [40] with
      | true => exact goal_par hg hb h he hv hd h1 h2 h3
      | false => exact goal_plain hg hx h he hv hd h1 h2 h3
theorem lit_rest_at {toks : List Tok} (hg : GoodToks toks) : ∀ k : Nat, k ≤ 8 → ReadsB 128 toks (8 - (k : Int)) (litRest toks k).1 ∧ ReadsB 82 toks (8 - (k : Int)) (litRest toks k).2
  | 0, _ => ⟨lit_zero hg, rest_zero hg⟩
  | k + 1, h => by
    obtain ⟨h1, h2⟩ := lit_rest_at hg k (by omega)
    have hb := body_any hg (rowBd_any hg h1) h2
    exact ⟨lit_succ hg k (by omega) (goal_any hg h1 hb (expr_any hg (product_any hg (prim_at hg k (by omega))))), rest_succ hg k (by omega) hb⟩
theorem body_at {toks : List Tok} (hg : GoodToks toks) : ReadsB 51 toks 0 (bodyS toks 8) := by
  obtain ⟨h1, h2⟩ := lit_rest_at hg 8 (Nat.le_refl _)
  exact body_any hg (rowBd_any hg h1) h2
end Go.Proofs.YtodpkdajbnceoaaGreatDoor
