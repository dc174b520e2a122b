import Derived.Test.YtodpkdajbnceoaaGreatDoorPart08
set_option linter.all false
set_option maxHeartbeats 2000000
set_option maxRecDepth 100000
namespace Go.Proofs.YtodpkdajbnceoaaGreatDoor
open Go.RowKit
theorem cells4 (w : World) (o : Obj) (x0 x1 x2 x3 : Value) (T : TypeId) : ∀ j u, [x0, x1, x2, x3][j]? = some u → ((w.alloc o).alloc (.cells #[x0, x1, x2, x3] T)).cell? ((⟨w.heap.size + 1, 0, none⟩ : Addr).add j) = some u := by
  intro j u h
  have hadd : (⟨w.heap.size + 1, 0, none⟩ : Addr).add j = ⟨w.heap.size + 1, j, none⟩ := by unfold Addr.add; split <;> simp_all
  have hn : ((w.alloc o).alloc (.cells #[x0, x1, x2, x3] T)).heap[w.heap.size + 1]? = some (.cells #[x0, x1, x2, x3] T (0, 0)) := by
    have := heap_alloc_new (w.alloc o) (.cells #[x0, x1, x2, x3] T)
    simpa using this
  rw [hadd, cell_of_block hn]
  simpa using h
theorem own_first {wr : World} {base n cap : Nat} {ao : Option Addr} {es : List Value} (h : wr.ownsRow base 47 4 (.slice ao n cap) n es) (hs : Shapes4 n es) (hk : 0 < n) :
    ∃ g z0 z1 z2 z3 z4 z5 z6 z7, ao = some ⟨g, 0, none⟩ ∧ es.take 4 = [.int .u8 z0, .string z1, .slice z2 z3 z4, .slice z5 z6 z7] ∧ wr.cell? ⟨g, 0, none⟩ = some (.int .u8 z0) ∧ wr.cell? ⟨g, 1, none⟩ = some (.string z1) ∧ wr.cell? ⟨g, 2, none⟩ = some (.slice z2 z3 z4) ∧ wr.cell? ⟨g, 3, none⟩ = some (.slice z5 z6 z7) := by
  rcases h.2 with ⟨_, h0⟩ | ⟨g, cap', cur, hv, _, hg, hcap, hmx, hsz, htk⟩
  · omega
  · cases hv
    obtain ⟨z0, z1, z2, z3, z4, z5, z6, z7, hz⟩ := hs 0 hk
    simp only [Nat.zero_mul, List.drop_zero] at hz
    have hget : ∀ j u, j < 4 → ([.int .u8 z0, .string z1, .slice z2 z3 z4, .slice z5 z6 z7] : List Value)[j]? = some u → es[j]? = some u := fun j u hj hu => by
      rw [← hz, List.getElem?_take, if_pos hj] at hu; exact hu
    exact ⟨g, z0, z1, z2, z3, z4, z5, z6, z7, rfl, hz, rowCell hg htk (hget 0 _ (by decide) rfl), rowCell hg htk (hget 1 _ (by decide) rfl), rowCell hg htk (hget 2 _ (by decide) rfl), rowCell hg htk (hget 3 _ (by decide) rfl)⟩
theorem row_one {w w0 : World} {bp : Nat} {toks : List Tok} {lv vv : Value} {st : PS} {v : Value} {wr : World} {cs ds : List Value} {vv1 : Value} {st1 : PS} {total : R (List Bd)} (hR : RowAtB w0 bp toks lv vv st v wr cs 1 vv1 st1)
    (hf : RowFinB w0 bp vv1 st v wr cs 1 st1 total) (hs : w.heap.size < w0.heap.size) (hd : cs.take 4 = ds) : BdFin w bp vv1 st wr ds st1 (rowEnd total) := by
  cases total with
  | error e => exact hf
  | ok p =>
    obtain ⟨f1, f2, f3, f4, f5, f6, f7, f8⟩ := hf
    obtain ⟨l, s⟩ := p
    obtain ⟨x, hx1⟩ := List.length_eq_one_iff.1 (show l.length = 1 from f6.symm)
    subst hx1
    have hone : ∃ a, cs = a ∧ a.length = 4 ∧ BRep wr (okL w0 bp vv1 v) x a := by
      generalize cs = q at f8
      cases f8 with
      | cons _ _ a b hx hl =>
        cases hl
        exact ⟨a, by simp, hx.len, hx⟩
    obtain ⟨a, ha1, ha, hx⟩ := hone
    have : ds = a := by rw [← hd, ha1, ← ha, List.take_length]
    subst this
    refine ⟨f1, f2, f3, f4, f5, BRep.frame (fun b hb _ => ⟨rfl, ⟨by have := hb.1; omega, hb.2.1, hb.2.2.1⟩, by have := hb.1; omega⟩) hx⟩
theorem row_many {w w0 : World} {bp : Nat} {toks : List Tok} {lv vv : Value} {st : PS} {ao : Option Addr} {cap : Nat} {wr : World} {cs : List Value} {n : Nat} {vv1 : Value} {st1 : PS} {total : R (List Bd)} (hR : RowAtB w0 bp toks lv vv st (.slice ao n cap) wr cs n vv1 st1)
    (hf : RowFinB w0 bp vv1 st (.slice ao n cap) wr cs n st1 total) (hs : w.heap.size < w0.heap.size) (hn : n ≠ 1) : BdFin w bp vv1 st wr [.int .u8 44, .string ByteArray.empty, .slice none 0 0, .slice ao n cap] st1 (rowEnd total) := by
  cases total with
  | error e => exact hf
  | ok p =>
    obtain ⟨f1, f2, f3, f4, f5, f6, f7, f8⟩ := hf
    obtain ⟨l, s⟩ := p
    have hone : rowOne l = .mk 44 ByteArray.empty [] l := by
      match l, f6 with
      | [], _ => rfl
      | [_], q => exact absurd q hn
      | _ :: _ :: _, _ => rfl
    refine ⟨f1, f2, f3, f4, f5, ?_⟩
    show BRep wr _ (rowOne l) _
    rw [hone]
    refine .mk 44 _ [] l _ _ (.inl ⟨rfl, rfl⟩) ?_
    have vb := row_nbB hR
    rcases hR.own.2 with ⟨_, hz⟩ | ⟨g, cap', cur, hv, r1, r2, r3, r4, r5, r6⟩
    · omega
    · cases hv
      subst f6
      refine PRep.some l g _ cur cs ⟨⟨by omega, fun e => vb (by rw [e]; rfl), fun e => ?_⟩, by omega⟩ r2 r3 r4 r5 r6 (BRepL.frame (fun x hx hxl => ?_) f8)
      · rcases hR.vne with q | q
        · cases q
        · exact q e
      · obtain ⟨q1, q2, q3, q4⟩ := hx
        exact ⟨rfl, ⟨by omega, q2, q3⟩, by omega⟩
theorem rowBd_any {toks : List Tok} {d : Int} {lit : St → R Bd} (hg : GoodToks toks) (hp : ReadsB 128 toks d lit) : ReadsB 80 toks d (rowBd toks lit) := by
  intro w bp lv vv st h he hv hd
  have HP := hide hp
  clear hp
  obtain ⟨w0, hw0⟩ : ∃ w0, w0 = w.alloc (.cells bdZero 47) := ⟨_, rfl⟩
  have hW0 : Way w bp toks lv vv st w0 vv st := by rw [hw0]; exact Way.start h
  have hz0 : w0.heap.size = w.heap.size + 1 := by rw [hw0]; simp
  obtain ⟨total, htot⟩ : ∃ t, rowG toks lit (toks.length + 1) [] (st.i, st.vars) = t := ⟨_, rfl⟩
  have HT : Hid (rowBd toks lit (st.i, st.vars) = rowEnd total) := by unfold Hid rowBd; rw [htot]
  rw [HT.out]
  have HS : Hid (RowRelB w0 bp toks lv vv st lit total (toks.length + 1) (.slice none 0 0) (.bool true) (w.alloc (.cells bdZero 47))) := by
    unfold Hid; rw [← hw0]; exact row_startB hW0.P he hv htot
  clear htot hw0
  obtain ⟨i0, hi, hy0, hy1, hy2⟩ := info_parts bodyInfo
  have HZ := hide hz0
  go_enter Tryz.func80, Tryz.ntmps80
  go_upto_block 0 with fail
  clear hz0
  go_cut [3, 4] (fun v _ wx => ∃ cs n vv1 st1, RowAtB w0 bp toks lv vv st v wx cs n vv1 st1 ∧ RowFinB w0 bp vv1 st v wx cs n st1 total)
  case first =>
    go_wp2_with fail
    go_loopg [3, 4] (toks.length + 1) (fun g v m wr => RowRelB w0 bp toks lv vv st lit total g v m wr)
    case atStart => exact HS.out
    case round =>
      obtain ⟨cs, n, vv1, st1, hR, hrel⟩ := hrel
      rcases hrel with ⟨f, acc, rfl, hn, hni, e0, hv1, hi1, hf, hgk, hrow, hE⟩ | ⟨rfl, hfin⟩
      · have HROW := hide hrow
        have HN := hide hn
        have hd1 : st1.deep = d := hR.deep.trans hd
        have hsm := hR.small
        clear hrow hn
        go_wp2_with (first | (go_at_call 128; refine (HP.out _ _ _ _ _ hR.P e0 hv1 hd1).mono ?_; rintro e w4 ⟨ds, vv2, st2, rfl, ⟨z0, z1, z2, z3, z4, z5, z6, z7, rfl⟩, hP4, hfr4, hdp4, hok4⟩) | (at_builtin; refine wpList_append_own2 rfl _ _ 45 rfl w0.heap.size 47 i0 (.agg bdZero) 4 72 bodiesInfo hi hy0 hy1 hy2 rfl (by decide) _ _ _ rfl (((own_fr hR.own hfr4 (row_nbB hR) hR.vne).alloc _).alloc _) ⟨w4.heap.size + 1, 0, none⟩ 1 1 [.int .u8 z0, .string z1, .slice z2 z3 z4, .slice z5 z6 z7] rfl rfl ?c1 ?c2 ?c3 ?c4 ?c5 ?_) | go_in)
        case c1 => exact cells4 _ _ _ _ _ _ _
        case c2 => intro u hu; simp only [List.mem_cons, List.not_mem_nil, or_false] at hu; rcases hu with rfl | rfl | rfl | rfl <;> rfl
        case c3 => unfold maxLen; omega
        case c4 => omega
        case c5 => have := hR.fr.size; have := hfr4.size; simp; omega
        intro v' w5 ho hgr hnw
        have hP5 := row_P5B hR hP4 hfr4 hgr
        have HNW := hide hnw
        clear hnw
        go_wp2_with (go_at_call 81; refine (is_any hP5 hg _).mono ?_; rintro e w6 ⟨b, rfl, hb, hP6, hfr6⟩; have HB := hide hb; clear hb)
        obtain ⟨g', hg', hrel'⟩ := row_stepB hg hR HN.out hni hi1 hf hgk HROW.out hE ⟨_, _, _, _, _, _, _, _, rfl⟩ hfr4 hdp4 hok4 ho hgr HNW.out HB.out hP6 hfr6 hP4
        go_roundg g'
        case measure => exact hg'
        case rel => exact hrel'
      · go_wp2_with fail
        go_meet
        case rel => exact ⟨_, _, _, _, hR, hfin⟩
  case rest =>
    obtain ⟨cs, n, vv1, st1, hR, hfin⟩ := hcut
    obtain ⟨ao, cap, rfl⟩ := row_form hR.own
    have hW := hW0.go hR.P hR.fr
    obtain ⟨d0, d1, d2, d3, df⟩ := box4 hW.res.at_
    have hsm := hR.small
    by_cases h1 : n = 1
    · subst h1
      obtain ⟨g, z0, z1, z2, z3, z4, z5, z6, z7, rfl, hz, c0, c1, c2, c3⟩ := own_first hR.own hR.shapes (by omega)
      have hE := Way.end_ hW hR.deep (row_one hR hfin (by rw [HZ.out]; omega) hz)
      have hlt := World.block_lt_of_cell? _ _ c0
      go_wp2_with fail
      exact bodyPost_ret (v := .agg #[.int .u8 z0, .string z1, .slice z2 z3 z4, .slice z5 z6 z7]) (by simp [results, Tryz.results80, go_sem, d0, d1, d2, d3]) rfl hE
    · have h1' : ((n : Int) == 1) = false := by simpa using (show ¬ (n : Int) = 1 by omega)
      have hE := Way.end_ hW hR.deep (row_many hR hfin (by rw [HZ.out]; omega) h1)
      go_wp2_with fail
      exact bodyPost_ret (v := .agg #[.int .u8 44, .string ByteArray.empty, .slice none 0 0, .slice ao n cap]) (by simp [results, Tryz.results80, go_sem, d0, d1, d2, d3]; rfl) rfl hE
theorem BrOk.ok {r : R Bd} {st st' : PS} {w w' : World} {bp : Nat} {vv' : Value} {cs : List Value} (h : BrOk r st w w' bp vv' st' cs) (he : st'.err = 0) :
    ∃ x, r = .ok (x, (st'.i, st'.vars)) ∧ st.i ≤ st'.i ∧ st'.vars.length ≤ 12 ∧ BRep w' (okS w bp vv') x cs := by
  cases r with
  | error e => obtain ⟨e1, e2, e3⟩ := h; exact absurd (e1.symm.trans he) e3
  | ok p =>
    obtain ⟨f1, f2, f3, f4, f5, f6⟩ := h
    exact ⟨p.1, by rw [f2, f3], by rw [f2]; exact f4, by rw [f3]; exact f5, f6⟩
theorem BrOk.err {r : R Bd} {st st' : PS} {w w' : World} {bp : Nat} {vv' : Value} {cs : List Value} (h : BrOk r st w w' bp vv' st' cs) (he : st'.err ≠ 0) :
    ∃ a : Nat, r = .error (st'.err, a) ∧ st'.at_ = a := by
  cases r with
  | error e => obtain ⟨e1, e2, e3⟩ := h; exact ⟨e.2, by rw [e1], e2⟩
  | ok p => exact absurd h.1 he
theorem isB_ok {st : PS} {t : Tok} {s : List UInt8} (h : isB st t (B s) = true) : st.err = 0 ∧ isT t s = true := by
  simp only [isB, Bool.and_eq_true, beq_iff_eq] at h
  refine ⟨h.1, ?_⟩
  simp only [isT, Bool.and_eq_true]
  exact h.2
theorem isB_no {st : PS} {t : Tok} {s : List UInt8} (h : isB st t (B s) = false) (he : st.err = 0) : isT t s = false := by
  simp only [isB, he, beq_self_eq_true, Bool.true_and] at h
  exact h
theorem set4_alloc (wr : World) (b : Nat) (x0 x1 x2 x3 : Value) (o : Obj) (h : b < wr.heap.size) : set4 (wr.alloc o) b x0 x1 x2 x3 = (set4 wr b x0 x1 x2 x3).alloc o := by
  unfold set4
  rw [World.setCell_alloc_past _ _ _ _ h, World.setCell_alloc_past _ _ _ _ (by simpa [World.setCell] using h), World.setCell_alloc_past _ _ _ _ (by simpa [World.setCell] using h), World.setCell_alloc_past _ _ _ _ (by simpa [World.setCell] using h)]
theorem alloc_set4 (wr : World) (b : Nat) (x0 x1 x2 x3 : Value) (o : Obj) (k : Nat) (h : k ≠ b) : ((set4 wr b x0 x1 x2 x3).alloc o).heap[k]? = (wr.alloc o).heap[k]? := by
  have hs := set4_size wr b x0 x1 x2 x3
  rcases Nat.lt_trichotomy k wr.heap.size with q | q | q
  · rw [Below.heap_alloc _ _ _ (by omega), Below.heap_alloc _ _ _ q, set4_other _ _ _ _ _ _ _ h]
  · subst q
    have h1 := heap_alloc_new (set4 wr b x0 x1 x2 x3) o
    rw [hs] at h1
    rw [h1, heap_alloc_new]
  · rw [Array.getElem?_eq_none (by simp [hs]; omega), Array.getElem?_eq_none (by simp; omega)]
section
variable {w : World} {bp : Nat} {toks : List Tok} {lv vv : Value} {st : PS} {wr : World} {vv1 : Value} {st1 : PS}
theorem Way.endA {x0 : Int} {x1 : ByteArray} {x2 : Option Addr} {x3 x4 : Nat} {x5 : Option Addr} {x6 x7 : Nat} {r : R Bd} {o : Obj} (h : Way w bp toks lv vv st wr vv1 st1) (hd : st1.deep = st.deep) (hf : BdFin w bp vv1 st (wr.alloc o) [.int .u8 x0, .string x1, .slice x2 x3 x4, .slice x5 x6 x7] st1 r) :
    BPost bp toks lv vv st w r (.returned (.agg #[.int .u8 x0, .string x1, .slice x2 x3 x4, .slice x5 x6 x7])) ((set4 wr w.heap.size (.int .u8 x0) (.string x1) (.slice x2 x3 x4) (.slice x5 x6 x7)).alloc o) := by
  have n1 : w.heap.size ≠ bp := by have := h.bpold; omega
  have n2 : lv.ownBlock ≠ some w.heap.size := fun e => by have := h.lvold _ e; omega
  refine ⟨_, vv1, st1, rfl, ⟨_, _, _, _, _, _, _, _, rfl⟩, (h.P.set4 n1 n2 h.res.ne _ _ _ _).alloc _, (h.fr.set4 (Nat.le_refl _) _ _ _ _).alloc _, hd, ?_⟩
  cases r with
  | error e => exact hf
  | ok p =>
    obtain ⟨f1, f2, f3, f4, f5, f6⟩ := hf
    exact ⟨f1, f2, f3, f4, f5, BRep.frame (fun b hb _ => ⟨alloc_set4 _ _ _ _ _ _ _ _ hb.2, hb.1⟩) f6⟩
end
theorem prep_of {w : World} {Ok : Nat → Prop} {l : List Bd} {g n : Nat} {cs : List Value} (hr : BRepL w Ok l cs) (hg : w.heap[g]? = some (.cells cs.toArray 47 (0, 0))) (ho : Ok g) (hn : n = l.length) (hl : n ≤ 40000) : PRep w Ok l (.slice (some ⟨g, 0, none⟩) n n) := by
  subst hn
  have := hr.len
  exact .some l g l.length cs.toArray cs ho hg (Nat.le_refl _) (by unfold maxLen; omega) (by simp [this]) (by simp [← this]) hr
theorem parts_fin {w wr : World} {bp : Nat} {toks : List Tok} {lv vv vv1 : Value} {st st1 : PS} {l : List Bd} {cs : List Value} {k : Int} {n : Nat} (h : Way w bp toks lv vv st wr vv1 st1) (he : st1.err = 0) (hi : st.i ≤ st1.i) (hv : st1.vars.length ≤ 12)
    (hl : BRepL wr (fun b => okS w bp vv1 b ∧ b ≠ w.heap.size) l cs) (hn : n = l.length) (h4 : n ≤ 40000) :
    BdFin w bp vv1 st (wr.alloc (.cells cs.toArray 47)) [.int .u8 k, .string ByteArray.empty, .slice none 0 0, .slice (some ⟨wr.heap.size, 0, none⟩) n n] st1 (.ok (.mk k ByteArray.empty [] l, (st1.i, st1.vars))) := by
  have hs := h.res.lt
  refine ⟨he, rfl, rfl, hi, hv, .mk k _ [] l _ _ (.inl ⟨rfl, rfl⟩) (prep_of (cs := cs) (BRepL.frame (fun _ hb hlt => ⟨Below.heap_alloc _ _ _ hlt, hb⟩) hl) (heap_alloc_new _ _) ⟨⟨by omega, by have := h.P.lt_size; omega, (h.P.new (Nat.le_refl _)).2.2⟩, by omega⟩ hn h4)⟩
theorem BRepL.two {w : World} {Ok : Nat → Prop} {a b : Bd} {ca cb : List Value} (ha : BRep w Ok a ca) (hb : BRep w Ok b cb) : BRepL w Ok [a, b] (ca ++ cb) := by
  have := BRepL.cons a [b] ca (cb ++ []) ha (BRepL.cons b [] cb [] hb .nil)
  simpa using this
theorem BRepL.three {w : World} {Ok : Nat → Prop} {a b c : Bd} {ca cb cc : List Value} (ha : BRep w Ok a ca) (hb : BRep w Ok b cb) (hc : BRep w Ok c cc) : BRepL w Ok [a, b, c] (ca ++ (cb ++ cc)) :=
  BRepL.cons a [b, c] ca (cb ++ cc) ha (BRepL.two hb hc)
theorem failB_rep (w : World) (Ok : Nat → Prop) : BRep w Ok failB [.int .u8 103, .string (B [102, 97, 105, 108]), .slice none 0 0, .slice none 0 0] := .mk _ _ _ _ _ _ (.inl ⟨rfl, rfl⟩) .none
theorem body_any {toks : List Tok} {d : Int} {lit rest : St → R Bd} (hg : GoodToks toks) (hrow : ReadsB 80 toks d (rowBd toks lit)) (hrest : ReadsB 82 toks d rest) :
    ReadsB 51 toks d (bodyOf toks lit rest) := by
  intro w bp lv vv st h he hv hd
  have HR := hide hrow
  have HE := hide hrest
  clear hrow hrest
  have hW0 := Way.start h
  have hbpz := h.lt_size
  obtain ⟨total, htot⟩ : ∃ t, bodyOf toks lit rest (st.i, st.vars) = t := ⟨_, rfl⟩
  have HT := hide htot
  rw [htot]
  clear htot
  go_enter Tryz.func51, Tryz.ntmps51
  go_wp2_with fail
  refine (HR.out _ _ _ _ _ hW0.P he hv hd).mono ?_
  rintro e w1 ⟨cs, vv1, st1, rfl, ⟨z0, z1, z2, z3, z4, z5, z6, z7, rfl⟩, hP1, hfr1, hdp1, hok1⟩
  have hW1 := (hW0.go hP1 hfr1).alloc (.cells #[.int .u8 z0, .string z1, .slice z2 z3 z4, .slice z5 z6 z7] 47)
  have hs1 : w.heap.size < w1.heap.size := (hW0.go hP1 hfr1).res.lt
  have hA1 := Box.mk' (w0 := w) hP1 (Nat.le_of_lt hs1) #[.int .u8 z0, .string z1, .slice z2 z3 z4, .slice z5 z6 z7] 47
  have hs0 : w.heap.size < (w.alloc (.cells bdZero 47)).heap.size := by simp
  go_wp2_with fail
  refine (is_any hW1.P hg (B [45, 62])).mono ?_
  rintro e w2 ⟨b, rfl, hb, hP2, hfr2⟩
  have hA2 := hA1.go hfr2 hbpz
  have hW2 := hW1.go hP2 hfr2
  have hfr12 := ((Fr.refl bp vv1 w1).alloc (.cells #[.int .u8 z0, .string z1, .slice z2 z3 z4, .slice z5 z6 z7] 47)).trans hfr2
  cases b with
  | true =>
    obtain ⟨e1, ht1⟩ := isB_ok hb.symm
    obtain ⟨a, hr1, hi1, hv1, ha1⟩ := hok1.ok e1
    have HT2 : Hid (thenOf toks rest a (rowBd toks lit (st1.i + 1, st1.vars)) = total) := by
      unfold Hid; rw [← HT.out]; unfold bodyOf; rw [hr1]; simp only [ht1, if_true]
    clear hb ht1 hr1 HT hok1
    go_wp2_with fail
    refine (HR.out _ _ _ _ _ hW2.P e1 hv1 (hdp1.trans hd)).mono ?_
    rintro e w3 ⟨cs3, vv3, st3, rfl, ⟨y0, y1, y2, y3, y4, y5, y6, y7, rfl⟩, hP3, hfr3, hdp3, hok3⟩
    have hA3 := hA2.go hfr3 hbpz
    have hW3 := ((hW2.go hP3 hfr3).alloc (.cells #[.int .u8 y0, .string y1, .slice y2 y3 y4, .slice y5 y6 y7] 47)).alloc (.cells #[.int .u8 103, .string (B [102, 97, 105, 108]), .slice none 0 0, .slice none 0 0] 47)
    have hs3 : w1.heap.size < w3.heap.size := hA3.lt
    have hB3 := (Box.mk' (w0 := w) hP3 (by omega) #[.int .u8 y0, .string y1, .slice y2 y3 y4, .slice y5 y6 y7] 47).go ((Fr.refl bp vv3 _).alloc (.cells #[.int .u8 103, .string (B [102, 97, 105, 108]), .slice none 0 0, .slice none 0 0] 47)) hbpz
    have hC3 := Box.mk' (w0 := w) (hP3.alloc (.cells #[.int .u8 y0, .string y1, .slice y2 y3 y4, .slice y5 y6 y7] 47)) (by simp; omega) #[.int .u8 103, .string (B [102, 97, 105, 108]), .slice none 0 0, .slice none 0 0] 47
    rw [show (w3.alloc (.cells #[.int .u8 y0, .string y1, .slice y2 y3 y4, .slice y5 y6 y7] 47)).heap.size = w3.heap.size + 1 by simp] at hC3
    have hfa := ((Fr.refl bp vv3 w3).alloc (.cells #[.int .u8 y0, .string y1, .slice y2 y3 y4, .slice y5 y6 y7] 47)).alloc (.cells #[.int .u8 103, .string (B [102, 97, 105, 108]), .slice none 0 0, .slice none 0 0] 47)
    have hA3' := hA3.go hfa hbpz
    go_wp2_with fail
    refine (is_any hW3.P hg (B [59])).mono ?_
    rintro e w4 ⟨b, rfl, hb, hP4, hfr4⟩
    have hA4 := hA3'.go hfr4 hbpz
    have hB4 := hB3.go hfr4 hbpz
    have hC4 := hC3.go hfr4 hbpz
    have hW4 := hW3.go hP4 hfr4
    have hfr14 := (hfr12.trans hfr3).trans (hfa.trans hfr4)
    have hfr34 := hfa.trans hfr4
    have hlC := hC4.lt
    cases b with
    | true =>
      obtain ⟨e3, ht3⟩ := isB_ok hb.symm
      obtain ⟨bb, hr3, hi3, hv3, hb3⟩ := hok3.ok e3
      have HT3 : Hid ((match rest (st3.i + 1, st3.vars) with | .error e => .error e | .ok (c, s3) => .ok (.mk 63 ByteArray.empty [] [a, bb, c], s3)) = total) := by
        unfold Hid
        have hr3' : rowBd toks lit (st1.i + 1, st1.vars) = .ok (bb, (st3.i, st3.vars)) := hr3
        rw [← HT2.out, hr3']; simp only [thenOf, ht3, if_true]
        cases rest (st3.i + 1, st3.vars) <;> rfl
      clear hb ht3 hr3 HT2 hok3
      go_wp2_with fail
      refine (HE.out _ _ _ _ _ hW4.P e3 hv3 (hdp3.trans (hdp1.trans hd))).mono ?_
      rintro e w5 ⟨cs5, vv5, st5, rfl, ⟨x0, x1, x2, x3, x4, x5, x6, x7, rfl⟩, hP5, hfr5, hdp5, hok5⟩
      have hA5 := hA4.go hfr5 hbpz
      have hB5 := hB4.go hfr5 hbpz
      have hC5 := hC4.go hfr5 hbpz
      have hW5 := hW4.go hP5 hfr5
      obtain ⟨a0, a1, a2, a3, af⟩ := box4 hA5.at_
      obtain ⟨b0, b1, b2, b3, bf⟩ := box4 hB5.at_
      obtain ⟨c0, c1, c2, c3, cf⟩ := box4 hC5.at_
      obtain ⟨d0, d1, d2, d3, df⟩ := box4 hW5.res.at_
      have hl1 := hA5.lt
      have hl2 := hB5.lt
      have hl3 := hC5.lt
      have hl4 := hW5.res.lt
      have hW6 := hW5.set (b := w3.heap.size + 1) (by omega) hC5.ne (.int .u8 x0) (.string x1) (.slice x2 x3 x4) (.slice x5 x6 x7)
      have F1 := (hfr14.trans hfr5).set4 (b := w3.heap.size + 1) (by omega) (.int .u8 x0) (.string x1) (.slice x2 x3 x4) (.slice x5 x6 x7)
      have F3 := (hfr34.trans hfr5).set4 (b := w3.heap.size + 1) (by omega) (.int .u8 x0) (.string x1) (.slice x2 x3 x4) (.slice x5 x6 x7)
      have hs2 := hW2.res.lt
      have hE := Way.endA (x0 := 63) (x1 := ByteArray.empty) (x2 := none) (x3 := 0) (x4 := 0) (x5 := some ⟨w5.heap.size, 0, none⟩) (x6 := 3) (x7 := 3) (r := total) (o := .cells #[.int .u8 z0, .string z1, .slice z2 z3 z4, .slice z5 z6 z7, .int .u8 y0, .string y1, .slice y2 y3 y4, .slice y5 y6 y7, .int .u8 x0, .string x1, .slice x2 x3 x4, .slice x5 x6 x7] 47) hW6 (hdp5.trans (hdp3.trans hdp1)) (by
        by_cases e5 : st5.err = 0
        · obtain ⟨c, hr5, hi5, hv5, hc5⟩ := hok5.ok e5
          have hr5' : rest (st3.i + 1, st3.vars) = .ok (c, (st5.i, st5.vars)) := hr5
          rw [← HT3.out, hr5']
          have hi5' : st3.i + 1 ≤ st5.i := hi5
          have hi3' : st1.i + 1 ≤ st3.i := hi3
          have := parts_fin (k := 63) (n := 3) hW6 e5 (by omega) hv5 (BRepL.three ((ha1.go F1).aside hs0) ((hb3.go F3).aside hs2)
            ((BRep.set4 hc5 hlC (.int .u8 x0) (.string x1) (.slice x2 x3 x4) (.slice x5 x6 x7)).aside hW4.res.lt)) rfl (by omega)
          rw [set4_size] at this
          exact this
        · obtain ⟨a5, hr5, hat⟩ := hok5.err e5
          have hr5' : rest (st3.i + 1, st3.vars) = .error (st5.err, a5) := hr5
          rw [← HT3.out, hr5']
          exact ⟨rfl, hat, e5⟩)
      go_wp2_with fail
      exact bodyPost_ret (v := .agg #[.int .u8 63, .string ByteArray.empty, .slice none 0 0, .slice (some ⟨w5.heap.size, 0, none⟩) 3 3]) (by simp [results, Tryz.results51, go_sem, d0, d1, d2, d3, hl4]; rfl) rfl hE
    | false =>
      obtain ⟨a0, a1, a2, a3, af⟩ := box4 hA4.at_
      obtain ⟨b0, b1, b2, b3, bf⟩ := box4 hB4.at_
      obtain ⟨c0, c1, c2, c3, cf⟩ := box4 hC4.at_
      obtain ⟨d0, d1, d2, d3, df⟩ := box4 hW4.res.at_
      have hl1 := hA4.lt
      have hl2 := hB4.lt
      have hl3 := hC4.lt
      have hl4 := hW4.res.lt
      have hs2 := hW2.res.lt
      have hE := Way.endA (x0 := 63) (x1 := ByteArray.empty) (x2 := none) (x3 := 0) (x4 := 0) (x5 := some ⟨w4.heap.size, 0, none⟩) (x6 := 3) (x7 := 3) (r := total) (o := .cells #[.int .u8 z0, .string z1, .slice z2 z3 z4, .slice z5 z6 z7, .int .u8 y0, .string y1, .slice y2 y3 y4, .slice y5 y6 y7, .int .u8 103, .string (B [102, 97, 105, 108]), .slice none 0 0, .slice none 0 0] 47) hW4 (hdp3.trans hdp1) (by
        by_cases e3 : st3.err = 0
        · obtain ⟨bb, hr3, hi3, hv3, hb3⟩ := hok3.ok e3
          have hr3' : rowBd toks lit (st1.i + 1, st1.vars) = .ok (bb, (st3.i, st3.vars)) := hr3
          have ht3 := isB_no hb.symm e3
          rw [← HT2.out, hr3']
          simp only [thenOf, ht3]
          have hi3' : st1.i + 1 ≤ st3.i := hi3
          exact parts_fin (k := 63) (n := 3) hW4 e3 (by show st.i ≤ st3.i; omega) hv3 (BRepL.three ((ha1.go hfr14).aside hs0) ((hb3.go hfr34).aside hs2) (failB_rep _ _)) rfl (by omega)
        · obtain ⟨a3, hr3, hat⟩ := hok3.err e3
          have hr3' : rowBd toks lit (st1.i + 1, st1.vars) = .error (st3.err, a3) := hr3
          rw [← HT2.out, hr3']
          exact ⟨rfl, hat, e3⟩)
      clear hb HT2 hok3
      go_wp2_with fail
      exact bodyPost_ret (v := .agg #[.int .u8 63, .string ByteArray.empty, .slice none 0 0, .slice (some ⟨w4.heap.size, 0, none⟩) 3 3]) (by simp [results, Tryz.results51, go_sem, d0, d1, d2, d3, hl4]; rfl) rfl hE
  | false =>
    have HB := hide hb
    clear hb
    go_wp2_with fail
    refine (is_any hW2.P hg (B [59])).mono ?_
    rintro e w3 ⟨b, rfl, hb, hP3, hfr3⟩
    have hA3 := hA2.go hfr3 hbpz
    have hW3 := hW2.go hP3 hfr3
    have hfr13 := hfr12.trans hfr3
    cases b with
    | true =>
      obtain ⟨e1, ht2⟩ := isB_ok hb.symm
      obtain ⟨a, hr1, hi1, hv1, ha1⟩ := hok1.ok e1
      have ht1 := isB_no HB.out.symm e1
      have ht2' : isT (tk toks st1.i) [59] = true := ht2
      have HT2 : Hid (orOf a (rest (st1.i + 1, st1.vars)) = total) := by
        unfold Hid; rw [← HT.out]; unfold bodyOf; rw [hr1]; simp [ht1, ht2']
      clear hb ht1 ht2 ht2' hr1 HT hok1 HB
      go_wp2_with fail
      refine (HE.out _ _ _ _ _ hW3.P e1 hv1 (hdp1.trans hd)).mono ?_
      rintro e w5 ⟨cs5, vv5, st5, rfl, ⟨x0, x1, x2, x3, x4, x5, x6, x7, rfl⟩, hP5, hfr5, hdp5, hok5⟩
      have hA5 := hA3.go hfr5 hbpz
      have hW5 := (hW3.go hP5 hfr5).alloc (.cells #[.int .u8 x0, .string x1, .slice x2 x3 x4, .slice x5 x6 x7] 47)
      have hfx := (Fr.refl bp vv5 w5).alloc (.cells #[.int .u8 x0, .string x1, .slice x2 x3 x4, .slice x5 x6 x7] 47)
      have hs15 : w1.heap.size < w5.heap.size := hA5.lt
      have hA6 := hA5.go hfx hbpz
      have hX6 := Box.mk' (w0 := w) hP5 (by omega) #[.int .u8 x0, .string x1, .slice x2 x3 x4, .slice x5 x6 x7] 47
      obtain ⟨a0, a1, a2, a3, af⟩ := box4 hA5.at_
      obtain ⟨d0, d1, d2, d3, df⟩ := box4 (hW3.go hP5 hfr5).res.at_
      have hl1 := hA5.lt
      have hl4 := (hW3.go hP5 hfr5).res.lt
      have hs3 := hW3.res.lt
      have hE := Way.endA (x0 := 59) (x1 := ByteArray.empty) (x2 := none) (x3 := 0) (x4 := 0) (x5 := some ⟨w5.heap.size + 1, 0, none⟩) (x6 := 2) (x7 := 2) (r := total) (o := .cells #[.int .u8 z0, .string z1, .slice z2 z3 z4, .slice z5 z6 z7, .int .u8 x0, .string x1, .slice x2 x3 x4, .slice x5 x6 x7] 47) hW5 (hdp5.trans hdp1) (by
        by_cases e5 : st5.err = 0
        · obtain ⟨c, hr5, hi5, hv5, hc5⟩ := hok5.ok e5
          have hr5' : rest (st1.i + 1, st1.vars) = .ok (c, (st5.i, st5.vars)) := hr5
          rw [← HT2.out, hr5']
          have hi5' : st1.i + 1 ≤ st5.i := hi5
          have := parts_fin (k := 59) (n := 2) hW5 e5 (by omega) hv5 (BRepL.two ((ha1.go ((hfr13.trans hfr5).trans hfx)).aside hs0) ((hc5.go hfx).aside hs3)) rfl (by omega)
          rw [show (w5.alloc (.cells #[.int .u8 x0, .string x1, .slice x2 x3 x4, .slice x5 x6 x7] 47)).heap.size = w5.heap.size + 1 by simp] at this
          exact this
        · obtain ⟨a5, hr5, hat⟩ := hok5.err e5
          have hr5' : rest (st1.i + 1, st1.vars) = .error (st5.err, a5) := hr5
          rw [← HT2.out, hr5']
          exact ⟨rfl, hat, e5⟩)
      rw [set4_alloc _ _ _ _ _ _ _ hl4] at hE
      clear hok5
      go_wp2_with fail
      exact bodyPost_ret (v := .agg #[.int .u8 59, .string ByteArray.empty, .slice none 0 0, .slice (some ⟨w5.heap.size + 1, 0, none⟩) 2 2]) (by simp [results, Tryz.results51, go_sem, d0, d1, d2, d3, hl4]; rfl) rfl hE
    | false =>
      obtain ⟨a0, a1, a2, a3, af⟩ := box4 hA3.at_
      obtain ⟨d0, d1, d2, d3, df⟩ := box4 hW3.res.at_
      have hl1 := hA3.lt
      have hl4 := hW3.res.lt
      have hE := Way.end_ (x0 := z0) (x1 := z1) (x2 := z2) (x3 := z3) (x4 := z4) (x5 := z5) (x6 := z6) (x7 := z7) (r := total) hW3 hdp1 (by
        by_cases e1 : st1.err = 0
        · obtain ⟨a, hr1, hi1, hv1, ha1⟩ := hok1.ok e1
          have ht1 := isB_no HB.out.symm e1
          have ht2 : isT (tk toks st1.i) [59] = false := isB_no hb.symm e1
          have : total = .ok (a, (st1.i, st1.vars)) := by rw [← HT.out]; unfold bodyOf; rw [hr1]; simp [ht1, ht2]
          rw [this]
          exact ⟨e1, rfl, rfl, hi1, hv1, (ha1.go hfr13).aside hs0⟩
        · obtain ⟨a1, hr1, hat⟩ := hok1.err e1
          have : total = .error (st1.err, a1) := by rw [← HT.out]; unfold bodyOf; rw [hr1]
          rw [this]
          exact ⟨rfl, hat, e1⟩)
      clear hb HT hok1 HB
      go_wp2_with fail
      exact bodyPost_ret (v := .agg #[.int .u8 z0, .string z1, .slice z2 z3 z4, .slice z5 z6 z7]) (by simp [results, Tryz.results51, go_sem, d0, d1, d2, d3]) rfl hE
theorem goalOf_cut {toks : List Tok} {lit body : St → R Bd} {ex : St → R Ex} {st : St} (h : isT (tk toks st.1) [33] = true) : goalOf toks lit body ex st = .ok (.mk 33 ByteArray.empty [] [], (st.1 + 1, st.2)) := by
  unfold goalOf; rw [if_pos h]
theorem goalOf_not {toks : List Tok} {lit body : St → R Bd} {ex : St → R Ex} {st : St} (h : isT (tk toks st.1) [33] = false) (h2 : isT (tk toks st.1) [92, 43] = true) : goalOf toks lit body ex st = notOf (lit (st.1 + 1, st.2)) := by
  unfold goalOf; rw [if_neg (by simp [h]), if_pos h2]
theorem goalOf_par {toks : List Tok} {lit body : St → R Bd} {ex : St → R Ex} {st : St} (h : isT (tk toks st.1) [33] = false) (h2 : isT (tk toks st.1) [92, 43] = false) (h3 : isT (tk toks st.1) [40] = true) : goalOf toks lit body ex st = parOf toks (body (st.1 + 1, st.2)) := by
  unfold goalOf; rw [if_neg (by simp [h]), if_neg (by simp [h2]), if_pos h3]
theorem goalOf_plain {toks : List Tok} {lit body : St → R Bd} {ex : St → R Ex} {st : St} (h : isT (tk toks st.1) [33] = false) (h2 : isT (tk toks st.1) [92, 43] = false) (h3 : isT (tk toks st.1) [40] = false) : goalOf toks lit body ex st = plainOf toks ex st := by
  unfold goalOf; rw [if_neg (by simp [h]), if_neg (by simp [h2]), if_neg (by simp [h3])]
theorem isB_eq {st : PS} {t : Tok} {s : List UInt8} {b : Bool} (he : st.err = 0) (h : isT t s = b) : isB st t (B s) = b := by
  rw [← h]; simp [isB, isT, he]
theorem bdfin_must {w w5 : World} {bp : Nat} {toks : List Tok} {vv3 : Value} {st st3 : PS} {ds : List Value} {x : Bd} {s : List UInt8} (f1 : st3.err = 0) (f4 : st.i ≤ st3.i) (f5 : st3.vars.length ≤ 12)
    (f6 : BRep w5 (fun b => okS w bp vv3 b ∧ b ≠ w.heap.size) x ds) :
    BdFin w bp vv3 st w5 ds (if isB st3 (tk toks st3.i) (B s) then st3.pass else st3.fault 2 (tk toks st3.i).a) (mustT toks s x (st3.i, st3.vars)) := by
  unfold mustT
  dsimp only
  cases hb : isT (tk toks st3.i) s with
  | true =>
    rw [isB_eq f1 hb]
    exact ⟨f1, rfl, rfl, Nat.le_succ_of_le f4, f5, f6⟩
  | false =>
    rw [isB_eq f1 hb]
    refine ⟨?_, ?_, by decide⟩
    · simp [PS.fault, f1]
    · simp [PS.fault, f1]
theorem bdfin_err {w w5 : World} {bp : Nat} {toks : List Tok} {vv3 : Value} {st st3 : PS} {ds : List Value} {a : Nat} {s : List UInt8} (e1 : st3.err ≠ 0) (e2 : st3.at_ = a) :
    BdFin w bp vv3 st w5 ds (if isB st3 (tk toks st3.i) (B s) then st3.pass else st3.fault 2 (tk toks st3.i).a) (.error (st3.err, a)) := by
  rw [isB_f1 e1, if_neg (by simp)]
  have : st3.fault 2 (tk toks st3.i).a = st3 := by unfold PS.fault; rw [if_neg e1]
  rw [this]
  exact ⟨rfl, e2, e1⟩
theorem goal_cut {toks : List Tok} {lit body : St → R Bd} {ex : St → R Ex} (hg : GoodToks toks) {w : World} {bp : Nat} {lv vv : Value} {st : PS} (h : PIn w bp toks lv vv st) (he : st.err = 0) (hv : st.vars.length ≤ 12) (h1 : isT (tk toks st.i) [33] = true) :
    Calls Tryz.prog 172 #[.pointer (some ⟨bp, 0, none⟩)] w fun e w' => BPost bp toks lv vv st w (goalOf toks lit body ex (st.i, st.vars)) e w' := by
  rw [goalOf_cut (st := (st.i, st.vars)) h1]
  have hW0 := Way.start h
  have HB1 := hide (isB_eq he h1)
  clear h1
  go_enter Tryz.func172, Tryz.ntmps172
  go_wp2_with fail
  refine (is_any hW0.P hg (B [33])).mono ?_
  rintro e w1 ⟨b, rfl, rfl, hP1, hfr1⟩
  rw [HB1.out] at hP1 ⊢
  have hW1 : Way w bp toks lv vv st w1 vv st.pass := hW0.go hP1 hfr1
  obtain ⟨d0, d1, d2, d3, df⟩ := box4 hW1.res.at_
  have hE := Way.end_ (x0 := 33) (x1 := ByteArray.empty) (x2 := none) (x3 := 0) (x4 := 0) (x5 := none) (x6 := 0) (x7 := 0) (r := .ok (.mk 33 ByteArray.empty [] [], (st.i + 1, st.vars))) hW1 rfl ⟨he, rfl, rfl, Nat.le_succ _, hv, .mk _ _ _ _ _ _ (.inl ⟨rfl, rfl⟩) .none⟩
  go_wp2_with fail
  exact bodyPost_ret (v := .agg #[.int .u8 33, .string ByteArray.empty, .slice none 0 0, .slice none 0 0]) (by simp [results, Tryz.results172, go_sem, d0, d1, d2, d3]; rfl) rfl hE
theorem goal_not {toks : List Tok} {d : Int} {lit body : St → R Bd} {ex : St → R Ex} (hg : GoodToks toks) (hl : ReadsB 128 toks d lit) {w : World} {bp : Nat} {lv vv : Value} {st : PS} (h : PIn w bp toks lv vv st) (he : st.err = 0) (hv : st.vars.length ≤ 12) (hd : st.deep = d)
    (h1 : isT (tk toks st.i) [33] = false) (h2 : isT (tk toks st.i) [92, 43] = true) :
    Calls Tryz.prog 172 #[.pointer (some ⟨bp, 0, none⟩)] w fun e w' => BPost bp toks lv vv st w (goalOf toks lit body ex (st.i, st.vars)) e w' := by
  rw [goalOf_not (st := (st.i, st.vars)) h1 h2]
  have hW0 := Way.start h
  have HB1 := hide (isB_eq he h1)
  have HB2 := hide (isB_eq he h2)
  have HL := hide hl
  clear h1 h2 hl
  go_enter Tryz.func172, Tryz.ntmps172
  go_wp2_with fail
  refine (is_any hW0.P hg (B [33])).mono ?_
  rintro e w1 ⟨b, rfl, rfl, hP1, hfr1⟩
  rw [HB1.out] at hP1 ⊢
  have hW1 : Way w bp toks lv vv st w1 vv st := hW0.go hP1 hfr1
  go_wp2_with fail
  refine (is_any hW1.P hg (B [92, 43])).mono ?_
  rintro e w2 ⟨b, rfl, rfl, hP2, hfr2⟩
  rw [HB2.out] at hP2 ⊢
  have hW2 : Way w bp toks lv vv st w2 vv st.pass := hW1.go hP2 hfr2
  go_wp2_with fail
  refine (HL.out _ _ _ _ _ hW2.P he hv hd).mono ?_
  rintro e w3 ⟨cs, vv3, st3, rfl, ⟨z0, z1, z2, z3, z4, z5, z6, z7, rfl⟩, hP3, hfr3, hdp3, hok3⟩
  have hW3 := (hW2.go hP3 hfr3).alloc (.cells #[.int .u8 z0, .string z1, .slice z2 z3 z4, .slice z5 z6 z7] 47)
  have hfx := (Fr.refl bp vv3 w3).alloc (.cells #[.int .u8 z0, .string z1, .slice z2 z3 z4, .slice z5 z6 z7] 47)
  obtain ⟨d0, d1, d2, d3, df⟩ := box4 (hW2.go hP3 hfr3).res.at_
  have hl4 := (hW2.go hP3 hfr3).res.lt
  have hE := Way.endA (x0 := 126) (x1 := ByteArray.empty) (x2 := none) (x3 := 0) (x4 := 0) (x5 := some ⟨w3.heap.size + 1, 0, none⟩) (x6 := 1) (x7 := 1) (r := notOf (lit (st.i + 1, st.vars))) (o := .cells #[.int .u8 z0, .string z1, .slice z2 z3 z4, .slice z5 z6 z7] 47) hW3 hdp3 (by
    by_cases e3 : st3.err = 0
    · obtain ⟨c, hr3, hi3, hv3, hc3⟩ := hok3.ok e3
      have hr3' : lit (st.i + 1, st.vars) = .ok (c, (st3.i, st3.vars)) := hr3
      have hi3' : st.i + 1 ≤ st3.i := hi3
      rw [hr3']
      have := parts_fin (k := 126) (n := 1) (l := [c]) (cs := [.int .u8 z0, .string z1, .slice z2 z3 z4, .slice z5 z6 z7] ++ []) hW3 e3 (by omega) hv3 (.cons _ _ _ _ ((hc3.go hfx).aside hW2.res.lt) .nil) rfl (by omega)
      rw [show (w3.alloc (.cells #[.int .u8 z0, .string z1, .slice z2 z3 z4, .slice z5 z6 z7] 47)).heap.size = w3.heap.size + 1 by simp] at this
      exact this
    · obtain ⟨a3, hr3, hat⟩ := hok3.err e3
      have hr3' : lit (st.i + 1, st.vars) = .error (st3.err, a3) := hr3
      rw [hr3']
      exact ⟨rfl, hat, e3⟩)
  rw [set4_alloc _ _ _ _ _ _ _ hl4] at hE
  clear hok3
  go_wp2_with fail
  exact bodyPost_ret (v := .agg #[.int .u8 126, .string ByteArray.empty, .slice none 0 0, .slice (some ⟨w3.heap.size + 1, 0, none⟩) 1 1]) (by simp [results, Tryz.results172, go_sem, d0, d1, d2, d3, hl4]; rfl) rfl hE
theorem goal_par {toks : List Tok} {d : Int} {lit body : St → R Bd} {ex : St → R Ex} (hg : GoodToks toks) (hl : ReadsB 51 toks d body) {w : World} {bp : Nat} {lv vv : Value} {st : PS} (h : PIn w bp toks lv vv st) (he : st.err = 0) (hv : st.vars.length ≤ 12) (hd : st.deep = d)
    (h1 : isT (tk toks st.i) [33] = false) (h2 : isT (tk toks st.i) [92, 43] = false) (h3 : isT (tk toks st.i) [40] = true) :
    Calls Tryz.prog 172 #[.pointer (some ⟨bp, 0, none⟩)] w fun e w' => BPost bp toks lv vv st w (goalOf toks lit body ex (st.i, st.vars)) e w' := by
  rw [goalOf_par (st := (st.i, st.vars)) h1 h2 h3]
  have hW0 := Way.start h
  have HB1 := hide (isB_eq he h1)
  have HB2 := hide (isB_eq he h2)
  have HB3 := hide (isB_eq he h3)
  have HL := hide hl
  have hbpz := h.lt_size
  clear h1 h2 h3 hl
  go_enter Tryz.func172, Tryz.ntmps172
  go_wp2_with fail
  refine (is_any hW0.P hg (B [33])).mono ?_
  rintro e w1 ⟨b, rfl, rfl, hP1, hfr1⟩
  rw [HB1.out] at hP1 ⊢
  have hW1 : Way w bp toks lv vv st w1 vv st := hW0.go hP1 hfr1
  go_wp2_with fail
  refine (is_any hW1.P hg (B [92, 43])).mono ?_
  rintro e w2 ⟨b, rfl, rfl, hP2, hfr2⟩
  rw [HB2.out] at hP2 ⊢
  have hW2 : Way w bp toks lv vv st w2 vv st := hW1.go hP2 hfr2
  go_wp2_with fail
  refine (is_any hW2.P hg (B [40])).mono ?_
  rintro e w3 ⟨b, rfl, rfl, hP3, hfr3⟩
  rw [HB3.out] at hP3 ⊢
  have hW3 : Way w bp toks lv vv st w3 vv st.pass := hW2.go hP3 hfr3
  go_wp2_with fail
  refine (HL.out _ _ _ _ _ hW3.P he hv hd).mono ?_
  rintro e w4 ⟨cs, vv4, st4, rfl, ⟨z0, z1, z2, z3, z4, z5, z6, z7, rfl⟩, hP4, hfr4, hdp4, hok4⟩
  have hW4 := (hW3.go hP4 hfr4).alloc (.cells #[.int .u8 z0, .string z1, .slice z2 z3 z4, .slice z5 z6 z7] 47)
  have hs4 := (hW3.go hP4 hfr4).res.lt
  have hX4 := Box.mk' (w0 := w) hP4 (Nat.le_of_lt hs4) #[.int .u8 z0, .string z1, .slice z2 z3 z4, .slice z5 z6 z7] 47
  go_wp2_with fail
  refine (must_any hW4.P hg (B [41])).mono ?_
  rintro e w5 ⟨rfl, hP5, hfr5⟩
  have hW5 := hW4.go hP5 hfr5
  have hX5 := hX4.go hfr5 hbpz
  obtain ⟨d0, d1, d2, d3, df⟩ := box4 hW5.res.at_
  obtain ⟨c0, c1, c2, c3, cf⟩ := box4 hX5.at_
  have hl4 := hW5.res.lt
  have hl5 := hX5.lt
  have hE := Way.end_ (x0 := z0) (x1 := z1) (x2 := z2) (x3 := z3) (x4 := z4) (x5 := z5) (x6 := z6) (x7 := z7) (r := parOf toks (body (st.i + 1, st.vars))) hW5 ((must_deep _ _ _ _).trans hdp4) (by
    by_cases e4 : st4.err = 0
    · obtain ⟨c, hr4, hi4, hv4, hc4⟩ := hok4.ok e4
      have hr4' : body (st.i + 1, st.vars) = .ok (c, (st4.i, st4.vars)) := hr4
      have hi4' : st.i + 1 ≤ st4.i := hi4
      rw [hr4']
      exact bdfin_must e4 (by omega) hv4 ((hc4.go (((Fr.refl bp vv4 w4).alloc _).trans hfr5)).aside hW3.res.lt)
    · obtain ⟨a4, hr4, hat⟩ := hok4.err e4
      have hr4' : body (st.i + 1, st.vars) = .error (st4.err, a4) := hr4
      rw [hr4']
      exact bdfin_err e4 hat)
  clear hok4
  go_wp2_with fail
  exact bodyPost_ret (v := .agg #[.int .u8 z0, .string z1, .slice z2 z3 z4, .slice z5 z6 z7]) (by simp [results, Tryz.results172, go_sem, d0, d1, d2, d3]) rfl hE
end Go.Proofs.YtodpkdajbnceoaaGreatDoor
