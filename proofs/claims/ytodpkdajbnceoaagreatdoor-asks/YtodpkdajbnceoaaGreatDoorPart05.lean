import Derived.Test.YtodpkdajbnceoaaGreatDoorPart04
set_option linter.all false
set_option maxHeartbeats 1000000
set_option maxRecDepth 100000
namespace Go.Proofs.YtodpkdajbnceoaaGreatDoor
open Go.RowKit
structure BR (w : World) (bp : Nat) (toks : List Tok) (lv vv : Value) (st : PS) (br : Nat) (wr : World) (vv1 : Value) (st1 : PS) : Prop where
  res : wr.heap[br]? = some (.cells exZero 125 (0, 0))
  P : PIn wr bp toks lv vv1 st1
  fr : Fr bp vv vv1 w wr
  deep : st1.deep = st.deep
  newR : w.heap.size ≤ br
  vR : vv1.ownBlock ≠ some br
  bpold : bp < w.heap.size
  lvold : ∀ b, lv.ownBlock = some b → b < w.heap.size
section
variable {w : World} {bp : Nat} {toks : List Tok} {lv vv : Value} {st : PS} {br : Nat} {wr : World} {vv1 : Value} {st1 : PS}
theorem BR.bR (h : BR w bp toks lv vv st br wr vv1 st1) : br < wr.heap.size := (Array.getElem?_eq_some_iff.1 h.res).1
theorem BR.start (h : PIn w bp toks lv vv st) : BR w bp toks lv vv st w.heap.size (w.alloc (.cells exZero 125)) vv st := by
  obtain ⟨n1, n2, n3⟩ := h.new (b := w.heap.size) (Nat.le_refl _)
  exact ⟨heap_alloc_new _ _, h.alloc _, (Fr.refl _ _ _).alloc _, rfl, Nat.le_refl _, n3, h.lt_size, fun b e => h.blt b (.inr (.inl e))⟩
theorem BR.go {w' : World} {vv2 : Value} {st2 : PS} (h : BR w bp toks lv vv st br wr vv1 st1) (hP : PIn w' bp toks lv vv2 st2) (hf : Fr bp vv1 vv2 wr w') (hd : st2.deep = st1.deep) : BR w bp toks lv vv st br w' vv2 st2 := by
  have hR := h.bR
  have n1 : br ≠ bp := by have := h.bpold; have := h.newR; omega
  exact ⟨(hf.block br hR n1 h.vR).trans h.res, hP, h.fr.trans hf, hd.trans h.deep, h.newR, fun e => (hf.vnew _ e).elim h.vR (fun q => by omega), h.bpold, h.lvold⟩
def BFin (w : World) (bp : Nat) (vv1 : Value) (st : PS) (br : Nat) (wr : World) (cs : List Value) (st1 : PS) : R Ex → Prop
  | .ok (x, s') => st1.err = 0 ∧ st1.i = s'.1 ∧ st1.vars = s'.2 ∧ st.i ≤ s'.1 ∧ s'.2.length ≤ 12 ∧ ERep wr (fun b => w.heap.size ≤ b ∧ b ≠ bp ∧ vv1.ownBlock ≠ some b ∧ b ≠ br) x cs
  | .error (er, a) => st1.err = er ∧ st1.at_ = a ∧ er ≠ 0
theorem BR.end_ {x0 : Int} {x1 : ByteArray} {x2 x3 : Int} {x4 : Option Addr} {x5 x6 : Nat} {r : R Ex} (h : BR w bp toks lv vv st br wr vv1 st1) (hf : BFin w bp vv1 st br wr [.int .u8 x0, .string x1, .int .i64 x2, .int .i64 x3, .slice x4 x5 x6] st1 r) :
    EPost bp toks lv vv st w r (.returned (.agg #[.int .u8 x0, .string x1, .int .i64 x2, .int .i64 x3, .slice x4 x5 x6])) (set5 wr br (.int .u8 x0) (.string x1) (.int .i64 x2) (.int .i64 x3) (.slice x4 x5 x6)) := by
  have n1 : br ≠ bp := by have := h.bpold; have := h.newR; omega
  have n2 : lv.ownBlock ≠ some br := fun e => by have := h.lvold br e; have := h.newR; omega
  refine ⟨_, vv1, st1, rfl, ⟨_, _, _, _, _, _, _, rfl⟩, h.P.set5 n1 n2 h.vR _ _ _ _ _, h.fr.set5 h.newR _ _ _ _ _, h.deep, ?_⟩
  cases r with
  | error e => exact hf
  | ok p =>
    obtain ⟨f1, f2, f3, f4, f5, f6⟩ := hf
    refine ⟨f1, f2, f3, f4, f5, ERep.frame (fun b hb _ => ?_) f6⟩
    exact ⟨set5_other _ _ _ _ _ _ _ _ hb.2.2.2, hb.1, hb.2.1, hb.2.2.1⟩
theorem bfin_of {w3 w4 : World} {vv3 : Value} {st2 st3 : PS} {ds : List Value} {r : R Ex} (h : BR w bp toks lv vv st br w3 vv1 st2) (hi : st.i ≤ st2.i) (hok : ErOk r st2 w3 w4 bp vv3 st3 ds) : BFin w bp vv3 st br w4 ds st3 r := by
  cases r with
  | error e => exact hok
  | ok p =>
    obtain ⟨f1, f2, f3, f4, f5, f6⟩ := hok
    have := h.bR
    have := h.fr.size
    exact ⟨f1, f2, f3, by omega, f5, ERep.frame (fun b hb _ => ⟨rfl, by have := hb.1; omega, hb.2.1, hb.2.2, by have := hb.1; omega⟩) f6⟩
theorem bfin_must {w5 : World} {vv3 : Value} {st3 : PS} {ds : List Value} {x : Ex} {s' : St} {s : List UInt8} (f1 : st3.err = 0) (f2 : st3.i = s'.1) (f3 : st3.vars = s'.2) (f4 : st.i ≤ s'.1) (f5 : s'.2.length ≤ 12)
    (f6 : ERep w5 (fun b => w.heap.size ≤ b ∧ b ≠ bp ∧ vv3.ownBlock ≠ some b ∧ b ≠ br) x ds) :
    BFin w bp vv3 st br w5 ds (if isB st3 (tk toks st3.i) (B s) then st3.pass else st3.fault 2 (tk toks st3.i).a) (mustT toks s x s') := by
  have hbt : isB st3 (tk toks st3.i) (B s) = isT (tk toks s'.1) s := by rw [f2]; simp [isB, isT, f1]
  unfold mustT
  rw [hbt]
  cases hb : isT (tk toks s'.1) s with
  | true =>
    exact ⟨f1, by show st3.i + 1 = _; rw [f2], f3, Nat.le_succ_of_le f4, f5, f6⟩
  | false =>
    refine ⟨?_, ?_, by decide⟩
    · simp [PS.fault, f1]
    · simp [PS.fault, f1, f2]
theorem bfin_err {w5 : World} {vv3 : Value} {st3 : PS} {ds : List Value} {e : Int × Nat} {s : List UInt8} (e1 : st3.err = e.1) (e2 : st3.at_ = e.2) (e3 : e.1 ≠ 0) :
    BFin w bp vv3 st br w5 ds (if isB st3 (tk toks st3.i) (B s) then st3.pass else st3.fault 2 (tk toks st3.i).a) (.error e) := by
  have hb : isB st3 (tk toks st3.i) (B s) = false := isB_f1 (by rw [e1]; exact e3)
  rw [hb, if_neg (by simp)]
  have : st3.fault 2 (tk toks st3.i).a = st3 := by unfold PS.fault; rw [if_neg (by rw [e1]; exact e3)]
  rw [this]
  exact ⟨e1, e2, e3⟩
end
theorem EPost.alloc {bp : Nat} {toks : List Tok} {lv vv : Value} {st : PS} {w : World} {r : R Ex} {e : Ending} {w' : World} (h : EPost bp toks lv vv st w r e w') (o : Obj) : EPost bp toks lv vv st w r e (w'.alloc o) := by
  obtain ⟨cs, vv', st', h1, h2, h3, h4, h5, h6⟩ := h
  refine ⟨cs, vv', st', h1, h2, h3.alloc o, h4.alloc o, h5, ?_⟩
  cases r with
  | error e => exact h6
  | ok p => exact ⟨h6.1, h6.2.1, h6.2.2.1, h6.2.2.2.1, h6.2.2.2.2.1, h6.2.2.2.2.2.alloc o⟩
theorem variable_any' {w : World} {bp : Nat} {toks : List Tok} {lv vv : Value} {st : PS} (h : PIn w bp toks lv vv st) (he : st.err = 0) (hv : st.vars.length ≤ 12) (k : Int) (t : ByteArray) (a : Nat) :
    Calls Tryz.prog 234 #[.pointer (some ⟨bp, 0, none⟩), .agg #[.int .u8 k, .string t, .int .i64 a]] w fun e w' => EPost bp toks lv vv st w (varOf ⟨k, t, a⟩ (st.i, st.vars)) e w' :=
  variable_any h he hv ⟨k, t, a⟩
def argsEnd (toks : List Tok) (n : ByteArray) : R (List Ex) → R Ex
  | .error e => .error e
  | .ok (l, st') => mustT toks [41] (.cmp n l) st'
theorem name_road {w w1 : World} {bp : Nat} {toks : List Tok} {lv vv : Value} {st : PS} (h : BR w bp toks lv vv st w.heap.size w1 vv st) (hnx : st.i + 1 < toks.length) (n : ByteArray) (o : Obj) :
    Road w bp toks lv vv st w.heap.size (w1.heap.size + 1)
      (((w1.setCell ⟨bp, 1, none⟩ (.int .i64 ((st.i : Int) + 1))).alloc o).alloc (.cells #[.int .u8 97, .string n, .int .i64 0, .int .i64 0, .slice none 0 0] 125))
      [.int .u8 97, .string n, .int .i64 0, .int .i64 0, .slice none 0 0] vv st.pass := by
  have hB2 := h.go ((h.P.pass hnx).alloc o) (((Fr.refl _ _ _).setBp 1 (.int .i64 ((st.i : Int) + 1))).alloc o) rfl
  have hsz : ((w1.setCell ⟨bp, 1, none⟩ (.int .i64 ((st.i : Int) + 1))).alloc o).heap.size = w1.heap.size + 1 := by simp [World.setCell]
  have hr := h.bR
  have hs := h.fr.size
  have hn := (hB2.P.new (b := w1.heap.size + 1) (by omega)).2.2
  refine ⟨⟨_, _, _, _, _, _, _, rfl⟩, ?_, ?_, hB2.P.alloc _, hB2.fr.alloc _, rfl, Nat.le_refl _, by omega, by omega, h.vR, hn, h.bpold, h.lvold⟩
  · have := heap_alloc_new ((w1.setCell ⟨bp, 1, none⟩ (.int .i64 ((st.i : Int) + 1))).alloc o) (.cells #[.int .u8 97, .string n, .int .i64 0, .int .i64 0, .slice none 0 0] 125)
    rw [hsz] at this
    exact this
  · rw [Below.heap_alloc _ _ _ (by omega)]; exact hB2.res
theorem name_tok (w1 : World) (bp : Nat) (i : Int) (t : Tok) (o : Obj) :
    (((w1.setCell ⟨bp, 1, none⟩ (.int .i64 (i + 1))).alloc (.cells #[.int .u8 97, .string t.t, .int .i64 t.a] 133)).alloc o).cell? ⟨w1.heap.size, 2, none⟩ = some (.int .i64 t.a) := by
  have e : (w1.setCell ⟨bp, 1, none⟩ (.int .i64 (i + 1))).heap.size = w1.heap.size := by simp [World.setCell]
  have h : (((w1.setCell ⟨bp, 1, none⟩ (.int .i64 (i + 1))).alloc (.cells #[.int .u8 97, .string t.t, .int .i64 t.a] 133)).alloc o).heap[w1.heap.size]? = some (.cells #[.int .u8 97, .string t.t, .int .i64 t.a] 133 (0, 0)) := by
    rw [Below.heap_alloc _ _ _ (by simp [World.setCell]), ← e]; exact heap_alloc_new _ _
  rw [cell_of_block h]; rfl
theorem Road.set {w : World} {bp : Nat} {toks : List Tok} {lv vv : Value} {st : PS} {br bx : Nat} {wr : World} {cs : List Value} {vv1 : Value} {st1 : PS} (h : Road w bp toks lv vv st br bx wr cs vv1 st1)
    (j : Nat) (u : Value) (cs' : List Value) (hc : cs.toArray.setIfInBounds j u = cs'.toArray) (hs : Shape5 cs') : Road w bp toks lv vv st br bx (wr.setCell ⟨bx, j, none⟩ u) cs' vv1 st1 := by
  have n2 : bx ≠ bp := by have := h.bpold; have := h.newX; omega
  have n3 : lv.ownBlock ≠ some bx := fun e => by have := h.lvold bx e; have := h.newX; omega
  exact ⟨hs, by rw [heap_setCell_same h.box, hc], (Below.heap_setCell _ _ _ _ h.ne).trans h.res, h.P.setOther n2 n3 h.vX, h.fr.setNew h.newX _, h.deep, h.newR, h.newX, h.ne, h.vR, h.vX, h.bpold, h.lvold⟩
theorem must_deep (st : PS) (c : Bool) (a : Int) (b : Int) : (if c then st.pass else st.fault b a).deep = st.deep := by
  cases c
  · exact PS.fault_deep _ _ _
  · rfl
theorem name_end {w : World} {bp : Nat} {toks : List Tok} {lv vv : Value} {st st2 st3 : PS} {br bx : Nat} {W w3 w4 : World} {cs : List Value} {vv2 vv3 : Value} {n : ByteArray} {ao : Option Addr} {m cap : Nat} {r : R (List Ex)} {u : Value}
    (hR : Road w bp toks lv vv st br bx W cs vv2 st2) (hi : st.i ≤ st2.i) (_hs3 : W.heap.size ≤ w3.heap.size) (hok : ArOk r st2 W w3 bp vv3 st3 (.slice ao m cap)) (hfr : Fr bp vv3 vv3 (w3.setCell ⟨bx, 4, none⟩ u) w4) :
    Fin w bp vv3 st br bx w4 [.int .u8 99, .string n, .int .i64 0, .int .i64 0, .slice ao m cap] (if isB st3 (tk toks st3.i) (B [41]) then st3.pass else st3.fault 2 (tk toks st3.i).a) (argsEnd toks n r) := by
  cases r with
  | error e =>
    obtain ⟨e1, e2, e3⟩ := hok
    have hb : isB st3 (tk toks st3.i) (B [41]) = false := isB_f1 (by rw [e1]; exact e3)
    have : (if isB st3 (tk toks st3.i) (B [41]) then st3.pass else st3.fault 2 (tk toks st3.i).a) = st3 := by
      rw [hb, if_neg (by simp)]; unfold PS.fault; rw [if_neg (by rw [e1]; exact e3)]
    rw [this]
    exact ⟨e1, e2, e3⟩
  | ok p =>
    obtain ⟨f1, f2, f3, f4, f5, g, cap', cur, es, hv, hg, hh, h1, h2, h3, h4, h5⟩ := hok
    cases hv
    have hbr := hR.bR
    have hbx := hR.bX
    have hsz := hR.fr.size
    have hkeep : ∀ b, W.heap.size ≤ b → b < w3.heap.size → b ≠ bp → vv3.ownBlock ≠ some b → w4.heap[b]? = w3.heap[b]? := fun b q1 q2 q3 q4 => by
      rw [hfr.block b (by simpa [World.setCell] using q2) q3 q4, Below.heap_setCell _ _ _ _ (by show b ≠ bx; omega)]
    have hbt : isB st3 (tk toks st3.i) (B [41]) = isT (tk toks p.2.1) [41] := by rw [f2]; simp [isB, isT, f1]
    have hE : ERep w4 (okB w bp vv3 br bx) (.cmp n p.1) [.int .u8 99, .string n, .int .i64 0, .int .i64 0, .slice (some ⟨g, 0, none⟩) p.1.length cap] := by
      refine ERep.cmp n p.1 g cap cur es ⟨by have := hg.1; omega, hg.2.1, hg.2.2, by have := hg.1; omega, by have := hg.1; omega⟩ ?_ h1 h2 h3 h4 (ERepL.frame (fun b hb hlt => ?_) h5)
      · rw [hkeep g hg.1 (Array.getElem?_eq_some_iff.1 hh).1 hg.2.1 hg.2.2]; exact hh
      · exact ⟨hkeep b hb.1 hlt hb.2.1 hb.2.2, by have := hb.1; omega, hb.2.1, hb.2.2, by have := hb.1; omega, by have := hb.1; omega⟩
    unfold argsEnd mustT
    dsimp only
    rw [hbt]
    cases hb : isT (tk toks p.2.1) [41] with
    | true => exact ⟨f1, by show st3.i + 1 = _; rw [f2], f3, by show st.i ≤ p.2.1 + 1; omega, f5, hE⟩
    | false =>
      refine ⟨?_, ?_, by decide⟩
      · simp [PS.fault, f1]
      · simp [PS.fault, f1, f2]
theorem bare_n {toks : List Tok} {ex : St → R Ex} (hg : GoodToks toks) {w : World} {bp : Nat} {lv vv : Value} {st : PS} (h : PIn w bp toks lv vv st) (he : st.err = 0) (hv : st.vars.length ≤ 12) (hk : (tk toks st.i).k = 110) :
    Calls Tryz.prog 188 #[.pointer (some ⟨bp, 0, none⟩)] w fun e w' => EPost bp toks lv vv st w (bareOf toks ex (st.i, st.vars)) e w' := by
  have hB := BR.start h
  have HN := hide (next_any hB.P hg)
  obtain ⟨t, ht⟩ : ∃ t, t = tk toks st.i := ⟨_, rfl⟩
  have HT : Hid (bareOf toks ex (st.i, st.vars) = .ok (.num (digVal t.t.data.toList), (st.i + 1, st.vars))) := by
    unfold Hid bareOf; dsimp only; rw [if_pos hk, ← ht]
  have hnum := hg.num st.i hk
  have hnx := hg.next h.lt (by rw [hk]; decide)
  have hsm := hg.small
  have hbpz := h.lt_size
  rw [← ht] at HN hk hnum
  obtain ⟨hs9, hdig⟩ := hnum
  have HD := hide hdig
  clear ht hdig
  rw [HT.out]
  go_enter Tryz.func188, Tryz.ntmps188
  go_wp2_with (first | (go_at_call 67; refine HN.out.mono ?_; rintro e w1 ⟨rfl, hb1⟩; unfold tokV; have h1 := hB.P.below hb1; have p1 := h1.c1; have pf := h1.fz 1; have hz1 := h1.lt_size; have hB1 := hB.go h1 (Fr.of_below hb1) rfl; have hbr1 := hB1.bR; obtain ⟨d0, d1, d2, d3, d4, df⟩ := box5 hB1.res) | (go_at_call 233; refine (value_any _ _ hs9 HD.out).mono ?_; rintro e w2 ⟨rfl, rfl⟩))
  have hE := EPost.alloc (BR.end_ (x0 := 110) (x1 := ByteArray.empty) (x2 := digVal t.t.data.toList) (x3 := 0) (x4 := none) (x5 := 0) (x6 := 0) (r := .ok (.num (digVal t.t.data.toList), (st.i + 1, st.vars))) (hB1.go (h1.pass hnx) ((Fr.refl _ _ _).setBp _ _) rfl) ⟨he, rfl, rfl, Nat.le_succ _, hv, .num _⟩) (.cells #[.int .u8 110, .string t.t, .int .i64 t.a] 133)
  exact bodyPost_ret (v := .agg #[.int .u8 110, .string ByteArray.empty, .int .i64 (digVal t.t.data.toList), .int .i64 0, .slice none 0 0]) (by simp [results, Tryz.results188, go_sem, d0, d1, d2, d3, d4, hbr1]; rfl) rfl hE
theorem bare_v {toks : List Tok} {ex : St → R Ex} (hg : GoodToks toks) {w : World} {bp : Nat} {lv vv : Value} {st : PS} (h : PIn w bp toks lv vv st) (he : st.err = 0) (hv : st.vars.length ≤ 12) (hk : (tk toks st.i).k = 118) :
    Calls Tryz.prog 188 #[.pointer (some ⟨bp, 0, none⟩)] w fun e w' => EPost bp toks lv vv st w (bareOf toks ex (st.i, st.vars)) e w' := by
  have hB := BR.start h
  have HN := hide (next_any hB.P hg)
  obtain ⟨t, ht⟩ : ∃ t, t = tk toks st.i := ⟨_, rfl⟩
  have HT : Hid (bareOf toks ex (st.i, st.vars) = varOf t (st.i + 1, st.vars)) := by
    unfold Hid bareOf; dsimp only; rw [if_neg (by rw [hk]; decide), if_pos hk, ← ht]
  have hnx := hg.next h.lt (by rw [hk]; decide)
  have hsm := hg.small
  have hbpz := h.lt_size
  rw [← ht] at HN hk
  clear ht
  rw [HT.out]
  have hk' : Hid (t.k = 118) := hk
  go_enter Tryz.func188, Tryz.ntmps188
  go_wp2_with (first | (go_at_call 67; refine HN.out.mono ?_; rintro e w1 ⟨rfl, hb1⟩; unfold tokV; have h1 := hB.P.below hb1; have p1 := h1.c1; have pf := h1.fz 1; have hz1 := h1.lt_size; have hB1 := hB.go h1 (Fr.of_below hb1) rfl; have hbr1 := hB1.bR) | (go_at_call 234; refine (variable_any' ((h1.pass hnx).alloc _) he hv _ _ _).mono ?_; rintro e w2 ⟨cs, vv2, st2, rfl, ⟨z0, z1, z2, z3, z4, z5, z6, rfl⟩, hP2, hfr2, hdp2, hok2⟩; have hB2 := hB1.go ((h1.pass hnx).alloc (.cells #[.int .u8 118, .string t.t, .int .i64 t.a] 133)) (((Fr.refl _ _ _).setBp _ _).alloc _) rfl; have hB3 := hB2.go hP2 hfr2 hdp2; obtain ⟨d0, d1, d2, d3, d4, df⟩ := box5 hB3.res))
  have hE := BR.end_ (r := varOf t (st.i + 1, st.vars)) hB3 (bfin_of hB2 (Nat.le_succ _) hok2)
  exact bodyPost_ret (v := .agg #[.int .u8 z0, .string z1, .int .i64 z2, .int .i64 z3, .slice z4 z5 z6]) (by simp [results, Tryz.results188, go_sem, d0, d1, d2, d3, d4]) rfl hE
theorem bare_a {toks : List Tok} {ex : St → R Ex} {d : Int} (hg : GoodToks toks) (hp : Reads 64 toks d ex) {w : World} {bp : Nat} {lv vv : Value} {st : PS} (h : PIn w bp toks lv vv st) (he : st.err = 0) (hv : st.vars.length ≤ 12) (hd : st.deep = d) (hk : (tk toks st.i).k = 97) :
    Calls Tryz.prog 188 #[.pointer (some ⟨bp, 0, none⟩)] w fun e w' => EPost bp toks lv vv st w (bareOf toks ex (st.i, st.vars)) e w' := by
  have hB := BR.start h
  have HN := hide (next_any hB.P hg)
  obtain ⟨t, ht⟩ : ∃ t, t = tk toks st.i := ⟨_, rfl⟩
  have HT : Hid (bareOf toks ex (st.i, st.vars) = if isT (tk toks (st.i + 1)) [40] then argsEnd toks t.t (argsOf toks ex t.a (st.i + 2, st.vars)) else .ok (.atom t.t, (st.i + 1, st.vars))) := by
    unfold Hid bareOf; dsimp only; rw [if_neg (by rw [hk]; decide), if_neg (by rw [hk]; decide), if_pos hk, ← ht]
    cases argsOf toks ex t.a (st.i + 2, st.vars) <;> rfl
  have hnx := hg.next h.lt (by rw [hk]; decide)
  have hsm := hg.small
  have hbpz := h.lt_size
  rw [← ht] at HN hk
  clear ht
  have HP := hide hp
  clear hp
  cases hb : isT (tk toks (st.i + 1)) [40] with
  | false =>
    have HT2 : Hid (bareOf toks ex (st.i, st.vars) = .ok (.atom t.t, (st.i + 1, st.vars))) := by unfold Hid; rw [HT.out, if_neg (by simp [hb])]
    rw [HT2.out]
    have hbb : isB st.pass (tk toks st.pass.i) (B [40]) = false := by rw [isB_T (st := st.pass) he]; exact hb
    have HB := hide hbb
    clear hb hbb
    go_enter Tryz.func188, Tryz.ntmps188
    go_wp2_with (first | (go_at_call 67; refine HN.out.mono ?_; rintro e w1 ⟨rfl, hb1⟩; unfold tokV; have h1 := hB.P.below hb1; have p1 := h1.c1; have pf := h1.fz 1; have hz1 := h1.lt_size; have hB1 := hB.go h1 (Fr.of_below hb1) rfl; have hbr1 := hB1.bR; have hR2 := name_road hB1 hnx t.t (.cells #[.int .u8 97, .string t.t, .int .i64 t.a] 133)) | (go_at_call 81; refine (is_any hR2.P hg (B [40])).mono ?_; rintro e w2 ⟨b, rfl, rfl, hP2, hfr2⟩; rw [HB.out] at hP2 ⊢; have hR3 := hR2.go hP2 hfr2 rfl; obtain ⟨c0, c1, c2, c3, c4, cf⟩ := box5 hR3.box; obtain ⟨d0, d1, d2, d3, d4, df⟩ := box5 hR3.res))
    have hE := road_end (r := .ok (.atom t.t, (st.i + 1, st.vars))) hR3 ⟨he, rfl, rfl, Nat.le_succ _, hv, .atom _⟩
    exact bodyPost_ret (v := .agg #[.int .u8 97, .string t.t, .int .i64 0, .int .i64 0, .slice none 0 0]) (by simp [results, Tryz.results188, go_sem, d0, d1, d2, d3, d4]) rfl hE
  | true =>
    have HT2 : Hid (bareOf toks ex (st.i, st.vars) = argsEnd toks t.t (argsOf toks ex t.a (st.i + 2, st.vars))) := by unfold Hid; rw [HT.out, if_pos hb]
    rw [HT2.out]
    have hbb : isB st.pass (tk toks st.pass.i) (B [40]) = true := by rw [isB_T (st := st.pass) he]; exact hb
    have HB := hide hbb
    clear hb hbb
    have HA := hide (args_any hg HP.out)
    go_enter Tryz.func188, Tryz.ntmps188
    go_wp2_with (first | (go_at_call 67; refine HN.out.mono ?_; rintro e w1 ⟨rfl, hb1⟩; unfold tokV; have h1 := hB.P.below hb1; have p1 := h1.c1; have pf := h1.fz 1; have hz1 := h1.lt_size; have hB1 := hB.go h1 (Fr.of_below hb1) rfl; have hbr1 := hB1.bR; have hR2 := name_road hB1 hnx t.t (.cells #[.int .u8 97, .string t.t, .int .i64 t.a] 133); have HTK := hide (name_tok w1 bp (st.i : Int) t (.cells #[.int .u8 97, .string t.t, .int .i64 0, .int .i64 0, .slice none 0 0] 125)); obtain ⟨nt1, nt2, nt3⟩ := h1.new (b := w1.heap.size) (Nat.le_refl _)) | (go_at_call 81; refine (is_any hR2.P hg (B [40])).mono ?_; rintro e w2 ⟨b, rfl, rfl, hP2, hfr2⟩; rw [HB.out] at hP2 ⊢; have hR3 := hR2.go hP2 hfr2 rfl; obtain ⟨c0, c1, c2, c3, c4, cf⟩ := box5 hR3.box; have ct := hfr2.cell HTK.out nt1 nt3; have ht2 : w1.heap.size < w2.heap.size := World.block_lt_of_cell? w2 _ ct; have hR4 := hR3.set 0 (.int .u8 99) [.int .u8 99, .string t.t, .int .i64 0, .int .i64 0, .slice none 0 0] rfl ⟨_, _, _, _, _, _, _, rfl⟩) | (go_at_call 102; refine (HA.out _ _ _ _ _ _ hR4.P he hv hd).mono ?_; rintro e w3 ⟨ao, n, cap, vv3, st3, rfl, hP3, hfr3, hdp3, hok3⟩; have hR5 := hR4.go hP3 hfr3 hdp3; obtain ⟨k0, k1, k2, k3, k4, kf⟩ := box5 hR5.box; have hR6 := hR5.set 4 (.slice ao n cap) [.int .u8 99, .string t.t, .int .i64 0, .int .i64 0, .slice ao n cap] rfl ⟨_, _, _, _, _, _, _, rfl⟩; have hbx6 := hR6.bX) | (go_at_call 52; refine (must_any hR6.P hg (B [41])).mono ?_; rintro e w4 ⟨rfl, hP4, hfr4⟩; have hR7 := hR6.go hP4 hfr4 (must_deep _ _ _ _); obtain ⟨l0, l1, l2, l3, l4, lf⟩ := box5 hR7.box; obtain ⟨d0, d1, d2, d3, d4, df⟩ := box5 hR7.res))
    have hE := road_end hR7 (name_end hR4 (show st.i ≤ st.i + 1 + 1 by omega) hfr3.size hok3 hfr4)
    exact bodyPost_ret (v := .agg #[.int .u8 99, .string t.t, .int .i64 0, .int .i64 0, .slice ao n cap]) (by simp [results, Tryz.results188, go_sem, d0, d1, d2, d3, d4]) rfl hE
def parEnd (toks : List Tok) : R Ex → R Ex
  | .error e => .error e
  | .ok (x, st') => mustT toks [41] x st'
theorem tok_kept {w1 w2 : World} {bp : Nat} {toks : List Tok} {lv vv vv2 : Value} {st : PS} {cs : Array Value} {T : TypeId} (h : PIn w1 bp toks lv vv st) (hf : Fr bp vv vv2 (w1.alloc (.cells cs T)) w2) : w2.heap[w1.heap.size]? = some (.cells cs T (0, 0)) := by
  obtain ⟨n1, n2, n3⟩ := h.new (b := w1.heap.size) (Nat.le_refl _)
  rw [hf.block _ (by simp) n1 n3]; exact heap_alloc_new _ _
theorem box3 {w : World} {b : Nat} {x0 x1 x2 : Value} {T : TypeId} (h : w.heap[b]? = some (.cells #[x0, x1, x2] T (0, 0))) :
    w.cell? ⟨b, 0, none⟩ = some x0 ∧ w.cell? ⟨b, 1, none⟩ = some x1 ∧ w.cell? ⟨b, 2, none⟩ = some x2 ∧ ∀ j, w.frozen? ⟨b, j, none⟩ = false :=
  ⟨by rw [cell_of_block h]; rfl, by rw [cell_of_block h]; rfl, by rw [cell_of_block h]; rfl, fun j => by simp [World.frozen?, h]⟩
theorem BR.set {w : World} {bp : Nat} {toks : List Tok} {lv vv : Value} {st : PS} {br : Nat} {wr : World} {vv1 : Value} {st1 : PS} (h : BR w bp toks lv vv st br wr vv1 st1) {p : Addr} (hp : w.heap.size ≤ p.block) (h1 : p.block ≠ br) (h2 : vv1.ownBlock ≠ some p.block) (u : Value) :
    BR w bp toks lv vv st br (wr.setCell p u) vv1 st1 :=
  ⟨(Below.heap_setCell _ _ _ _ (fun e => h1 e.symm)).trans h.res, h.P.setOther (by have := h.bpold; omega) (fun e => by have := h.lvold _ e; omega) h2, h.fr.setNew hp u, h.deep, h.newR, h.vR, h.bpold, h.lvold⟩
theorem neg_set {w w1 w3 : World} {bp : Nat} {toks : List Tok} {lv vv : Value} {st st1 st2 : PS} (h : BR w bp toks lv vv st w.heap.size w3 vv st1) (h1 : PIn w1 bp toks lv vv st2) (hb : w.heap.size < w1.heap.size) (t : Tok) :
    BR w bp toks lv vv st w.heap.size (((w3.setCell ⟨w1.heap.size, 0, none⟩ (.int .u8 t.k)).setCell ⟨w1.heap.size, 1, none⟩ (.string t.t)).setCell ⟨w1.heap.size, 2, none⟩ (.int .i64 t.a)) vv st1 := by
  have nv := (h1.new (b := w1.heap.size) (Nat.le_refl _)).2.2
  have hws : w.heap.size ≤ w1.heap.size := by omega
  have hne : w1.heap.size ≠ w.heap.size := by omega
  exact ((h.set (p := ⟨w1.heap.size, 0, none⟩) hws hne nv (.int .u8 t.k)).set (p := ⟨w1.heap.size, 1, none⟩) hws hne nv (.string t.t)).set (p := ⟨w1.heap.size, 2, none⟩) hws hne nv (.int .i64 t.a)
theorem par_end {w : World} {bp : Nat} {toks : List Tok} {lv vv vv2 vv3 : Value} {st st2 st3 : PS} {br : Nat} {W w3 w4 : World} {ds : List Value} {r : R Ex}
    (hR : BR w bp toks lv vv st br W vv2 st2) (hi : st.i ≤ st2.i) (hok : ErOk r st2 W w3 bp vv3 st3 ds) (hfr : Fr bp vv3 vv3 w3 w4) :
    BFin w bp vv3 st br w4 ds (if isB st3 (tk toks st3.i) (B [41]) then st3.pass else st3.fault 2 (tk toks st3.i).a) (parEnd toks r) := by
  cases r with
  | error e =>
    obtain ⟨e1, e2, e3⟩ := hok
    exact bfin_err e1 e2 e3
  | ok p =>
    obtain ⟨f1, f2, f3, f4, f5, f6⟩ := hok
    have hbr := hR.bR
    have hsz := hR.fr.size
    refine bfin_must f1 f2 f3 (by omega) f5 (ERep.frame (fun b hb hlt => ?_) f6)
    exact ⟨hfr.block b hlt hb.2.1 hb.2.2, by have := hb.1; omega, hb.2.1, hb.2.2, by have := hb.1; omega⟩
theorem bare_s {toks : List Tok} {ex : St → R Ex} {d : Int} (hg : GoodToks toks) (hp : Reads 64 toks d ex) {w : World} {bp : Nat} {lv vv : Value} {st : PS} (h : PIn w bp toks lv vv st) (he : st.err = 0) (hv : st.vars.length ≤ 12) (hd : st.deep = d)
    (hk1 : (tk toks st.i).k ≠ 110) (hk2 : (tk toks st.i).k ≠ 118) (hk3 : (tk toks st.i).k ≠ 97) :
    Calls Tryz.prog 188 #[.pointer (some ⟨bp, 0, none⟩)] w fun e w' => EPost bp toks lv vv st w (bareOf toks ex (st.i, st.vars)) e w' := by
  have hB := BR.start h
  have HN := hide (next_any hB.P hg)
  obtain ⟨t, ht⟩ : ∃ t, t = tk toks st.i := ⟨_, rfl⟩
  have HT : Hid (bareOf toks ex (st.i, st.vars) = if isT t [45] then (if (tk toks (st.i + 1)).k = 110 then .ok (.num (-(digVal (tk toks (st.i + 1)).t.data.toList)), (st.i + 2, st.vars)) else .error (2, (tk toks (st.i + 1)).a))
      else if isT t [40] then parEnd toks (ex (st.i + 1, st.vars)) else if isT t [91] then listOf toks ex (st.i + 1, st.vars) else .error (2, t.a)) := by
    unfold Hid bareOf; dsimp only; rw [if_neg hk1, if_neg hk2, if_neg hk3, ← ht]
    cases ex (st.i + 1, st.vars) <;> rfl
  have hsm := hg.small
  have hlt := h.lt
  have hbpz := h.lt_size
  rw [← ht] at HN hk1 hk2 hk3
  have q1 : (t.k == 110) = false := by simpa using hk1
  have q2 : (t.k == 118) = false := by simpa using hk2
  have q3 : (t.k == 97) = false := by simpa using hk3
  have HTK := hide ht
  clear ht hk1 hk2 hk3
  have HP := hide hp
  clear hp
  have hm : isB st (tk toks st.i) (B [45]) = isT t [45] := by rw [isB_T he, ← HTK.out]
  have ho : isB st (tk toks st.i) (B [40]) = isT t [40] := by rw [isB_T he, ← HTK.out]
  have hl : isB st (tk toks st.i) (B [91]) = isT t [91] := by rw [isB_T he, ← HTK.out]
  cases h45 : isT t [45] with
  | true =>
    rw [h45] at hm
    have HM := hide hm
    have hnx : st.i + 1 < toks.length := hg.next hlt (by rw [← HTK.out]; exact isT_not_end h45)
    obtain ⟨t2, ht2⟩ : ∃ t, t = tk toks (st.i + 1) := ⟨_, rfl⟩
    by_cases hk : t2.k = 110
    · have HT2 : Hid (bareOf toks ex (st.i, st.vars) = .ok (.num (-(digVal t2.t.data.toList)), (st.i + 2, st.vars))) := by unfold Hid; rw [HT.out, if_pos h45, ← ht2, if_pos hk]
      rw [HT2.out]
      have hnum := hg.num (st.i + 1) (by rw [← ht2]; exact hk)
      have hnx2 : st.i + 1 + 1 < toks.length := hg.next hnx (by rw [← ht2, hk]; decide)
      rw [← ht2] at hnum
      obtain ⟨hs9, hdig⟩ := hnum
      have hb0 := digVal_bound t2.t.data.toList hdig
      have hpw := pow_le9 t2.t.data.toList.length (by simpa using hs9)
      have hv0 : 0 ≤ digVal t2.t.data.toList := hb0.1
      have hv9 : digVal t2.t.data.toList < 1000000000 := by omega
      have HD := hide hdig
      have HT2K := hide ht2
      clear ht2 hdig hb0 hpw hm ho hl h45
      go_enter Tryz.func188, Tryz.ntmps188
      go_wp2_with (first | (go_at_call 67; refine HN.out.mono ?_; rintro e w1 ⟨rfl, hb1⟩; unfold tokV; have h1 := hB.P.below hb1; have hz1 := h1.lt_size; have hB1 := hB.go h1 (Fr.of_below hb1) rfl; have hbr1 := hB1.bR; have hB2 := hB1.go (h1.alloc (.cells #[.int .u8 t.k, .string t.t, .int .i64 t.a] 133)) ((Fr.refl _ _ _).alloc _) rfl) | (go_at_call 81; refine (is_any hB2.P hg (B [45])).mono ?_; rintro e w2 ⟨b, rfl, rfl, hP2, hfr2⟩; rw [HM.out] at hP2 ⊢; have hB3 : BR w bp toks lv vv st w.heap.size w2 vv st.pass := hB2.go hP2 hfr2 rfl; have hT2 := tok_kept h1 hfr2) | (go_at_call 67; refine (next_any hB3.P hg).mono ?_; rintro e w3 ⟨rfl, hb3⟩; unfold tokV; rw [show tk toks st.pass.i = t2 from HT2K.out.symm]; have h3 := hB3.P.below hb3; have hB4 := hB3.go h3 (Fr.of_below hb3) rfl; have hT3 := (hb3.block _ (Array.getElem?_eq_some_iff.1 hT2).1).trans hT2; obtain ⟨c0, c1, c2, cf⟩ := box3 hT3; have p1 : w3.cell? ⟨bp, 1, none⟩ = some (.int .i64 ((st.i : Int) + 1)) := h3.c1; have pf := h3.fz 1; have hbr3 := hB4.bR; obtain ⟨d0, d1, d2, d3, d4, df⟩ := box5 hB4.res; have ht3 : w1.heap.size < w3.heap.size := World.block_lt_of_cell? w3 _ c0) | (go_at_call 233; refine (value_any _ _ hs9 HD.out).mono ?_; rintro e w4 ⟨rfl, rfl⟩))
      have nv := (h1.new (b := w1.heap.size) (Nat.le_refl _)).2.2
      have hws : w.heap.size ≤ w1.heap.size := by omega
      have hne : w1.heap.size ≠ w.heap.size := by omega
      have hB5 := ((hB4.set (p := ⟨w1.heap.size, 0, none⟩) hws hne nv (.int .u8 110)).set (p := ⟨w1.heap.size, 1, none⟩) hws hne nv (.string t2.t)).set (p := ⟨w1.heap.size, 2, none⟩) hws hne nv (.int .i64 t2.a)
      have hE := BR.end_ (x0 := 110) (x1 := ByteArray.empty) (x2 := -digVal t2.t.data.toList) (x3 := 0) (x4 := none) (x5 := 0) (x6 := 0) (r := .ok (.num (-digVal t2.t.data.toList), (st.i + 2, st.vars))) (hB5.go (hB5.P.pass hnx2) ((Fr.refl _ _ _).setBp _ _) rfl) ⟨he, rfl, rfl, by show st.i ≤ st.i + 2; omega, hv, .num _⟩
      exact bodyPost_ret (v := .agg #[.int .u8 110, .string ByteArray.empty, .int .i64 (-digVal t2.t.data.toList), .int .i64 0, .slice none 0 0]) (by simp [results, Tryz.results188, go_sem, d0, d1, d2, d3, d4]; rfl) rfl hE
    · have HT2 : Hid (bareOf toks ex (st.i, st.vars) = .error (2, t2.a)) := by unfold Hid; rw [HT.out, if_pos h45, ← ht2, if_neg hk]
      rw [HT2.out]
      have hk' : (t2.k == 110) = false := by simpa using hk
      have HT2K := hide ht2
      clear ht2 hm ho hl h45 hk
      go_enter Tryz.func188, Tryz.ntmps188
      go_wp2_with (first | (go_at_call 67; refine HN.out.mono ?_; rintro e w1 ⟨rfl, hb1⟩; unfold tokV; have h1 := hB.P.below hb1; have hz1 := h1.lt_size; have hB1 := hB.go h1 (Fr.of_below hb1) rfl; have hbr1 := hB1.bR; have hB2 := hB1.go (h1.alloc (.cells #[.int .u8 t.k, .string t.t, .int .i64 t.a] 133)) ((Fr.refl _ _ _).alloc _) rfl) | (go_at_call 81; refine (is_any hB2.P hg (B [45])).mono ?_; rintro e w2 ⟨b, rfl, rfl, hP2, hfr2⟩; rw [HM.out] at hP2 ⊢; have hB3 : BR w bp toks lv vv st w.heap.size w2 vv st.pass := hB2.go hP2 hfr2 rfl; have hT2 := tok_kept h1 hfr2) | (go_at_call 67; refine (next_any hB3.P hg).mono ?_; rintro e w3 ⟨rfl, hb3⟩; unfold tokV; rw [show tk toks st.pass.i = t2 from HT2K.out.symm]; have h3 := hB3.P.below hb3; have hB4 := hB3.go h3 (Fr.of_below hb3) rfl; have hT3 := (hb3.block _ (Array.getElem?_eq_some_iff.1 hT2).1).trans hT2; obtain ⟨c0, c1, c2, cf⟩ := box3 hT3; have hB5 := neg_set hB4 h1 hbr1 t2) | (go_at_call 83; refine (none_any hB5.P hg).mono ?_; rintro e w4 ⟨rfl, hP4, hfr4⟩; have hB6 := hB5.go hP4 hfr4 (PS.fault_deep _ _ _); obtain ⟨d0, d1, d2, d3, d4, df⟩ := box5 hB6.res))
      have hE := BR.end_ (x0 := 0) (x1 := ByteArray.empty) (x2 := 0) (x3 := 0) (x4 := none) (x5 := 0) (x6 := 0) (r := .error (2, t2.a)) hB6 (by rw [show tk toks st.pass.i = t2 from HT2K.out.symm]; exact ⟨by simp [PS.fault, PS.pass, he], by simp [PS.fault, PS.pass, he], by decide⟩)
      exact bodyPost_ret (v := .agg #[.int .u8 0, .string ByteArray.empty, .int .i64 0, .int .i64 0, .slice none 0 0]) (by simp [results, Tryz.results188, go_sem, d0, d1, d2, d3, d4]; rfl) rfl hE
  | false =>
    rw [h45] at hm
    have HM := hide hm
    cases h40 : isT t [40] with
    | true =>
      rw [h40] at ho
      have HO := hide ho
      have HT2 : Hid (bareOf toks ex (st.i, st.vars) = parEnd toks (ex (st.i + 1, st.vars))) := by unfold Hid; rw [HT.out, if_neg (by simp [h45]), if_pos h40]
      rw [HT2.out]
      clear hm ho hl h45 h40
      go_enter Tryz.func188, Tryz.ntmps188
      go_wp2_with (first | (go_at_call 67; refine HN.out.mono ?_; rintro e w1 ⟨rfl, hb1⟩; unfold tokV; have h1 := hB.P.below hb1; have hz1 := h1.lt_size; have hB1 := hB.go h1 (Fr.of_below hb1) rfl; have hbr1 := hB1.bR; have hB2 := hB1.go (h1.alloc (.cells #[.int .u8 t.k, .string t.t, .int .i64 t.a] 133)) ((Fr.refl _ _ _).alloc _) rfl))
      refine (is_any hB2.P hg (B [45])).mono ?_
      rintro e w2 ⟨b, rfl, rfl, hP2, hfr2⟩
      rw [HM.out] at hP2 ⊢
      have hB3 : BR w bp toks lv vv st w.heap.size w2 vv st := hB2.go hP2 hfr2 rfl
      go_wp2_with fail
      refine (is_any hB3.P hg (B [40])).mono ?_
      rintro e w3 ⟨b, rfl, rfl, hP3, hfr3⟩
      rw [HO.out] at hP3 ⊢
      have hB4 : BR w bp toks lv vv st w.heap.size w3 vv st.pass := hB3.go hP3 hfr3 rfl
      go_wp2_with (first | (go_at_call 64; refine (HP.out _ _ _ _ _ hB4.P he hv hd).mono ?_; rintro e w4 ⟨cs, vv4, st4, rfl, ⟨z0, z1, z2, z3, z4, z5, z6, rfl⟩, hP4, hfr4, hdp4, hok4⟩; have hB5 := hB4.go hP4 hfr4 hdp4; have hB6 := hB5.go (hP4.alloc (.cells #[.int .u8 z0, .string z1, .int .i64 z2, .int .i64 z3, .slice z4 z5 z6] 125)) ((Fr.refl _ _ _).alloc _) rfl) | (go_at_call 52; refine (must_any hB6.P hg (B [41])).mono ?_; rintro e w5 ⟨rfl, hP5, hfr5⟩; have hB7 := hB6.go hP5 hfr5 (must_deep _ _ _ _); obtain ⟨d0, d1, d2, d3, d4, df⟩ := box5 hB7.res; obtain ⟨c0, c1, c2, c3, c4, cf⟩ := box5 (tok_kept hP4 hfr5)))
      have hE := BR.end_ hB7 (par_end hB4 (Nat.le_succ _) hok4 (((Fr.refl _ _ _).alloc _).trans hfr5))
      exact bodyPost_ret (v := .agg #[.int .u8 z0, .string z1, .int .i64 z2, .int .i64 z3, .slice z4 z5 z6]) (by simp [results, Tryz.results188, go_sem, d0, d1, d2, d3, d4]) rfl hE
    | false =>
      rw [h40] at ho
      have HO := hide ho
      cases h91 : isT t [91] with
      | true =>
        rw [h91] at hl
        have HL := hide hl
        have HT2 : Hid (bareOf toks ex (st.i, st.vars) = listOf toks ex (st.i + 1, st.vars)) := by unfold Hid; rw [HT.out, if_neg (by simp [h45]), if_neg (by simp [h40]), if_pos h91]
        rw [HT2.out]
        clear hm ho hl h45 h40 h91
        have HLI := hide (list_any hg HP.out)
        go_enter Tryz.func188, Tryz.ntmps188
        go_wp2_with (first | (go_at_call 67; refine HN.out.mono ?_; rintro e w1 ⟨rfl, hb1⟩; unfold tokV; have h1 := hB.P.below hb1; have hz1 := h1.lt_size; have hB1 := hB.go h1 (Fr.of_below hb1) rfl; have hbr1 := hB1.bR; have hB2 := hB1.go (h1.alloc (.cells #[.int .u8 t.k, .string t.t, .int .i64 t.a] 133)) ((Fr.refl _ _ _).alloc _) rfl))
        refine (is_any hB2.P hg (B [45])).mono ?_
        rintro e w2 ⟨b, rfl, rfl, hP2, hfr2⟩
        rw [HM.out] at hP2 ⊢
        have hB3 : BR w bp toks lv vv st w.heap.size w2 vv st := hB2.go hP2 hfr2 rfl
        go_wp2_with fail
        refine (is_any hB3.P hg (B [40])).mono ?_
        rintro e w3 ⟨b, rfl, rfl, hP3, hfr3⟩
        rw [HO.out] at hP3 ⊢
        have hB4 : BR w bp toks lv vv st w.heap.size w3 vv st := hB3.go hP3 hfr3 rfl
        go_wp2_with fail
        refine (is_any hB4.P hg (B [91])).mono ?_
        rintro e w4 ⟨b, rfl, rfl, hP4, hfr4⟩
        rw [HL.out] at hP4 ⊢
        have hB5 : BR w bp toks lv vv st w.heap.size w4 vv st.pass := hB4.go hP4 hfr4 rfl
        go_wp2_with (first | (go_at_call 235; refine (HLI.out _ _ _ _ _ hB5.P he hv hd).mono ?_; rintro e w5 ⟨cs, vv5, st5, rfl, ⟨z0, z1, z2, z3, z4, z5, z6, rfl⟩, hP5, hfr5, hdp5, hok5⟩; have hB6 := hB5.go hP5 hfr5 hdp5; obtain ⟨d0, d1, d2, d3, d4, df⟩ := box5 hB6.res))
        have hE := BR.end_ hB6 (bfin_of hB5 (Nat.le_succ _) hok5)
        exact bodyPost_ret (v := .agg #[.int .u8 z0, .string z1, .int .i64 z2, .int .i64 z3, .slice z4 z5 z6]) (by simp [results, Tryz.results188, go_sem, d0, d1, d2, d3, d4]) rfl hE
      | false =>
        rw [h91] at hl
        have HL := hide hl
        have HT2 : Hid (bareOf toks ex (st.i, st.vars) = .error (2, t.a)) := by unfold Hid; rw [HT.out, if_neg (by simp [h45]), if_neg (by simp [h40]), if_neg (by simp [h91])]
        rw [HT2.out]
        clear hm ho hl h45 h40 h91
        go_enter Tryz.func188, Tryz.ntmps188
        go_wp2_with (first | (go_at_call 67; refine HN.out.mono ?_; rintro e w1 ⟨rfl, hb1⟩; unfold tokV; have h1 := hB.P.below hb1; have hz1 := h1.lt_size; have hB1 := hB.go h1 (Fr.of_below hb1) rfl; have hbr1 := hB1.bR; have hB2 := hB1.go (h1.alloc (.cells #[.int .u8 t.k, .string t.t, .int .i64 t.a] 133)) ((Fr.refl _ _ _).alloc _) rfl))
        refine (is_any hB2.P hg (B [45])).mono ?_
        rintro e w2 ⟨b, rfl, rfl, hP2, hfr2⟩
        rw [HM.out] at hP2 ⊢
        have hB3 : BR w bp toks lv vv st w.heap.size w2 vv st := hB2.go hP2 hfr2 rfl
        go_wp2_with fail
        refine (is_any hB3.P hg (B [40])).mono ?_
        rintro e w3 ⟨b, rfl, rfl, hP3, hfr3⟩
        rw [HO.out] at hP3 ⊢
        have hB4 : BR w bp toks lv vv st w.heap.size w3 vv st := hB3.go hP3 hfr3 rfl
        go_wp2_with fail
        refine (is_any hB4.P hg (B [91])).mono ?_
        rintro e w4 ⟨b, rfl, rfl, hP4, hfr4⟩
        rw [HL.out] at hP4 ⊢
        have hB5 : BR w bp toks lv vv st w.heap.size w4 vv st := hB4.go hP4 hfr4 rfl
        go_wp2_with (go_at_call 83; refine (none_any hB5.P hg).mono ?_; rintro e w5 ⟨rfl, hP5, hfr5⟩; have hB6 := hB5.go hP5 hfr5 (PS.fault_deep _ _ _); obtain ⟨d0, d1, d2, d3, d4, df⟩ := box5 hB6.res)
        have hE := BR.end_ (x0 := 0) (x1 := ByteArray.empty) (x2 := 0) (x3 := 0) (x4 := none) (x5 := 0) (x6 := 0) (r := .error (2, t.a)) hB6 (by rw [← HTK.out]; exact ⟨by simp [PS.fault, he], by simp [PS.fault, he], by decide⟩)
        exact bodyPost_ret (v := .agg #[.int .u8 0, .string ByteArray.empty, .int .i64 0, .int .i64 0, .slice none 0 0]) (by simp [results, Tryz.results188, go_sem, d0, d1, d2, d3, d4]; rfl) rfl hE
theorem bare_any {toks : List Tok} {ex : St → R Ex} {d : Int} (hg : GoodToks toks) (hp : Reads 64 toks d ex) : Reads 188 toks d (bareOf toks ex) := by
  intro w bp lv vv st h he hv hd
  by_cases h1 : (tk toks st.i).k = 110
  · exact bare_n hg h he hv h1
  · by_cases h2 : (tk toks st.i).k = 118
    · exact bare_v hg h he hv h2
    · by_cases h3 : (tk toks st.i).k = 97
      · exact bare_a hg hp h he hv hd h3
      · exact bare_s hg hp h he hv hd h1 h2 h3
def zeroCells : List Value := [.int .u8 0, .string ByteArray.empty, .int .i64 0, .int .i64 0, .slice none 0 0]
def primW (w : World) : World := (w.alloc (.cells exZero 125)).alloc (.cells exZero 125)
theorem primW_road {w : World} {bp : Nat} {toks : List Tok} {lv vv : Value} {st : PS} (h : PIn w bp toks lv vv st) : Road w bp toks lv vv st w.heap.size (w.heap.size + 1) (primW w) zeroCells vv st := by
  obtain ⟨m1, m2, m3⟩ := h.new (b := w.heap.size) (Nat.le_refl _)
  obtain ⟨n1, n2, n3⟩ := h.new (b := w.heap.size + 1) (by omega)
  refine ⟨⟨_, _, _, _, _, _, _, rfl⟩, ?_, ?_, (h.alloc _).alloc _, ((Fr.refl _ _ _).alloc _).alloc _, rfl, Nat.le_refl _, by omega, by omega, m3, n3, h.lt_size, fun b e => h.blt b (.inr (.inl e))⟩
  · have := heap_alloc_new (w.alloc (.cells exZero 125)) (.cells exZero 125)
    rw [show (w.alloc (.cells exZero 125)).heap.size = w.heap.size + 1 by simp] at this
    exact this
  · rw [primW, Below.heap_alloc _ _ _ (by simp)]; exact heap_alloc_new _ _
structure DRoad (w : World) (bp : Nat) (toks : List Tok) (lv vv : Value) (br bx : Nat) (wr : World) (cs : List Value) (vv1 : Value) (st1 : PS) : Prop where
  shape : Shape5 cs
  box : wr.heap[bx]? = some (.cells cs.toArray 125 (0, 0))
  res : wr.heap[br]? = some (.cells exZero 125 (0, 0))
  P : PIn wr bp toks lv vv1 st1
  fr : Fr bp vv vv1 w wr
  newR : w.heap.size ≤ br
  newX : w.heap.size ≤ bx
  ne : br ≠ bx
  vR : vv1.ownBlock ≠ some br
  vX : vv1.ownBlock ≠ some bx
  bpold : bp < w.heap.size
  lvold : ∀ b, lv.ownBlock = some b → b < w.heap.size
section
variable {w : World} {bp : Nat} {toks : List Tok} {lv vv : Value} {st : PS} {br bx : Nat} {wr : World} {cs : List Value} {vv1 : Value} {st1 : PS}
theorem Road.d (h : Road w bp toks lv vv st br bx wr cs vv1 st1) : DRoad w bp toks lv vv br bx wr cs vv1 st1 :=
  ⟨h.shape, h.box, h.res, h.P, h.fr, h.newR, h.newX, h.ne, h.vR, h.vX, h.bpold, h.lvold⟩
theorem DRoad.r (h : DRoad w bp toks lv vv br bx wr cs vv1 st1) (hd : st1.deep = st.deep) : Road w bp toks lv vv st br bx wr cs vv1 st1 :=
  ⟨h.shape, h.box, h.res, h.P, h.fr, hd, h.newR, h.newX, h.ne, h.vR, h.vX, h.bpold, h.lvold⟩
theorem DRoad.go {w' : World} {vv2 : Value} {st2 : PS} (h : DRoad w bp toks lv vv br bx wr cs vv1 st1) (hP : PIn w' bp toks lv vv2 st2) (hf : Fr bp vv1 vv2 wr w') : DRoad w bp toks lv vv br bx w' cs vv2 st2 := by
  have hR : br < wr.heap.size := (Array.getElem?_eq_some_iff.1 h.res).1
  have hX : bx < wr.heap.size := (Array.getElem?_eq_some_iff.1 h.box).1
  have n1 : br ≠ bp := by have := h.bpold; have := h.newR; omega
  have n2 : bx ≠ bp := by have := h.bpold; have := h.newX; omega
  exact ⟨h.shape, (hf.block bx hX n2 h.vX).trans h.box, (hf.block br hR n1 h.vR).trans h.res, hP, h.fr.trans hf, h.newR, h.newX, h.ne,
    fun e => (hf.vnew _ e).elim h.vR (fun q => by omega), fun e => (hf.vnew _ e).elim h.vX (fun q => by omega), h.bpold, h.lvold⟩
end
theorem prim_zero {toks : List Tok} (hg : GoodToks toks) : Reads 146 toks 8 (primS toks 0) := by
  intro w bp lv vv st h he hv hd
  have hR0 := (primW_road h).d
  have HE := hide (enter_any hR0.P hg ⟨by omega, by omega⟩)
  obtain ⟨t, ht⟩ : ∃ t, t = tk toks st.i := ⟨_, rfl⟩
  have HT : Hid (primS toks 0 (st.i, st.vars) = .error (4, t.a)) := by unfold Hid; rw [ht]; rfl
  rw [HT.out]
  rw [← ht] at HE
  have hdn : st.down t.a = { st with deep := 9, err := 4, at_ := t.a } := by
    unfold PS.down; rw [if_neg (by omega)]; unfold PS.fault; rw [if_pos he, hd]; rfl
  rw [hdn] at HE
  have hbpz := h.lt_size
  clear ht hdn
  go_enter Tryz.func146, Tryz.ntmps146
  go_wp2_with (go_at_call 129; refine HE.out.mono ?_; rintro e w1 ⟨rfl, hP1, hfr1⟩; have hR1 := hR0.go hP1 hfr1; have p3 := hP1.c3; have pf := hP1.fz 3; obtain ⟨c0, c1, c2, c3, c4, cf⟩ := box5 hR1.box; obtain ⟨d0, d1, d2, d3, d4, df⟩ := box5 hR1.res)
  have hR2 := (hR1.go (hP1.setDeep 8) ((Fr.refl _ _ _).setBp _ _)).r (st := st) hd.symm
  have hE := road_end (r := .error (4, t.a)) hR2 ⟨rfl, rfl, by decide⟩
  exact bodyPost_ret (v := .agg #[.int .u8 0, .string ByteArray.empty, .int .i64 0, .int .i64 0, .slice none 0 0]) (by simp [results, Tryz.results146, go_sem, d0, d1, d2, d3, d4]) rfl hE
theorem DRoad.fill {w : World} {bp : Nat} {toks : List Tok} {lv vv : Value} {br bx : Nat} {wr : World} {cs : List Value} {vv1 : Value} {st1 : PS} (h : DRoad w bp toks lv vv br bx wr cs vv1 st1) (x0 : Int) (x1 : ByteArray) (x2 x3 : Int) (x4 : Option Addr) (x5 x6 : Nat) :
    DRoad w bp toks lv vv br bx (set5 wr bx (.int .u8 x0) (.string x1) (.int .i64 x2) (.int .i64 x3) (.slice x4 x5 x6)) [.int .u8 x0, .string x1, .int .i64 x2, .int .i64 x3, .slice x4 x5 x6] vv1 st1 :=
  ((h.r (st := st1) rfl).fill x0 x1 x2 x3 x4 x5 x6).d
theorem prim_fin {w W w4 w5 : World} {bp : Nat} {toks : List Tok} {lv vv vv0 vv3 : Value} {st st2 st3 st5 : PS} {br bx : Nat} {cs ds : List Value} {r : R Ex} (hR : DRoad w bp toks lv vv br bx W cs vv0 st2) (hok : ErOk r st2 W w4 bp vv3 st3 ds) (hi : st.i ≤ st2.i)
    (h5 : st5.err = st3.err ∧ st5.at_ = st3.at_ ∧ st5.i = st3.i ∧ st5.vars = st3.vars) (hw : ∀ b, b ≠ bx → b ≠ bp → w5.heap[b]? = w4.heap[b]?) : Fin w bp vv3 st br bx w5 ds st5 r := by
  obtain ⟨a1, a2, a3, a4⟩ := h5
  cases r with
  | error e => obtain ⟨e1, e2, e3⟩ := hok; exact ⟨a1.trans e1, a2.trans e2, e3⟩
  | ok p =>
    obtain ⟨f1, f2, f3, f4, f5, f6⟩ := hok
    have hR1 : br < W.heap.size := (Array.getElem?_eq_some_iff.1 hR.res).1
    have hX1 : bx < W.heap.size := (Array.getElem?_eq_some_iff.1 hR.box).1
    have hs := hR.fr.size
    refine ⟨a1.trans f1, a3.trans f2, a4.trans f3, by omega, f5, ERep.frame (fun b hb _ => ?_) f6⟩
    exact ⟨hw b (by have := hb.1; omega) hb.2.1, by have := hb.1; omega, hb.2.1, hb.2.2, by have := hb.1; omega, by have := hb.1; omega⟩
theorem PIn.c3' {w : World} {bp : Nat} {toks : List Tok} {lv vv : Value} {st : PS} {d : Int} (h : PIn w bp toks lv vv st) (e : st.deep = d) : w.cell? ⟨bp, 3, none⟩ = some (.int .i64 d) := by rw [h.c3, e]
theorem prim_succ {toks : List Tok} (hg : GoodToks toks) (k : Nat) (hk : k < 8) (hb : Reads 188 toks (8 - (k : Int)) (bareOf toks (exprOf toks (primS toks k)))) : Reads 146 toks (8 - ((k + 1 : Nat) : Int)) (primS toks (k + 1)) := by
  intro w bp lv vv st h he hv hd
  have hR0 := (primW_road h).d
  have hdd : st.deep = 7 - (k : Int) := by omega
  have HE := hide (enter_any hR0.P hg ⟨by omega, by omega⟩)
  have hdn : st.down (tk toks st.i).a = { st with deep := st.deep + 1 } := by unfold PS.down; rw [if_pos (by omega)]
  rw [hdn] at HE
  have he0 : (({ st with deep := st.deep + 1 } : PS).err == 0) = true := by show (st.err == 0) = true; simpa using he
  rw [he0] at HE
  have hbpz := h.lt_size
  have HB := hide hb
  have hde : ({ st with deep := st.deep + 1 } : PS).deep = 8 - (k : Int) := by show st.deep + 1 = _; omega
  have HD := hide hdd
  have HDE := hide hde
  have hlo : 0 ≤ st.deep := by omega
  have hhi : st.deep ≤ 7 := by omega
  clear hdn hb hdd hd hde
  go_enter Tryz.func146, Tryz.ntmps146
  go_wp2_with (first | (go_at_call 129; refine HE.out.mono ?_; rintro e w1 ⟨rfl, hP1, hfr1⟩; have hR1 := hR0.go hP1 hfr1) | (go_at_call 188; refine (HB.out _ _ _ _ _ hP1 he hv HDE.out).mono ?_; rintro e w2 ⟨ds, vv2, st2, rfl, ⟨z0, z1, z2, z3, z4, z5, z6, rfl⟩, hP2, hfr2, hdp2, hok2⟩; have hR2 := hR1.go hP2 hfr2; obtain ⟨c0, c1, c2, c3, c4, cf⟩ := box5 hR2.box; obtain ⟨d0, d1, d2, d3, d4, df⟩ := box5 hR2.res; have p3 := PIn.c3' hP2 hdp2; have pf := hP2.fz 3))
  have hR3 := hR2.fill z0 z1 z2 z3 z4 z5 z6
  have hR4 := (hR3.go (hR3.P.setDeep st.deep) ((Fr.refl _ _ _).setBp _ _)).r (st := st) rfl
  have hfin := prim_fin (st := st) (st5 := { st2 with deep := st.deep }) hR1 hok2 (Nat.le_refl _) ⟨rfl, rfl, rfl, rfl⟩
    (w5 := (set5 w2 (w.heap.size + 1) (.int .u8 z0) (.string z1) (.int .i64 z2) (.int .i64 z3) (.slice z4 z5 z6)).setCell ⟨bp, 3, none⟩ (.int .i64 st.deep))
    (fun b q1 q2 => (Below.heap_setCell _ _ _ _ q2).trans (set5_other _ _ _ _ _ _ _ _ q1))
  have hE := road_end hR4 hfin
  exact bodyPost_ret (v := .agg #[.int .u8 z0, .string z1, .int .i64 z2, .int .i64 z3, .slice z4 z5 z6]) (by simp [results, Tryz.results146, go_sem, d0, d1, d2, d3, d4]) rfl hE
theorem prim_at {toks : List Tok} (hg : GoodToks toks) : ∀ k : Nat, k ≤ 8 → Reads 146 toks (8 - (k : Int)) (primS toks k)
  | 0, _ => prim_zero hg
  | k + 1, h => prim_succ hg k (by omega) (bare_any hg (expr_any hg (product_any hg (prim_at hg k (by omega)))))
theorem expr_at {toks : List Tok} (hg : GoodToks toks) : Reads 64 toks 0 (exprS toks 8) := expr_any hg (product_any hg (prim_at hg 8 (Nat.le_refl _)))
structure GoodTok (t : Tok) : Prop where
  noend : t.k ≠ 101
  num : t.k = 110 → t.t.size ≤ 9 ∧ AllDig t.t.data.toList
  place : t.a ≤ 2000
theorem wordK_num {l : List UInt8} (h : wordK l = 110) : l.length ≤ 9 ∧ AllDig l := by
  unfold wordK at h
  split at h
  · cases h
  · split at h
    · cases h
    · split at h
      · cases h
      · rename_i h3
        split at h
        · rename_i h4
          refine ⟨by omega, fun c hc => ?_⟩
          have := List.all_eq_true.1 h4 c hc
          simpa using this
        · cases h
theorem wordK_noend (l : List UInt8) : wordK l ≠ 101 := by
  unfold wordK
  repeat' split
  all_goals decide
theorem lex_good {s : ByteArray} (hs : s.size ≤ 2000) : ∀ (f i : Nat) (acc l : List Tok), lexGo s f i acc = .ok l → i ≤ s.size → acc.length ≤ i → (∀ t ∈ acc, GoodTok t) → l.length ≤ s.size ∧ ∀ t ∈ l, GoodTok t
  | 0, i, acc, l, h, hi, ha, hg => by
    cases h; exact ⟨by omega, hg⟩
  | f + 1, i, acc, l, h, hi, ha, hg => by
    rw [lexGo] at h
    split at h
    · rename_i hlt
      split at h
      · exact lex_good hs f (i + 1) acc l h (by omega) (by omega) hg
      · split at h
        · rename_i hw
          split at h
          · cases h
          · have hle := wordEnd_le s i hi
            refine lex_good hs f _ _ l h hle (by simp; omega) (fun t ht => ?_)
            rcases List.mem_append.1 ht with ht | ht
            · exact hg t ht
            · have ht := List.mem_singleton.1 ht
              subst ht
              refine ⟨wordK_noend _, fun hk => ?_, by show i ≤ 2000; omega⟩
              have h2 := wordK_num hk
              exact ⟨by have h3 := h2.1; rw [Array.length_toList] at h3; exact h3, h2.2⟩
        · split at h
          · cases h
          · rename_i hne
            have hfit := signAt_fits s i hlt
            rw [B_size] at hfit
            have hpos : 0 < (signAt s i).length := List.length_pos_iff.2 hne
            refine lex_good hs f _ _ l h hfit (by simp; omega) (fun t ht => ?_)
            rcases List.mem_append.1 ht with ht | ht
            · exact hg t ht
            · have ht := List.mem_singleton.1 ht
              subst ht
              exact ⟨by show (115 : Int) ≠ 101; decide, fun hk => absurd hk (by show (115 : Int) ≠ 110; decide), by show i ≤ 2000; omega⟩
    · cases h; exact ⟨by omega, hg⟩
theorem good_toks {s : ByteArray} (hs : s.size ≤ 2000) {l : List Tok} (h : lexS s = .ok l) : GoodToks (withEnd s l) := by
  obtain ⟨hl, hg⟩ := lex_good hs s.size 0 [] l h (by omega) (by simp) (by simp)
  have hlen : (withEnd s l).length = l.length + 1 := by simp [withEnd]
  have hin : ∀ i, i < l.length → tk (withEnd s l) i ∈ l := fun i hi => by
    have : tk (withEnd s l) i = l[i] := by simp [tk, withEnd, List.getD_eq_getElem?_getD, List.getElem?_append_left hi, List.getElem?_eq_getElem hi]
    rw [this]; exact List.getElem_mem hi
  have hend : tk (withEnd s l) l.length = ⟨101, ByteArray.empty, s.size⟩ := by simp [tk, withEnd]
  have hout : ∀ i, l.length < i → tk (withEnd s l) i = ⟨101, ByteArray.empty, 0⟩ := fun i hi => by
    simp only [tk, List.getD_eq_getElem?_getD]
    rw [List.getElem?_eq_none (by omega)]; rfl
  refine ⟨by omega, by omega, by rw [hlen, Nat.add_sub_cancel, hend], fun i hi => (hg _ (hin i (by omega))).noend, fun i hk => ?_, fun i => ?_⟩
  · rcases Nat.lt_trichotomy i l.length with h1 | h1 | h1
    · exact (hg _ (hin i h1)).num hk
    · rw [h1, hend] at hk; exact absurd hk (by show (101 : Int) ≠ 110; decide)
    · rw [hout i h1] at hk; exact absurd hk (by show (101 : Int) ≠ 110; decide)
  · rcases Nat.lt_trichotomy i l.length with h1 | h1 | h1
    · exact (hg _ (hin i h1)).place
    · rw [h1, hend]; exact hs
    · rw [hout i h1]; exact Nat.zero_le _
def BegunPost (s : ByteArray) (w : World) (e : Ending) (w' : World) : Prop :=
  Below w.heap.size w w' ∧
  (if 2000 < s.size then e = .returned (.tuple #[.pointer none, .int .i64 1, .int .i64 0])
   else match lexS s with
    | .error p => e = .returned (.tuple #[.pointer none, .int .i64 2, .int .i64 p])
    | .ok l => ∃ bp lv, e = .returned (.tuple #[.pointer (some ⟨bp, 0, none⟩), .int .i64 0, .int .i64 (-1)]) ∧ w.heap.size ≤ bp ∧ PIn w' bp (withEnd s l) lv (.slice none 0 0) ⟨0, [], 0, 0, 0⟩ ∧ (∀ b, lv.ownBlock = some b → w.heap.size ≤ b))
theorem begun_in {s : ByteArray} {w w1 : World} {l : List Tok} {v : Value} (ho : w1.ownsRow w.heap.size 133 3 v (withEnd s l).length (tokCells (withEnd s l))) (hg : GoodToks (withEnd s l)) :
    PIn (w1.alloc (.cells #[v, .int .i64 0, .slice none 0 0, .int .i64 0, .int .i64 0, .int .i64 0] 101)) w1.heap.size (withEnd s l) v (.slice none 0 0) ⟨0, [], 0, 0, 0⟩ := by
  refine ⟨heap_alloc_new _ _, (ownsRow_base ho (Nat.zero_le _)).alloc _, World.ownsRow_nil _ _ _ _, fun e => ?_, by simp [Value.ownBlock], .inl rfl, hg.pos, by simp⟩
  have := (ho.lt _ e).2
  omega
theorem begun_any (s : ByteArray) (w : World) (hs : s.size ≤ 32768) : Calls Tryz.prog 50 #[.string s] w fun e w' => BegunPost s w e w' := by
  by_cases h2 : 2000 < s.size
  · have h2' : (2000 : Int) < (s.size : Int) := by omega
    go_enter Tryz.func50, Tryz.ntmps50
    go_wp2
    go_ret3
    exact ⟨Below.refl _ _, by rw [if_pos h2]; rfl⟩
  · have h2' : ¬ (2000 : Int) < (s.size : Int) := by omega
    have HL := hide (lex_any s w (by omega))
    cases hl : lexS s with
    | error p =>
      have HLe : Hid (Calls Tryz.prog 79 #[.string s] w fun e w' => Below w.heap.size w w' ∧ e = .returned (.tuple #[.slice none 0 0, .int .i64 p])) :=
        HL.out.mono fun e w' he => by unfold lexPost at he; rw [hl] at he; exact he
      have HLS := hide hl
      clear hl
      go_enter Tryz.func50, Tryz.ntmps50
      go_wp2_with (go_at_call 79; refine HLe.out.mono ?_; rintro e w1 ⟨hb, rfl⟩)
      go_ret3
      exact ⟨hb, by rw [if_neg h2, HLS.out]; rfl⟩
    | ok l =>
      have HLe : Hid (Calls Tryz.prog 79 #[.string s] w fun e w' => Below w.heap.size w w' ∧ ∃ v, e = .returned (.tuple #[v, .int .i64 (-1)]) ∧ w'.ownsRow w.heap.size 133 3 v (withEnd s l).length (tokCells (withEnd s l))) :=
        HL.out.mono fun e w' he => by unfold lexPost at he; rw [hl] at he; exact he
      have hg := good_toks (by omega) hl
      have HLS := hide hl
      clear hl
      go_enter Tryz.func50, Tryz.ntmps50
      go_wp2_with (go_at_call 79; refine HLe.out.mono ?_; rintro e w1 ⟨hb, v, rfl, ho⟩; obtain ⟨ao, cap, hv⟩ := row_form ho; subst hv)
      go_ret3
      refine ⟨hb.alloc hb.size _, ?_⟩
      rw [if_neg h2, HLS.out]
      exact ⟨w1.heap.size, _, rfl, hb.size, begun_in ho hg, fun b e => (ho.lt b e).1⟩
def PS.fin (st : PS) (t : Tok) : PS := if st.err = 0 ∧ t.k ≠ 101 then st.fault 2 t.a else st
theorem finished_any {w : World} {bp : Nat} {toks : List Tok} {lv vv : Value} {st : PS} (h : PIn w bp toks lv vv st) (hg : GoodToks toks) :
    Calls Tryz.prog 53 #[.pointer (some ⟨bp, 0, none⟩)] w fun e w' =>
      e = .returned (.tuple #[]) ∧ PIn w' bp toks lv vv (st.fin (tk toks st.i)) ∧ Fr bp vv vv w w' := by
  have HN := hide (next_any h hg)
  obtain ⟨t, ht⟩ : ∃ t, t = tk toks st.i := ⟨_, rfl⟩
  have HNo : Hid (∀ (w' : World), PIn w' bp toks lv vv st → Calls Tryz.prog 83 #[.pointer (some ⟨bp, 0, none⟩)] w' fun e w'' => e = .returned (.tuple #[]) ∧ PIn w'' bp toks lv vv (st.fault 2 t.a) ∧ Fr bp vv vv w' w'') :=
    fun w' h' => by rw [ht]; exact none_any h' hg
  rw [← ht] at HN ⊢
  clear ht
  by_cases he : st.err = 0
  · by_cases hk : t.k = 101
    · have HF : Hid (st.fin t = st) := by unfold Hid PS.fin; rw [if_neg (by rintro ⟨_, q⟩; exact q hk)]
      have he' : (st.err == 0) = true := by simpa using he
      have hk' : (t.k == 101) = true := by simpa using hk
      rw [HF.out]
      clear he hk
      go_enter Tryz.func53, Tryz.ntmps53
      go_wp2_with (go_at_call 67; refine HN.out.mono ?_; rintro e w1 ⟨rfl, hb⟩; unfold tokV; have h1 := h.below hb; have c4 := h1.c4; have hz1 := h1.lt_size)
      go_end0
      exact ⟨rfl, h1.alloc _, (Fr.of_below hb).alloc _⟩
    · have HF : Hid (st.fin t = st.fault 2 t.a) := by unfold Hid PS.fin; rw [if_pos ⟨he, hk⟩]
      have he' : (st.err == 0) = true := by simpa using he
      have hk' : (t.k == 101) = false := by simpa using hk
      rw [HF.out]
      clear he hk
      go_enter Tryz.func53, Tryz.ntmps53
      go_wp2_with (first | (go_at_call 67; refine HN.out.mono ?_; rintro e w1 ⟨rfl, hb⟩; unfold tokV; have h1 := h.below hb; have c4 := h1.c4; have hz1 := h1.lt_size) | (go_at_call 83; refine (HNo.out _ (h1.alloc _)).mono ?_; rintro e w2 ⟨rfl, hP2, hfr2⟩))
      go_end0
      exact ⟨rfl, hP2, ((Fr.of_below hb).alloc _).trans hfr2⟩
  · have HF : Hid (st.fin t = st) := by unfold Hid PS.fin; rw [if_neg (by rintro ⟨q, _⟩; exact he q)]
    have he' : (st.err == 0) = false := by simpa using he
    rw [HF.out]
    clear he
    go_enter Tryz.func53, Tryz.ntmps53
    go_wp2_with (go_at_call 67; refine HN.out.mono ?_; rintro e w1 ⟨rfl, hb⟩; unfold tokV; have h1 := h.below hb; have c4 := h1.c4; have hz1 := h1.lt_size)
    go_end0
    exact ⟨rfl, h1.alloc _, (Fr.of_below hb).alloc _⟩
def clauseZero : Array Value := #[.string ByteArray.empty, .slice none 0 0, .int .u8 0, .string ByteArray.empty, .slice none 0 0, .slice none 0 0, .slice none 0 0]
theorem box7 {w : World} {b : Nat} {x0 x1 x2 x3 x4 x5 x6 : Value} {T : TypeId} (h : w.heap[b]? = some (.cells #[x0, x1, x2, x3, x4, x5, x6] T (0, 0))) :
    w.cell? ⟨b, 0, none⟩ = some x0 ∧ w.cell? ⟨b, 1, none⟩ = some x1 ∧ w.cell? ⟨b, 2, none⟩ = some x2 ∧ w.cell? ⟨b, 3, none⟩ = some x3 ∧ w.cell? ⟨b, 4, none⟩ = some x4 ∧ w.cell? ⟨b, 5, none⟩ = some x5 ∧ w.cell? ⟨b, 6, none⟩ = some x6 ∧ ∀ j, w.frozen? ⟨b, j, none⟩ = false :=
  ⟨by rw [cell_of_block h]; rfl, by rw [cell_of_block h]; rfl, by rw [cell_of_block h]; rfl, by rw [cell_of_block h]; rfl, by rw [cell_of_block h]; rfl, by rw [cell_of_block h]; rfl, by rw [cell_of_block h]; rfl, fun j => by simp [World.frozen?, h]⟩
theorem Fr.below {bp : Nat} {v0 v1 : Value} {a b : World} (h : Fr bp v0 v1 a b) {n : Nat} (hb : n ≤ bp) (hv : ∀ x, v0.ownBlock = some x → n ≤ x) (hn : n ≤ a.heap.size) : Below n a b :=
  ⟨h.os, h.tape, h.output, h.size, fun k hk => h.block k (by omega) (by omega) (fun e => by have := hv k e; omega)⟩
theorem termBox {w w1 : World} (hb : Below (w.alloc (.cells clauseZero 50)).heap.size (w.alloc (.cells clauseZero 50)) w1) : w1.heap[w.heap.size]? = some (.cells clauseZero 50 (0, 0)) := by
  rw [hb.block _ (by simp)]; exact heap_alloc_new _ _
theorem termBelow {w w1 : World} {o : Obj} (hb : Below (w.alloc o).heap.size (w.alloc o) w1) : Below w.heap.size w w1 :=
  ((Below.refl _ _).alloc (Nat.le_refl _) o).trans (hb.mono (by simp))
theorem below_set7 {n : Nat} {a w : World} (h : Below n a w) {b : Nat} (hb : n ≤ b) (x0 x1 x2 x3 x4 x5 x6 : Value) :
    Below n a (((((((w.setCell ⟨b, 0, none⟩ x0).setCell ⟨b, 1, none⟩ x1).setCell ⟨b, 2, none⟩ x2).setCell ⟨b, 3, none⟩ x3).setCell ⟨b, 4, none⟩ x4).setCell ⟨b, 5, none⟩ x5).setCell ⟨b, 6, none⟩ x6) :=
  ((((((h.setCell hb x0).setCell hb x1).setCell hb x2).setCell hb x3).setCell hb x4).setCell hb x5).setCell hb x6
def set7 (w : World) (b : Nat) (x0 x1 x2 x3 x4 x5 x6 : Value) : World :=
  ((((((w.setCell ⟨b, 0, none⟩ x0).setCell ⟨b, 1, none⟩ x1).setCell ⟨b, 2, none⟩ x2).setCell ⟨b, 3, none⟩ x3).setCell ⟨b, 4, none⟩ x4).setCell ⟨b, 5, none⟩ x5).setCell ⟨b, 6, none⟩ x6
theorem set7_other (w : World) (b : Nat) (x0 x1 x2 x3 x4 x5 x6 : Value) (k : Nat) (h : k ≠ b) : (set7 w b x0 x1 x2 x3 x4 x5 x6).heap[k]? = w.heap[k]? := by
  unfold set7
  rw [Below.heap_setCell _ _ _ _ h, Below.heap_setCell _ _ _ _ h, Below.heap_setCell _ _ _ _ h, Below.heap_setCell _ _ _ _ h, Below.heap_setCell _ _ _ _ h, Below.heap_setCell _ _ _ _ h, Below.heap_setCell _ _ _ _ h]
end Go.Proofs.YtodpkdajbnceoaaGreatDoor
